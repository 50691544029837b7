/- Size and First: contracts. -/
import Derived.Test.YtjkaenjegcojhaaDoorGlyC
import Derived.Laws.Strings
namespace Go.Proofs.YtjkaenjegcojhaaDoor
open Go.RowKit
set_option linter.unusedVariables false
set_option linter.unusedSimpArgs false

theorem sz_small (l : List UInt8) (h : nb l 0 < 128) : szN l = 1 := by rw [szN, if_pos h]
theorem sz_short (l : List UInt8) (h : 128 ≤ nb l 0) (h2 : l.length < leadN (nb l 0)) : szN l = 0 := by rw [szN, if_neg (by omega), if_pos h2]
theorem sz_cont (l : List UInt8) (h : 128 ≤ nb l 0) (j : Nat) (h2 : j < leadN (nb l 0)) (h3 : 1 ≤ j) (h4 : ¬ contN l j) : szN l = 0 := by
  rw [szN, if_neg (by omega)]
  split
  · rfl
  · rw [if_neg (fun hh => h4 (hh j h2 h3))]
theorem sz_bad (l : List UInt8) (h : 128 ≤ nb l 0) (h2 : 2 < leadN (nb l 0)) (h3 : badD (nb l 0) (nb l 1)) : szN l = 0 := by
  rw [szN, if_neg (by omega)]
  split
  · rfl
  · split
    · rw [if_pos ⟨h2, h3⟩]
    · rfl
theorem sz_good (l : List UInt8) (h : 128 ≤ nb l 0) (h1 : leadN (nb l 0) ≤ l.length) (h2 : ∀ j, j < leadN (nb l 0) → 1 ≤ j → contN l j) (h3 : ¬ (2 < leadN (nb l 0) ∧ badD (nb l 0) (nb l 1))) : szN l = leadN (nb l 0) := by
  rw [szN, if_neg (by omega), if_neg (by omega), if_pos h2, if_neg h3]
theorem at_nb (l : List UInt8) (k : Nat) (hk : k < l.length) (w : World) : (Instr.index 9 (.string (str l)) (.int .i64 (k : Int))).run Tryd.prog w = .ok (.int .u8 (nb l k : Int)) w := by
  have hs : k < (str l).size := by rw [str_size]; exact hk
  have h2 : (str l)[k]'hs = l.getD k 0 := by
    rw [List.getD_eq_getElem?_getD, List.getElem?_eq_getElem hk]
    show (str l).data[k] = l[k]
    simp [str]
    rfl
  have h3 : (str l)[k]! = l.getD k 0 := by
    rw [← h2]
    exact getElem!_pos (str l) k hs
  simp only [Instr.index, Sem.run_bind, run_underlying Tryd.underlying9, Result.andThen]
  simp [asIntOf, str_size, hk, h2, h3, nb, go_sem]

set_option maxRecDepth 20000 in
set_option maxHeartbeats 8000000 in
theorem rsize_is (l : List UInt8) (h : 0 < l.length) (hl : l.length ≤ 1000) (W : World) : Calls Tryd.prog 33 #[.string (str l)] W fun e w' => e = .returned (.int .i64 (szN l : Nat)) ∧ W = w' := by
  have hb := nb_lt l 0
  have i0 : ∀ w, (Instr.index 9 (.string (str l)) (.int .i64 0)).run Tryd.prog w = .ok (.int .u8 (nb l 0 : Int)) w := fun w => at_nb l 0 h w
  have HI := hid (fun k hk w => at_nb l k hk w)
  have HB := hid (nb_lt l)
  have H1 := hid (sz_small l)
  have H2 := hid (sz_short l)
  have H3 := hid (sz_cont l)
  have H4 := hid (sz_bad l)
  have H5 := hid (sz_good l)
  have HLEN := hid (str_size l)
  have hls : ((str l).size : Int) ≤ 1000 := by rw [str_size]; omega
  have HL2 : Hid (∀ n : Nat, n ≤ 4 → ((((str l).size : Int) < (n : Int)) ↔ l.length < n)) := hid (fun n _ => by rw [str_size]; omega)
  clear h
  have HLE : Hid (∀ n : Nat, leadN (nb l 0) = n → leadN (nb l 0) = n) := hid (fun n h => h)
  obtain ⟨n, hn⟩ : ∃ n, leadN (nb l 0) = n := ⟨_, rfl⟩
  rw [hn] at H2 H3 H4 H5
  have HC0 : Hid (∃ c, nb l 0 = c) := hid ⟨_, rfl⟩
  clear HLE HC0
  generalize nb l 0 = c at *
  have hwc : IntKind.i64.wrap (c : Int) = (c : Int) := by simp [IntKind.wrap, IntKind.bits, IntKind.signed]; omega
  by_cases hc : c < 128
  · have HS := hid (H1.out hc)
    clear H1 H2 H3 H4 H5 hn
    go_enter Tryd.func33, Tryd.ntmps33
    go_wp2
    go_ret
    exact ⟨by rw [HS.out]; rfl, rfl⟩
  · have hc2 : 128 ≤ c := by omega
    replace H2 := hid (H2.out hc2)
    replace H3 := hid (H3.out hc2)
    replace H4 := hid (H4.out hc2)
    replace H5 := hid (H5.out hc2)
    clear H1 hc
    have hn4 : n ≤ 4 := by
      rw [← hn]; unfold leadN
      split
      · omega
      · split
        · omega
        · split <;> omega
    have hn4 : n ≤ 4 := by
      rw [← hn]; unfold leadN
      split
      · omega
      · split
        · omega
        · split <;> omega
    by_cases hsh : l.length < n
    · have HS := hid (H2.out hsh)
      have hs2 := (HL2.out n hn4).2 hsh
      clear H2 H3 H4 H5 HI hn4
      rcases (by omega : c < 194 ∨ (194 ≤ c ∧ c < 224) ∨ (224 ≤ c ∧ c < 240) ∨ (240 ≤ c ∧ c < 245) ∨ 245 ≤ c) with h2 | h2 | h2 | h2 | h2
      · obtain rfl : n = 0 := by rw [← hn]; unfold leadN; rw [if_neg (by omega), if_neg (by omega), if_neg (by omega)]
        clear hn
        omega
      · obtain rfl : n = 2 := by rw [← hn]; unfold leadN; rw [if_pos (by omega)]
        clear hn
        go_enter Tryd.func33, Tryd.ntmps33
        go_wp2
        go_ret
        exact ⟨by rw [HS.out]; rfl, rfl⟩
      · obtain rfl : n = 3 := by rw [← hn]; unfold leadN; rw [if_neg (by omega), if_pos (by omega)]
        clear hn
        go_enter Tryd.func33, Tryd.ntmps33
        go_wp2
        go_ret
        exact ⟨by rw [HS.out]; rfl, rfl⟩
      · obtain rfl : n = 4 := by rw [← hn]; unfold leadN; rw [if_neg (by omega), if_neg (by omega), if_pos (by omega)]
        clear hn
        go_enter Tryd.func33, Tryd.ntmps33
        go_wp2
        go_ret
        exact ⟨by rw [HS.out]; rfl, rfl⟩
      · obtain rfl : n = 0 := by rw [← hn]; unfold leadN; rw [if_neg (by omega), if_neg (by omega), if_neg (by omega)]
        clear hn
        omega
    · have hs2 : (n : Int) ≤ ((str l).size : Int) := by rw [HLEN.out]; omega
      replace H5 := hid (H5.out (by omega))
      clear H2 hn4
      rcases (by omega : c < 194 ∨ (194 ≤ c ∧ c < 224) ∨ c = 224 ∨ c = 237 ∨ (225 ≤ c ∧ c < 240 ∧ c ≠ 237) ∨ c = 240 ∨ c = 244 ∨ (241 ≤ c ∧ c < 244) ∨ 245 ≤ c) with h2 | h2 | h2 | h2 | h2 | h2 | h2 | h2 | h2
      · obtain rfl : n = 0 := by rw [← hn]; unfold leadN; rw [if_neg (by omega), if_neg (by omega), if_neg (by omega)]
        have HS := hid (H5.out (fun j hj => by omega) (by omega))
        clear hn H3 H4 H5 HI
        go_enter Tryd.func33, Tryd.ntmps33
        go_wp2_with fail
        refine wp_loop_rounds 1 ?_
        rw [rounds_succ]
        go_wp2
        go_ret
        exact ⟨by rw [HS.out]; rfl, rfl⟩
      · obtain rfl : n = 2 := by rw [← hn]; unfold leadN; rw [if_pos (by omega)]
        clear hn
        go_enter Tryd.func33, Tryd.ntmps33
        go_wp2_with fail
        go_loop [5] (fun iv => ∃ k : Nat, 1 ≤ k ∧ k ≤ 2 ∧ iv = .int .i64 (k : Int) ∧ Hid (∀ j, j < k → 1 ≤ j → contN l j)) (fun iv => 2 - (intOf iv).toNat)
        case atStart => exact ⟨1, by omega, by omega, rfl, fun j _ _ => by omega⟩
        case round =>
          obtain ⟨k, hk1, hk, rfl, HT⟩ := hrel
          by_cases hlt : k < 2
          · have hlt2 : (k : Int) < 2 := by omega
            have ik := HI.out k (by omega)
            have hd := HB.out k
            have H3k := hid (H3.out k hlt hk1)
            have HT2 := hid (fun h : contN l k => (fun j hj hj1 => by
              by_cases e : j = k
              · rw [e]; exact h
              · exact HT.out j (by omega) hj1 : ∀ j, j < k + 1 → 1 ≤ j → contN l j))
            by_cases hcn : contN l k
            · replace HT2 := hid (HT2.out hcn)
              have hlo : 128 ≤ nb l k := hcn.1
              have hhi : nb l k ≤ 191 := hcn.2
              clear hcn HT
              generalize nb l k = d at ik hd hlo hhi
              go_wp2
              go_round
              case rel => exact ⟨k + 1, by omega, by omega, by go_num, HT2.out⟩
              case measure => simp [intOf]; omega
            · have HS := hid (H3k.out hcn)
              have hx : nb l k < 128 ∨ 191 < nb l k := by unfold contN at hcn; omega
              clear hcn HT
              generalize nb l k = d at ik hd hx
              rcases hx with hx | hx
              · go_wp2
                go_ret
                exact ⟨by rw [HS.out]; rfl, rfl⟩
              · go_wp2
                go_ret
                exact ⟨by rw [HS.out]; rfl, rfl⟩
          · obtain rfl : k = 2 := by omega
            have HS := hid (H5.out (fun j hj hj1 => HT.out j hj hj1) (by omega))
            clear H3 H4 H5 HI HT hlt
            go_wp2
            go_ret
            exact ⟨by rw [HS.out]; rfl, rfl⟩
      · obtain rfl : c = 224 := h2
        obtain rfl : n = 3 := by rw [← hn]; unfold leadN; rw [if_neg (by omega), if_pos (by omega)]
        clear hn
        go_enter Tryd.func33, Tryd.ntmps33
        go_wp2_with fail
        go_loop [5] (fun iv => ∃ k : Nat, 1 ≤ k ∧ k ≤ 3 ∧ iv = .int .i64 (k : Int) ∧ Hid (∀ j, j < k → 1 ≤ j → contN l j)) (fun iv => 3 - (intOf iv).toNat)
        case atStart => exact ⟨1, by omega, by omega, rfl, fun j _ _ => by omega⟩
        case round =>
          obtain ⟨k, hk1, hk, rfl, HT⟩ := hrel
          by_cases hlt : k < 3
          · have hlt2 : (k : Int) < 3 := by omega
            have ik := HI.out k (by omega)
            have hd := HB.out k
            have H3k := hid (H3.out k hlt hk1)
            have HT2 := hid (fun h : contN l k => (fun j hj hj1 => by
              by_cases e : j = k
              · rw [e]; exact h
              · exact HT.out j (by omega) hj1 : ∀ j, j < k + 1 → 1 ≤ j → contN l j))
            by_cases hcn : contN l k
            · replace HT2 := hid (HT2.out hcn)
              have hlo : 128 ≤ nb l k := hcn.1
              have hhi : nb l k ≤ 191 := hcn.2
              clear hcn HT
              generalize nb l k = d at ik hd hlo hhi
              go_wp2
              go_round
              case rel => exact ⟨k + 1, by omega, by omega, by go_num, HT2.out⟩
              case measure => simp [intOf]; omega
            · have HS := hid (H3k.out hcn)
              have hx : nb l k < 128 ∨ 191 < nb l k := by unfold contN at hcn; omega
              clear hcn HT
              generalize nb l k = d at ik hd hx
              rcases hx with hx | hx
              · go_wp2
                go_ret
                exact ⟨by rw [HS.out]; rfl, rfl⟩
              · go_wp2
                go_ret
                exact ⟨by rw [HS.out]; rfl, rfl⟩
          · obtain rfl : k = 3 := by omega
            have HBD := hid (H4.out (by omega))
            have HGD := hid (fun (h : ¬ badD 224 (nb l 1)) => H5.out (fun j hj hj1 => HT.out j hj hj1) (fun hh => h hh.2))
            have i1 : ∀ w, (Instr.index 9 (.string (str l)) (.int .i64 1)).run Tryd.prog w = .ok (.int .u8 (nb l 1 : Int)) w := fun w => at_nb l 1 (by omega) w
            have hb1 := HB.out 1
            clear H3 H4 H5 HI HT hlt
            generalize nb l 1 = d at *
            have hwd : IntKind.i64.wrap (d : Int) = (d : Int) := by simp [IntKind.wrap, IntKind.bits, IntKind.signed]; omega
            go_wp2
            all_goals go_ret
            all_goals first
              | exact ⟨by rw [HBD.out (by unfold badD; omega)]; rfl, rfl⟩
              | exact ⟨by rw [HGD.out (by unfold badD; omega)]; rfl, rfl⟩
      · obtain rfl : c = 237 := h2
        obtain rfl : n = 3 := by rw [← hn]; unfold leadN; rw [if_neg (by omega), if_pos (by omega)]
        clear hn
        go_enter Tryd.func33, Tryd.ntmps33
        go_wp2_with fail
        go_loop [5] (fun iv => ∃ k : Nat, 1 ≤ k ∧ k ≤ 3 ∧ iv = .int .i64 (k : Int) ∧ Hid (∀ j, j < k → 1 ≤ j → contN l j)) (fun iv => 3 - (intOf iv).toNat)
        case atStart => exact ⟨1, by omega, by omega, rfl, fun j _ _ => by omega⟩
        case round =>
          obtain ⟨k, hk1, hk, rfl, HT⟩ := hrel
          by_cases hlt : k < 3
          · have hlt2 : (k : Int) < 3 := by omega
            have ik := HI.out k (by omega)
            have hd := HB.out k
            have H3k := hid (H3.out k hlt hk1)
            have HT2 := hid (fun h : contN l k => (fun j hj hj1 => by
              by_cases e : j = k
              · rw [e]; exact h
              · exact HT.out j (by omega) hj1 : ∀ j, j < k + 1 → 1 ≤ j → contN l j))
            by_cases hcn : contN l k
            · replace HT2 := hid (HT2.out hcn)
              have hlo : 128 ≤ nb l k := hcn.1
              have hhi : nb l k ≤ 191 := hcn.2
              clear hcn HT
              generalize nb l k = d at ik hd hlo hhi
              go_wp2
              go_round
              case rel => exact ⟨k + 1, by omega, by omega, by go_num, HT2.out⟩
              case measure => simp [intOf]; omega
            · have HS := hid (H3k.out hcn)
              have hx : nb l k < 128 ∨ 191 < nb l k := by unfold contN at hcn; omega
              clear hcn HT
              generalize nb l k = d at ik hd hx
              rcases hx with hx | hx
              · go_wp2
                go_ret
                exact ⟨by rw [HS.out]; rfl, rfl⟩
              · go_wp2
                go_ret
                exact ⟨by rw [HS.out]; rfl, rfl⟩
          · obtain rfl : k = 3 := by omega
            have HBD := hid (H4.out (by omega))
            have HGD := hid (fun (h : ¬ badD 237 (nb l 1)) => H5.out (fun j hj hj1 => HT.out j hj hj1) (fun hh => h hh.2))
            have i1 : ∀ w, (Instr.index 9 (.string (str l)) (.int .i64 1)).run Tryd.prog w = .ok (.int .u8 (nb l 1 : Int)) w := fun w => at_nb l 1 (by omega) w
            have hb1 := HB.out 1
            clear H3 H4 H5 HI HT hlt
            generalize nb l 1 = d at *
            have hwd : IntKind.i64.wrap (d : Int) = (d : Int) := by simp [IntKind.wrap, IntKind.bits, IntKind.signed]; omega
            go_wp2
            all_goals go_ret
            all_goals first
              | exact ⟨by rw [HBD.out (by unfold badD; omega)]; rfl, rfl⟩
              | exact ⟨by rw [HGD.out (by unfold badD; omega)]; rfl, rfl⟩
      · obtain rfl : n = 3 := by rw [← hn]; unfold leadN; rw [if_neg (by omega), if_pos (by omega)]
        clear hn
        have z224 : ((c : Int) == 224) = false := by rw [beq_eq_false_iff_ne]; omega
        have z237 : ((c : Int) == 237) = false := by rw [beq_eq_false_iff_ne]; omega
        have z240 : ((c : Int) == 240) = false := by rw [beq_eq_false_iff_ne]; omega
        have z244 : ((c : Int) == 244) = false := by rw [beq_eq_false_iff_ne]; omega
        go_enter Tryd.func33, Tryd.ntmps33
        go_wp2_with fail
        go_loop [5] (fun iv => ∃ k : Nat, 1 ≤ k ∧ k ≤ 3 ∧ iv = .int .i64 (k : Int) ∧ Hid (∀ j, j < k → 1 ≤ j → contN l j)) (fun iv => 3 - (intOf iv).toNat)
        case atStart => exact ⟨1, by omega, by omega, rfl, fun j _ _ => by omega⟩
        case round =>
          obtain ⟨k, hk1, hk, rfl, HT⟩ := hrel
          by_cases hlt : k < 3
          · have hlt2 : (k : Int) < 3 := by omega
            have ik := HI.out k (by omega)
            have hd := HB.out k
            have H3k := hid (H3.out k hlt hk1)
            have HT2 := hid (fun h : contN l k => (fun j hj hj1 => by
              by_cases e : j = k
              · rw [e]; exact h
              · exact HT.out j (by omega) hj1 : ∀ j, j < k + 1 → 1 ≤ j → contN l j))
            by_cases hcn : contN l k
            · replace HT2 := hid (HT2.out hcn)
              have hlo : 128 ≤ nb l k := hcn.1
              have hhi : nb l k ≤ 191 := hcn.2
              clear hcn HT
              generalize nb l k = d at ik hd hlo hhi
              go_wp2
              go_round
              case rel => exact ⟨k + 1, by omega, by omega, by go_num, HT2.out⟩
              case measure => simp [intOf]; omega
            · have HS := hid (H3k.out hcn)
              have hx : nb l k < 128 ∨ 191 < nb l k := by unfold contN at hcn; omega
              clear hcn HT
              generalize nb l k = d at ik hd hx
              rcases hx with hx | hx
              · go_wp2
                go_ret
                exact ⟨by rw [HS.out]; rfl, rfl⟩
              · go_wp2
                go_ret
                exact ⟨by rw [HS.out]; rfl, rfl⟩
          · obtain rfl : k = 3 := by omega
            have HBD := hid (H4.out (by omega))
            have HGD := hid (fun (h : ¬ badD c (nb l 1)) => H5.out (fun j hj hj1 => HT.out j hj hj1) (fun hh => h hh.2))
            have i1 : ∀ w, (Instr.index 9 (.string (str l)) (.int .i64 1)).run Tryd.prog w = .ok (.int .u8 (nb l 1 : Int)) w := fun w => at_nb l 1 (by omega) w
            have hb1 := HB.out 1
            clear H3 H4 H5 HI HT hlt
            generalize nb l 1 = d at *
            have hwd : IntKind.i64.wrap (d : Int) = (d : Int) := by simp [IntKind.wrap, IntKind.bits, IntKind.signed]; omega
            go_wp2
            all_goals go_ret
            all_goals first
              | exact ⟨by rw [HBD.out (by unfold badD; omega)]; rfl, rfl⟩
              | exact ⟨by rw [HGD.out (by unfold badD; omega)]; rfl, rfl⟩
      · obtain rfl : c = 240 := h2
        obtain rfl : n = 4 := by rw [← hn]; unfold leadN; rw [if_neg (by omega), if_neg (by omega), if_pos (by omega)]
        clear hn
        go_enter Tryd.func33, Tryd.ntmps33
        go_wp2_with fail
        go_loop [5] (fun iv => ∃ k : Nat, 1 ≤ k ∧ k ≤ 4 ∧ iv = .int .i64 (k : Int) ∧ Hid (∀ j, j < k → 1 ≤ j → contN l j)) (fun iv => 4 - (intOf iv).toNat)
        case atStart => exact ⟨1, by omega, by omega, rfl, fun j _ _ => by omega⟩
        case round =>
          obtain ⟨k, hk1, hk, rfl, HT⟩ := hrel
          by_cases hlt : k < 4
          · have hlt2 : (k : Int) < 4 := by omega
            have ik := HI.out k (by omega)
            have hd := HB.out k
            have H3k := hid (H3.out k hlt hk1)
            have HT2 := hid (fun h : contN l k => (fun j hj hj1 => by
              by_cases e : j = k
              · rw [e]; exact h
              · exact HT.out j (by omega) hj1 : ∀ j, j < k + 1 → 1 ≤ j → contN l j))
            by_cases hcn : contN l k
            · replace HT2 := hid (HT2.out hcn)
              have hlo : 128 ≤ nb l k := hcn.1
              have hhi : nb l k ≤ 191 := hcn.2
              clear hcn HT
              generalize nb l k = d at ik hd hlo hhi
              go_wp2
              go_round
              case rel => exact ⟨k + 1, by omega, by omega, by go_num, HT2.out⟩
              case measure => simp [intOf]; omega
            · have HS := hid (H3k.out hcn)
              have hx : nb l k < 128 ∨ 191 < nb l k := by unfold contN at hcn; omega
              clear hcn HT
              generalize nb l k = d at ik hd hx
              rcases hx with hx | hx
              · go_wp2
                go_ret
                exact ⟨by rw [HS.out]; rfl, rfl⟩
              · go_wp2
                go_ret
                exact ⟨by rw [HS.out]; rfl, rfl⟩
          · obtain rfl : k = 4 := by omega
            have HBD := hid (H4.out (by omega))
            have HGD := hid (fun (h : ¬ badD 240 (nb l 1)) => H5.out (fun j hj hj1 => HT.out j hj hj1) (fun hh => h hh.2))
            have i1 : ∀ w, (Instr.index 9 (.string (str l)) (.int .i64 1)).run Tryd.prog w = .ok (.int .u8 (nb l 1 : Int)) w := fun w => at_nb l 1 (by omega) w
            have hb1 := HB.out 1
            clear H3 H4 H5 HI HT hlt
            generalize nb l 1 = d at *
            have hwd : IntKind.i64.wrap (d : Int) = (d : Int) := by simp [IntKind.wrap, IntKind.bits, IntKind.signed]; omega
            go_wp2
            all_goals go_ret
            all_goals first
              | exact ⟨by rw [HBD.out (by unfold badD; omega)]; rfl, rfl⟩
              | exact ⟨by rw [HGD.out (by unfold badD; omega)]; rfl, rfl⟩
      · obtain rfl : c = 244 := h2
        obtain rfl : n = 4 := by rw [← hn]; unfold leadN; rw [if_neg (by omega), if_neg (by omega), if_pos (by omega)]
        clear hn
        go_enter Tryd.func33, Tryd.ntmps33
        go_wp2_with fail
        go_loop [5] (fun iv => ∃ k : Nat, 1 ≤ k ∧ k ≤ 4 ∧ iv = .int .i64 (k : Int) ∧ Hid (∀ j, j < k → 1 ≤ j → contN l j)) (fun iv => 4 - (intOf iv).toNat)
        case atStart => exact ⟨1, by omega, by omega, rfl, fun j _ _ => by omega⟩
        case round =>
          obtain ⟨k, hk1, hk, rfl, HT⟩ := hrel
          by_cases hlt : k < 4
          · have hlt2 : (k : Int) < 4 := by omega
            have ik := HI.out k (by omega)
            have hd := HB.out k
            have H3k := hid (H3.out k hlt hk1)
            have HT2 := hid (fun h : contN l k => (fun j hj hj1 => by
              by_cases e : j = k
              · rw [e]; exact h
              · exact HT.out j (by omega) hj1 : ∀ j, j < k + 1 → 1 ≤ j → contN l j))
            by_cases hcn : contN l k
            · replace HT2 := hid (HT2.out hcn)
              have hlo : 128 ≤ nb l k := hcn.1
              have hhi : nb l k ≤ 191 := hcn.2
              clear hcn HT
              generalize nb l k = d at ik hd hlo hhi
              go_wp2
              go_round
              case rel => exact ⟨k + 1, by omega, by omega, by go_num, HT2.out⟩
              case measure => simp [intOf]; omega
            · have HS := hid (H3k.out hcn)
              have hx : nb l k < 128 ∨ 191 < nb l k := by unfold contN at hcn; omega
              clear hcn HT
              generalize nb l k = d at ik hd hx
              rcases hx with hx | hx
              · go_wp2
                go_ret
                exact ⟨by rw [HS.out]; rfl, rfl⟩
              · go_wp2
                go_ret
                exact ⟨by rw [HS.out]; rfl, rfl⟩
          · obtain rfl : k = 4 := by omega
            have HBD := hid (H4.out (by omega))
            have HGD := hid (fun (h : ¬ badD 244 (nb l 1)) => H5.out (fun j hj hj1 => HT.out j hj hj1) (fun hh => h hh.2))
            have i1 : ∀ w, (Instr.index 9 (.string (str l)) (.int .i64 1)).run Tryd.prog w = .ok (.int .u8 (nb l 1 : Int)) w := fun w => at_nb l 1 (by omega) w
            have hb1 := HB.out 1
            clear H3 H4 H5 HI HT hlt
            generalize nb l 1 = d at *
            have hwd : IntKind.i64.wrap (d : Int) = (d : Int) := by simp [IntKind.wrap, IntKind.bits, IntKind.signed]; omega
            go_wp2
            all_goals go_ret
            all_goals first
              | exact ⟨by rw [HBD.out (by unfold badD; omega)]; rfl, rfl⟩
              | exact ⟨by rw [HGD.out (by unfold badD; omega)]; rfl, rfl⟩
      · obtain rfl : n = 4 := by rw [← hn]; unfold leadN; rw [if_neg (by omega), if_neg (by omega), if_pos (by omega)]
        clear hn
        have z224 : ((c : Int) == 224) = false := by rw [beq_eq_false_iff_ne]; omega
        have z237 : ((c : Int) == 237) = false := by rw [beq_eq_false_iff_ne]; omega
        have z240 : ((c : Int) == 240) = false := by rw [beq_eq_false_iff_ne]; omega
        have z244 : ((c : Int) == 244) = false := by rw [beq_eq_false_iff_ne]; omega
        go_enter Tryd.func33, Tryd.ntmps33
        go_wp2_with fail
        go_loop [5] (fun iv => ∃ k : Nat, 1 ≤ k ∧ k ≤ 4 ∧ iv = .int .i64 (k : Int) ∧ Hid (∀ j, j < k → 1 ≤ j → contN l j)) (fun iv => 4 - (intOf iv).toNat)
        case atStart => exact ⟨1, by omega, by omega, rfl, fun j _ _ => by omega⟩
        case round =>
          obtain ⟨k, hk1, hk, rfl, HT⟩ := hrel
          by_cases hlt : k < 4
          · have hlt2 : (k : Int) < 4 := by omega
            have ik := HI.out k (by omega)
            have hd := HB.out k
            have H3k := hid (H3.out k hlt hk1)
            have HT2 := hid (fun h : contN l k => (fun j hj hj1 => by
              by_cases e : j = k
              · rw [e]; exact h
              · exact HT.out j (by omega) hj1 : ∀ j, j < k + 1 → 1 ≤ j → contN l j))
            by_cases hcn : contN l k
            · replace HT2 := hid (HT2.out hcn)
              have hlo : 128 ≤ nb l k := hcn.1
              have hhi : nb l k ≤ 191 := hcn.2
              clear hcn HT
              generalize nb l k = d at ik hd hlo hhi
              go_wp2
              go_round
              case rel => exact ⟨k + 1, by omega, by omega, by go_num, HT2.out⟩
              case measure => simp [intOf]; omega
            · have HS := hid (H3k.out hcn)
              have hx : nb l k < 128 ∨ 191 < nb l k := by unfold contN at hcn; omega
              clear hcn HT
              generalize nb l k = d at ik hd hx
              rcases hx with hx | hx
              · go_wp2
                go_ret
                exact ⟨by rw [HS.out]; rfl, rfl⟩
              · go_wp2
                go_ret
                exact ⟨by rw [HS.out]; rfl, rfl⟩
          · obtain rfl : k = 4 := by omega
            have HBD := hid (H4.out (by omega))
            have HGD := hid (fun (h : ¬ badD c (nb l 1)) => H5.out (fun j hj hj1 => HT.out j hj hj1) (fun hh => h hh.2))
            have i1 : ∀ w, (Instr.index 9 (.string (str l)) (.int .i64 1)).run Tryd.prog w = .ok (.int .u8 (nb l 1 : Int)) w := fun w => at_nb l 1 (by omega) w
            have hb1 := HB.out 1
            clear H3 H4 H5 HI HT hlt
            generalize nb l 1 = d at *
            have hwd : IntKind.i64.wrap (d : Int) = (d : Int) := by simp [IntKind.wrap, IntKind.bits, IntKind.signed]; omega
            go_wp2
            all_goals go_ret
            all_goals first
              | exact ⟨by rw [HBD.out (by unfold badD; omega)]; rfl, rfl⟩
              | exact ⟨by rw [HGD.out (by unfold badD; omega)]; rfl, rfl⟩
      · obtain rfl : n = 0 := by rw [← hn]; unfold leadN; rw [if_neg (by omega), if_neg (by omega), if_neg (by omega)]
        have HS := hid (H5.out (fun j hj => by omega) (by omega))
        clear hn H3 H4 H5 HI
        go_enter Tryd.func33, Tryd.ntmps33
        go_wp2_with fail
        refine wp_loop_rounds 1 ?_
        rw [rounds_succ]
        go_wp2
        go_ret
        exact ⟨by rw [HS.out]; rfl, rfl⟩
end Go.Proofs.YtjkaenjegcojhaaDoor
