/- The document's names: contracts for texts of any bulk. -/
import Derived.Test.YtdphdodjidbngaaGlP
import Derived.BigQuiet
import Derived.Deep.QuietTactic
import Derived.Laws.Slices
import Derived.Laws.Strings
namespace Go.Proofs.Ytdphdodjidbngaa
open Go.RowKit
set_option linter.unusedVariables false
set_option linter.unusedSimpArgs false

set_option maxRecDepth 20000 in
set_option maxHeartbeats 4000000 in
theorem rletterL_is (c : Int) (W : World) : Calls Try.prog 72 #[.int .i64 c] W fun e w' => e = .returned (.bool (decide (LetP c))) ∧ W = w' := by
  go_enter Try.func72, Try.ntmps72
  go_wp2
  all_goals go_ret
  all_goals exact ⟨ret_dec ⟨_, rfl, by unfold LetP; simp at * <;> omega⟩, rfl⟩
set_option maxRecDepth 20000 in
set_option maxHeartbeats 8000000 in
theorem rsizeL_is (l : List UInt8) (h : 0 < l.length) (hl : l.length ≤ 2000000) (W : World) : Calls Try.prog 107 #[.string (str l)] W fun e w' => e = .returned (.int .i64 (szN l : Nat)) ∧ W = w' := by
  have hb := nb_lt l 0
  have i0 : ∀ w, (Instr.index 9 (.string (str l)) (.int .i64 0)).run Try.prog w = .ok (.int .u8 (nb l 0 : Int)) w := fun w => at_nb l 0 h w
  have HI := hid (fun k hk w => at_nb l k hk w)
  have HB := hid (nb_lt l)
  have H1 := hid (sz_small l)
  have H2 := hid (sz_short l)
  have H3 := hid (sz_cont l)
  have H4 := hid (sz_bad l)
  have H5 := hid (sz_good l)
  have HLEN := hid (str_size l)
  have hls : ((str l).size : Int) ≤ 2000000 := by rw [str_size]; omega
  have HL2 : Hid (∀ n : Nat, n ≤ 4 → ((((str l).size : Int) < (n : Int)) ↔ l.length < n)) := hid (fun n _ => by rw [str_size]; omega)
  clear h
  have HLE : Hid (∀ n : Nat, leadN (nb l 0) = n → leadN (nb l 0) = n) := hid (fun n h => h)
  obtain ⟨n, hn⟩ : ∃ n, leadN (nb l 0) = n := ⟨_, rfl⟩
  rw [hn] at H2 H3 H4 H5
  have HC0 : Hid (∃ c, nb l 0 = c) := hid ⟨_, rfl⟩
  clear HLE HC0
  generalize nb l 0 = c at *
  have hwc : IntKind.i64.wrap (c : Int) = (c : Int) := by simp [IntKind.wrap, IntKind.bits, IntKind.signed]; omega
  by_cases hc : c < 128
  · have HS := hid (H1.out hc)
    clear H1 H2 H3 H4 H5 hn
    go_enter Try.func107, Try.ntmps107
    go_wp2
    go_ret
    exact ⟨by rw [HS.out]; rfl, rfl⟩
  · have hc2 : 128 ≤ c := by omega
    replace H2 := hid (H2.out hc2)
    replace H3 := hid (H3.out hc2)
    replace H4 := hid (H4.out hc2)
    replace H5 := hid (H5.out hc2)
    clear H1 hc
    have hn4 : n ≤ 4 := by
      rw [← hn]; unfold leadN
      split
      · omega
      · split
        · omega
        · split <;> omega
    have hn4 : n ≤ 4 := by
      rw [← hn]; unfold leadN
      split
      · omega
      · split
        · omega
        · split <;> omega
    by_cases hsh : l.length < n
    · have HS := hid (H2.out hsh)
      have hs2 := (HL2.out n hn4).2 hsh
      clear H2 H3 H4 H5 HI hn4
      rcases (by omega : c < 194 ∨ (194 ≤ c ∧ c < 224) ∨ (224 ≤ c ∧ c < 240) ∨ (240 ≤ c ∧ c < 245) ∨ 245 ≤ c) with h2 | h2 | h2 | h2 | h2
      · obtain rfl : n = 0 := by rw [← hn]; unfold leadN; rw [if_neg (by omega), if_neg (by omega), if_neg (by omega)]
        clear hn
        omega
      · obtain rfl : n = 2 := by rw [← hn]; unfold leadN; rw [if_pos (by omega)]
        clear hn
        go_enter Try.func107, Try.ntmps107
        go_wp2
        go_ret
        exact ⟨by rw [HS.out]; rfl, rfl⟩
      · obtain rfl : n = 3 := by rw [← hn]; unfold leadN; rw [if_neg (by omega), if_pos (by omega)]
        clear hn
        go_enter Try.func107, Try.ntmps107
        go_wp2
        go_ret
        exact ⟨by rw [HS.out]; rfl, rfl⟩
      · obtain rfl : n = 4 := by rw [← hn]; unfold leadN; rw [if_neg (by omega), if_neg (by omega), if_pos (by omega)]
        clear hn
        go_enter Try.func107, Try.ntmps107
        go_wp2
        go_ret
        exact ⟨by rw [HS.out]; rfl, rfl⟩
      · obtain rfl : n = 0 := by rw [← hn]; unfold leadN; rw [if_neg (by omega), if_neg (by omega), if_neg (by omega)]
        clear hn
        omega
    · have hs2 : (n : Int) ≤ ((str l).size : Int) := by rw [HLEN.out]; omega
      replace H5 := hid (H5.out (by omega))
      clear H2 hn4
      rcases (by omega : c < 194 ∨ (194 ≤ c ∧ c < 224) ∨ c = 224 ∨ c = 237 ∨ (225 ≤ c ∧ c < 240 ∧ c ≠ 237) ∨ c = 240 ∨ c = 244 ∨ (241 ≤ c ∧ c < 244) ∨ 245 ≤ c) with h2 | h2 | h2 | h2 | h2 | h2 | h2 | h2 | h2
      · obtain rfl : n = 0 := by rw [← hn]; unfold leadN; rw [if_neg (by omega), if_neg (by omega), if_neg (by omega)]
        have HS := hid (H5.out (fun j hj => by omega) (by omega))
        clear hn H3 H4 H5 HI
        go_enter Try.func107, Try.ntmps107
        go_wp2_with fail
        refine wp_loop_rounds 1 ?_
        rw [rounds_succ]
        go_wp2
        go_ret
        exact ⟨by rw [HS.out]; rfl, rfl⟩
      · obtain rfl : n = 2 := by rw [← hn]; unfold leadN; rw [if_pos (by omega)]
        clear hn
        go_enter Try.func107, Try.ntmps107
        go_wp2_with fail
        go_loop [5] (fun iv => ∃ k : Nat, 1 ≤ k ∧ k ≤ 2 ∧ iv = .int .i64 (k : Int) ∧ Hid (∀ j, j < k → 1 ≤ j → contN l j)) (fun iv => 2 - (intOf iv).toNat)
        case atStart => exact ⟨1, by omega, by omega, rfl, fun j _ _ => by omega⟩
        case round =>
          obtain ⟨k, hk1, hk, rfl, HT⟩ := hrel
          by_cases hlt : k < 2
          · have hlt2 : (k : Int) < 2 := by omega
            have ik := HI.out k (by omega)
            have hd := HB.out k
            have H3k := hid (H3.out k hlt hk1)
            have HT2 := hid (fun h : contN l k => (fun j hj hj1 => by
              by_cases e : j = k
              · rw [e]; exact h
              · exact HT.out j (by omega) hj1 : ∀ j, j < k + 1 → 1 ≤ j → contN l j))
            by_cases hcn : contN l k
            · replace HT2 := hid (HT2.out hcn)
              have hlo : 128 ≤ nb l k := hcn.1
              have hhi : nb l k ≤ 191 := hcn.2
              clear hcn HT
              generalize nb l k = d at ik hd hlo hhi
              go_wp2
              go_round
              case rel => exact ⟨k + 1, by omega, by omega, by go_num, HT2.out⟩
              case measure => simp [intOf]; omega
            · have HS := hid (H3k.out hcn)
              have hx : nb l k < 128 ∨ 191 < nb l k := by unfold contN at hcn; omega
              clear hcn HT
              generalize nb l k = d at ik hd hx
              rcases hx with hx | hx
              · go_wp2
                go_ret
                exact ⟨by rw [HS.out]; rfl, rfl⟩
              · go_wp2
                go_ret
                exact ⟨by rw [HS.out]; rfl, rfl⟩
          · obtain rfl : k = 2 := by omega
            have HS := hid (H5.out (fun j hj hj1 => HT.out j hj hj1) (by omega))
            clear H3 H4 H5 HI HT hlt
            go_wp2
            go_ret
            exact ⟨by rw [HS.out]; rfl, rfl⟩
      · obtain rfl : c = 224 := h2
        obtain rfl : n = 3 := by rw [← hn]; unfold leadN; rw [if_neg (by omega), if_pos (by omega)]
        clear hn
        go_enter Try.func107, Try.ntmps107
        go_wp2_with fail
        go_loop [5] (fun iv => ∃ k : Nat, 1 ≤ k ∧ k ≤ 3 ∧ iv = .int .i64 (k : Int) ∧ Hid (∀ j, j < k → 1 ≤ j → contN l j)) (fun iv => 3 - (intOf iv).toNat)
        case atStart => exact ⟨1, by omega, by omega, rfl, fun j _ _ => by omega⟩
        case round =>
          obtain ⟨k, hk1, hk, rfl, HT⟩ := hrel
          by_cases hlt : k < 3
          · have hlt2 : (k : Int) < 3 := by omega
            have ik := HI.out k (by omega)
            have hd := HB.out k
            have H3k := hid (H3.out k hlt hk1)
            have HT2 := hid (fun h : contN l k => (fun j hj hj1 => by
              by_cases e : j = k
              · rw [e]; exact h
              · exact HT.out j (by omega) hj1 : ∀ j, j < k + 1 → 1 ≤ j → contN l j))
            by_cases hcn : contN l k
            · replace HT2 := hid (HT2.out hcn)
              have hlo : 128 ≤ nb l k := hcn.1
              have hhi : nb l k ≤ 191 := hcn.2
              clear hcn HT
              generalize nb l k = d at ik hd hlo hhi
              go_wp2
              go_round
              case rel => exact ⟨k + 1, by omega, by omega, by go_num, HT2.out⟩
              case measure => simp [intOf]; omega
            · have HS := hid (H3k.out hcn)
              have hx : nb l k < 128 ∨ 191 < nb l k := by unfold contN at hcn; omega
              clear hcn HT
              generalize nb l k = d at ik hd hx
              rcases hx with hx | hx
              · go_wp2
                go_ret
                exact ⟨by rw [HS.out]; rfl, rfl⟩
              · go_wp2
                go_ret
                exact ⟨by rw [HS.out]; rfl, rfl⟩
          · obtain rfl : k = 3 := by omega
            have HBD := hid (H4.out (by omega))
            have HGD := hid (fun (h : ¬ badD 224 (nb l 1)) => H5.out (fun j hj hj1 => HT.out j hj hj1) (fun hh => h hh.2))
            have i1 : ∀ w, (Instr.index 9 (.string (str l)) (.int .i64 1)).run Try.prog w = .ok (.int .u8 (nb l 1 : Int)) w := fun w => at_nb l 1 (by omega) w
            have hb1 := HB.out 1
            clear H3 H4 H5 HI HT hlt
            generalize nb l 1 = d at *
            have hwd : IntKind.i64.wrap (d : Int) = (d : Int) := by simp [IntKind.wrap, IntKind.bits, IntKind.signed]; omega
            go_wp2
            all_goals go_ret
            all_goals first
              | exact ⟨by rw [HBD.out (by unfold badD; omega)]; rfl, rfl⟩
              | exact ⟨by rw [HGD.out (by unfold badD; omega)]; rfl, rfl⟩
      · obtain rfl : c = 237 := h2
        obtain rfl : n = 3 := by rw [← hn]; unfold leadN; rw [if_neg (by omega), if_pos (by omega)]
        clear hn
        go_enter Try.func107, Try.ntmps107
        go_wp2_with fail
        go_loop [5] (fun iv => ∃ k : Nat, 1 ≤ k ∧ k ≤ 3 ∧ iv = .int .i64 (k : Int) ∧ Hid (∀ j, j < k → 1 ≤ j → contN l j)) (fun iv => 3 - (intOf iv).toNat)
        case atStart => exact ⟨1, by omega, by omega, rfl, fun j _ _ => by omega⟩
        case round =>
          obtain ⟨k, hk1, hk, rfl, HT⟩ := hrel
          by_cases hlt : k < 3
          · have hlt2 : (k : Int) < 3 := by omega
            have ik := HI.out k (by omega)
            have hd := HB.out k
            have H3k := hid (H3.out k hlt hk1)
            have HT2 := hid (fun h : contN l k => (fun j hj hj1 => by
              by_cases e : j = k
              · rw [e]; exact h
              · exact HT.out j (by omega) hj1 : ∀ j, j < k + 1 → 1 ≤ j → contN l j))
            by_cases hcn : contN l k
            · replace HT2 := hid (HT2.out hcn)
              have hlo : 128 ≤ nb l k := hcn.1
              have hhi : nb l k ≤ 191 := hcn.2
              clear hcn HT
              generalize nb l k = d at ik hd hlo hhi
              go_wp2
              go_round
              case rel => exact ⟨k + 1, by omega, by omega, by go_num, HT2.out⟩
              case measure => simp [intOf]; omega
            · have HS := hid (H3k.out hcn)
              have hx : nb l k < 128 ∨ 191 < nb l k := by unfold contN at hcn; omega
              clear hcn HT
              generalize nb l k = d at ik hd hx
              rcases hx with hx | hx
              · go_wp2
                go_ret
                exact ⟨by rw [HS.out]; rfl, rfl⟩
              · go_wp2
                go_ret
                exact ⟨by rw [HS.out]; rfl, rfl⟩
          · obtain rfl : k = 3 := by omega
            have HBD := hid (H4.out (by omega))
            have HGD := hid (fun (h : ¬ badD 237 (nb l 1)) => H5.out (fun j hj hj1 => HT.out j hj hj1) (fun hh => h hh.2))
            have i1 : ∀ w, (Instr.index 9 (.string (str l)) (.int .i64 1)).run Try.prog w = .ok (.int .u8 (nb l 1 : Int)) w := fun w => at_nb l 1 (by omega) w
            have hb1 := HB.out 1
            clear H3 H4 H5 HI HT hlt
            generalize nb l 1 = d at *
            have hwd : IntKind.i64.wrap (d : Int) = (d : Int) := by simp [IntKind.wrap, IntKind.bits, IntKind.signed]; omega
            go_wp2
            all_goals go_ret
            all_goals first
              | exact ⟨by rw [HBD.out (by unfold badD; omega)]; rfl, rfl⟩
              | exact ⟨by rw [HGD.out (by unfold badD; omega)]; rfl, rfl⟩
      · obtain rfl : n = 3 := by rw [← hn]; unfold leadN; rw [if_neg (by omega), if_pos (by omega)]
        clear hn
        have z224 : ((c : Int) == 224) = false := by rw [beq_eq_false_iff_ne]; omega
        have z237 : ((c : Int) == 237) = false := by rw [beq_eq_false_iff_ne]; omega
        have z240 : ((c : Int) == 240) = false := by rw [beq_eq_false_iff_ne]; omega
        have z244 : ((c : Int) == 244) = false := by rw [beq_eq_false_iff_ne]; omega
        go_enter Try.func107, Try.ntmps107
        go_wp2_with fail
        go_loop [5] (fun iv => ∃ k : Nat, 1 ≤ k ∧ k ≤ 3 ∧ iv = .int .i64 (k : Int) ∧ Hid (∀ j, j < k → 1 ≤ j → contN l j)) (fun iv => 3 - (intOf iv).toNat)
        case atStart => exact ⟨1, by omega, by omega, rfl, fun j _ _ => by omega⟩
        case round =>
          obtain ⟨k, hk1, hk, rfl, HT⟩ := hrel
          by_cases hlt : k < 3
          · have hlt2 : (k : Int) < 3 := by omega
            have ik := HI.out k (by omega)
            have hd := HB.out k
            have H3k := hid (H3.out k hlt hk1)
            have HT2 := hid (fun h : contN l k => (fun j hj hj1 => by
              by_cases e : j = k
              · rw [e]; exact h
              · exact HT.out j (by omega) hj1 : ∀ j, j < k + 1 → 1 ≤ j → contN l j))
            by_cases hcn : contN l k
            · replace HT2 := hid (HT2.out hcn)
              have hlo : 128 ≤ nb l k := hcn.1
              have hhi : nb l k ≤ 191 := hcn.2
              clear hcn HT
              generalize nb l k = d at ik hd hlo hhi
              go_wp2
              go_round
              case rel => exact ⟨k + 1, by omega, by omega, by go_num, HT2.out⟩
              case measure => simp [intOf]; omega
            · have HS := hid (H3k.out hcn)
              have hx : nb l k < 128 ∨ 191 < nb l k := by unfold contN at hcn; omega
              clear hcn HT
              generalize nb l k = d at ik hd hx
              rcases hx with hx | hx
              · go_wp2
                go_ret
                exact ⟨by rw [HS.out]; rfl, rfl⟩
              · go_wp2
                go_ret
                exact ⟨by rw [HS.out]; rfl, rfl⟩
          · obtain rfl : k = 3 := by omega
            have HBD := hid (H4.out (by omega))
            have HGD := hid (fun (h : ¬ badD c (nb l 1)) => H5.out (fun j hj hj1 => HT.out j hj hj1) (fun hh => h hh.2))
            have i1 : ∀ w, (Instr.index 9 (.string (str l)) (.int .i64 1)).run Try.prog w = .ok (.int .u8 (nb l 1 : Int)) w := fun w => at_nb l 1 (by omega) w
            have hb1 := HB.out 1
            clear H3 H4 H5 HI HT hlt
            generalize nb l 1 = d at *
            have hwd : IntKind.i64.wrap (d : Int) = (d : Int) := by simp [IntKind.wrap, IntKind.bits, IntKind.signed]; omega
            go_wp2
            all_goals go_ret
            all_goals first
              | exact ⟨by rw [HBD.out (by unfold badD; omega)]; rfl, rfl⟩
              | exact ⟨by rw [HGD.out (by unfold badD; omega)]; rfl, rfl⟩
      · obtain rfl : c = 240 := h2
        obtain rfl : n = 4 := by rw [← hn]; unfold leadN; rw [if_neg (by omega), if_neg (by omega), if_pos (by omega)]
        clear hn
        go_enter Try.func107, Try.ntmps107
        go_wp2_with fail
        go_loop [5] (fun iv => ∃ k : Nat, 1 ≤ k ∧ k ≤ 4 ∧ iv = .int .i64 (k : Int) ∧ Hid (∀ j, j < k → 1 ≤ j → contN l j)) (fun iv => 4 - (intOf iv).toNat)
        case atStart => exact ⟨1, by omega, by omega, rfl, fun j _ _ => by omega⟩
        case round =>
          obtain ⟨k, hk1, hk, rfl, HT⟩ := hrel
          by_cases hlt : k < 4
          · have hlt2 : (k : Int) < 4 := by omega
            have ik := HI.out k (by omega)
            have hd := HB.out k
            have H3k := hid (H3.out k hlt hk1)
            have HT2 := hid (fun h : contN l k => (fun j hj hj1 => by
              by_cases e : j = k
              · rw [e]; exact h
              · exact HT.out j (by omega) hj1 : ∀ j, j < k + 1 → 1 ≤ j → contN l j))
            by_cases hcn : contN l k
            · replace HT2 := hid (HT2.out hcn)
              have hlo : 128 ≤ nb l k := hcn.1
              have hhi : nb l k ≤ 191 := hcn.2
              clear hcn HT
              generalize nb l k = d at ik hd hlo hhi
              go_wp2
              go_round
              case rel => exact ⟨k + 1, by omega, by omega, by go_num, HT2.out⟩
              case measure => simp [intOf]; omega
            · have HS := hid (H3k.out hcn)
              have hx : nb l k < 128 ∨ 191 < nb l k := by unfold contN at hcn; omega
              clear hcn HT
              generalize nb l k = d at ik hd hx
              rcases hx with hx | hx
              · go_wp2
                go_ret
                exact ⟨by rw [HS.out]; rfl, rfl⟩
              · go_wp2
                go_ret
                exact ⟨by rw [HS.out]; rfl, rfl⟩
          · obtain rfl : k = 4 := by omega
            have HBD := hid (H4.out (by omega))
            have HGD := hid (fun (h : ¬ badD 240 (nb l 1)) => H5.out (fun j hj hj1 => HT.out j hj hj1) (fun hh => h hh.2))
            have i1 : ∀ w, (Instr.index 9 (.string (str l)) (.int .i64 1)).run Try.prog w = .ok (.int .u8 (nb l 1 : Int)) w := fun w => at_nb l 1 (by omega) w
            have hb1 := HB.out 1
            clear H3 H4 H5 HI HT hlt
            generalize nb l 1 = d at *
            have hwd : IntKind.i64.wrap (d : Int) = (d : Int) := by simp [IntKind.wrap, IntKind.bits, IntKind.signed]; omega
            go_wp2
            all_goals go_ret
            all_goals first
              | exact ⟨by rw [HBD.out (by unfold badD; omega)]; rfl, rfl⟩
              | exact ⟨by rw [HGD.out (by unfold badD; omega)]; rfl, rfl⟩
      · obtain rfl : c = 244 := h2
        obtain rfl : n = 4 := by rw [← hn]; unfold leadN; rw [if_neg (by omega), if_neg (by omega), if_pos (by omega)]
        clear hn
        go_enter Try.func107, Try.ntmps107
        go_wp2_with fail
        go_loop [5] (fun iv => ∃ k : Nat, 1 ≤ k ∧ k ≤ 4 ∧ iv = .int .i64 (k : Int) ∧ Hid (∀ j, j < k → 1 ≤ j → contN l j)) (fun iv => 4 - (intOf iv).toNat)
        case atStart => exact ⟨1, by omega, by omega, rfl, fun j _ _ => by omega⟩
        case round =>
          obtain ⟨k, hk1, hk, rfl, HT⟩ := hrel
          by_cases hlt : k < 4
          · have hlt2 : (k : Int) < 4 := by omega
            have ik := HI.out k (by omega)
            have hd := HB.out k
            have H3k := hid (H3.out k hlt hk1)
            have HT2 := hid (fun h : contN l k => (fun j hj hj1 => by
              by_cases e : j = k
              · rw [e]; exact h
              · exact HT.out j (by omega) hj1 : ∀ j, j < k + 1 → 1 ≤ j → contN l j))
            by_cases hcn : contN l k
            · replace HT2 := hid (HT2.out hcn)
              have hlo : 128 ≤ nb l k := hcn.1
              have hhi : nb l k ≤ 191 := hcn.2
              clear hcn HT
              generalize nb l k = d at ik hd hlo hhi
              go_wp2
              go_round
              case rel => exact ⟨k + 1, by omega, by omega, by go_num, HT2.out⟩
              case measure => simp [intOf]; omega
            · have HS := hid (H3k.out hcn)
              have hx : nb l k < 128 ∨ 191 < nb l k := by unfold contN at hcn; omega
              clear hcn HT
              generalize nb l k = d at ik hd hx
              rcases hx with hx | hx
              · go_wp2
                go_ret
                exact ⟨by rw [HS.out]; rfl, rfl⟩
              · go_wp2
                go_ret
                exact ⟨by rw [HS.out]; rfl, rfl⟩
          · obtain rfl : k = 4 := by omega
            have HBD := hid (H4.out (by omega))
            have HGD := hid (fun (h : ¬ badD 244 (nb l 1)) => H5.out (fun j hj hj1 => HT.out j hj hj1) (fun hh => h hh.2))
            have i1 : ∀ w, (Instr.index 9 (.string (str l)) (.int .i64 1)).run Try.prog w = .ok (.int .u8 (nb l 1 : Int)) w := fun w => at_nb l 1 (by omega) w
            have hb1 := HB.out 1
            clear H3 H4 H5 HI HT hlt
            generalize nb l 1 = d at *
            have hwd : IntKind.i64.wrap (d : Int) = (d : Int) := by simp [IntKind.wrap, IntKind.bits, IntKind.signed]; omega
            go_wp2
            all_goals go_ret
            all_goals first
              | exact ⟨by rw [HBD.out (by unfold badD; omega)]; rfl, rfl⟩
              | exact ⟨by rw [HGD.out (by unfold badD; omega)]; rfl, rfl⟩
      · obtain rfl : n = 4 := by rw [← hn]; unfold leadN; rw [if_neg (by omega), if_neg (by omega), if_pos (by omega)]
        clear hn
        have z224 : ((c : Int) == 224) = false := by rw [beq_eq_false_iff_ne]; omega
        have z237 : ((c : Int) == 237) = false := by rw [beq_eq_false_iff_ne]; omega
        have z240 : ((c : Int) == 240) = false := by rw [beq_eq_false_iff_ne]; omega
        have z244 : ((c : Int) == 244) = false := by rw [beq_eq_false_iff_ne]; omega
        go_enter Try.func107, Try.ntmps107
        go_wp2_with fail
        go_loop [5] (fun iv => ∃ k : Nat, 1 ≤ k ∧ k ≤ 4 ∧ iv = .int .i64 (k : Int) ∧ Hid (∀ j, j < k → 1 ≤ j → contN l j)) (fun iv => 4 - (intOf iv).toNat)
        case atStart => exact ⟨1, by omega, by omega, rfl, fun j _ _ => by omega⟩
        case round =>
          obtain ⟨k, hk1, hk, rfl, HT⟩ := hrel
          by_cases hlt : k < 4
          · have hlt2 : (k : Int) < 4 := by omega
            have ik := HI.out k (by omega)
            have hd := HB.out k
            have H3k := hid (H3.out k hlt hk1)
            have HT2 := hid (fun h : contN l k => (fun j hj hj1 => by
              by_cases e : j = k
              · rw [e]; exact h
              · exact HT.out j (by omega) hj1 : ∀ j, j < k + 1 → 1 ≤ j → contN l j))
            by_cases hcn : contN l k
            · replace HT2 := hid (HT2.out hcn)
              have hlo : 128 ≤ nb l k := hcn.1
              have hhi : nb l k ≤ 191 := hcn.2
              clear hcn HT
              generalize nb l k = d at ik hd hlo hhi
              go_wp2
              go_round
              case rel => exact ⟨k + 1, by omega, by omega, by go_num, HT2.out⟩
              case measure => simp [intOf]; omega
            · have HS := hid (H3k.out hcn)
              have hx : nb l k < 128 ∨ 191 < nb l k := by unfold contN at hcn; omega
              clear hcn HT
              generalize nb l k = d at ik hd hx
              rcases hx with hx | hx
              · go_wp2
                go_ret
                exact ⟨by rw [HS.out]; rfl, rfl⟩
              · go_wp2
                go_ret
                exact ⟨by rw [HS.out]; rfl, rfl⟩
          · obtain rfl : k = 4 := by omega
            have HBD := hid (H4.out (by omega))
            have HGD := hid (fun (h : ¬ badD c (nb l 1)) => H5.out (fun j hj hj1 => HT.out j hj hj1) (fun hh => h hh.2))
            have i1 : ∀ w, (Instr.index 9 (.string (str l)) (.int .i64 1)).run Try.prog w = .ok (.int .u8 (nb l 1 : Int)) w := fun w => at_nb l 1 (by omega) w
            have hb1 := HB.out 1
            clear H3 H4 H5 HI HT hlt
            generalize nb l 1 = d at *
            have hwd : IntKind.i64.wrap (d : Int) = (d : Int) := by simp [IntKind.wrap, IntKind.bits, IntKind.signed]; omega
            go_wp2
            all_goals go_ret
            all_goals first
              | exact ⟨by rw [HBD.out (by unfold badD; omega)]; rfl, rfl⟩
              | exact ⟨by rw [HGD.out (by unfold badD; omega)]; rfl, rfl⟩
      · obtain rfl : n = 0 := by rw [← hn]; unfold leadN; rw [if_neg (by omega), if_neg (by omega), if_neg (by omega)]
        have HS := hid (H5.out (fun j hj => by omega) (by omega))
        clear hn H3 H4 H5 HI
        go_enter Try.func107, Try.ntmps107
        go_wp2_with fail
        refine wp_loop_rounds 1 ?_
        rw [rounds_succ]
        go_wp2
        go_ret
        exact ⟨by rw [HS.out]; rfl, rfl⟩
set_option maxRecDepth 20000 in
set_option maxHeartbeats 8000000 in
theorem rfirstL_is (l : List UInt8) (h : 0 < l.length) (hl : l.length ≤ 2000000) (W : World) : Calls Try.prog 106 #[.string (str l)] W fun e w' => e = .returned (.tuple #[.int .i64 (codeN l (szN l) : Nat), .int .i64 ((max (szN l) 1 : Nat) : Int)]) ∧ ∃ q, w' = W.drewN q := by
  have HR := hid (rsizeL_is l h hl W)
  have i0 : ∀ w, (Instr.index 9 (.string (str l)) (.int .i64 0)).run Try.prog w = .ok (.int .u8 (nb l 0 : Int)) w := fun w => at_nb l 0 h w
  have HI := hid (fun k hk w => at_nb l k hk w)
  have b0 := nb_lt l 0
  have b1 := nb_lt l 1
  have b2 := nb_lt l 2
  have b3 := nb_lt l 3
  rcases szN_range l with hz | hz | ⟨hz, h0, hn, h1⟩ | ⟨hz, h0, hn, h1, h2⟩ | ⟨hz, h0, h5, hn, h1, h2, h3⟩
  · rw [hz] at HR ⊢
    have HC := hid (codeN_0 l)
    clear hz HI
    go_enter Try.func106, Try.ntmps106
    go_wp2_with fail
    refine HR.out.mono ?_
    rintro e w' ⟨rfl, rfl⟩
    go_wp2
    go_ret2
    exact ⟨by rw [HC.out]; rfl, 0, rfl⟩
  · rw [hz] at HR ⊢
    have HC := hid (codeN_1 l)
    clear hz HI
    generalize nb l 0 = c0 at *
    have w0 : IntKind.i64.wrap (c0 : Int) = (c0 : Int) := by simp [IntKind.wrap, IntKind.bits, IntKind.signed]; omega
    go_enter Try.func106, Try.ntmps106
    go_wp2_with fail
    refine HR.out.mono ?_
    rintro e w' ⟨rfl, rfl⟩
    go_wp2
    go_ret2
    exact ⟨by rw [HC.out]; rfl, 0, rfl⟩
  · rw [hz] at HR ⊢
    have HC := hid (show (codeN l 2 : Int) = ((nb l 0 : Int) - 192) * 64 + (nb l 1 : Int) - 128 by unfold contN at h1; rw [codeN_2]; omega)
    have i1 : ∀ w, (Instr.index 9 (.string (str l)) (.int .i64 1)).run Try.prog w = .ok (.int .u8 (nb l 1 : Int)) w := fun w => at_nb l 1 (by omega) w
    clear hz HI h1
    generalize nb l 0 = c0 at *
    generalize nb l 1 = c1 at *
    have w0 : IntKind.i64.wrap (c0 : Int) = (c0 : Int) := by simp [IntKind.wrap, IntKind.bits, IntKind.signed]; omega
    have w1 : IntKind.i64.wrap (c1 : Int) = (c1 : Int) := by simp [IntKind.wrap, IntKind.bits, IntKind.signed]; omega
    go_enter Try.func106, Try.ntmps106
    go_wp2_with fail
    refine HR.out.mono ?_
    rintro e w' ⟨rfl, rfl⟩
    go_wp2
    go_ret2
    exact ⟨by rw [HC.out]; rfl, 0, rfl⟩
  · rw [hz] at HR ⊢
    have HC := hid (show (codeN l 3 : Int) = ((nb l 0 : Int) - 224) * 4096 + ((nb l 1 : Int) - 128) * 64 + (nb l 2 : Int) - 128 by unfold contN at h1 h2; rw [codeN_3]; omega)
    have i1 : ∀ w, (Instr.index 9 (.string (str l)) (.int .i64 1)).run Try.prog w = .ok (.int .u8 (nb l 1 : Int)) w := fun w => at_nb l 1 (by omega) w
    have i2 : ∀ w, (Instr.index 9 (.string (str l)) (.int .i64 2)).run Try.prog w = .ok (.int .u8 (nb l 2 : Int)) w := fun w => at_nb l 2 (by omega) w
    clear hz HI h1 h2
    generalize nb l 0 = c0 at *
    generalize nb l 1 = c1 at *
    generalize nb l 2 = c2 at *
    have w0 : IntKind.i64.wrap (c0 : Int) = (c0 : Int) := by simp [IntKind.wrap, IntKind.bits, IntKind.signed]; omega
    have w1 : IntKind.i64.wrap (c1 : Int) = (c1 : Int) := by simp [IntKind.wrap, IntKind.bits, IntKind.signed]; omega
    have w2 : IntKind.i64.wrap (c2 : Int) = (c2 : Int) := by simp [IntKind.wrap, IntKind.bits, IntKind.signed]; omega
    go_enter Try.func106, Try.ntmps106
    go_wp2_with fail
    refine HR.out.mono ?_
    rintro e w' ⟨rfl, rfl⟩
    go_wp2
    go_quiet (fail)
    go_wp2
    go_ret2
    exact ⟨by rw [HC.out]; rfl, _, rfl⟩
  · rw [hz] at HR ⊢
    have HC := hid (show (codeN l 4 : Int) = ((nb l 0 : Int) - 240) * 262144 + ((nb l 1 : Int) - 128) * 4096 + ((nb l 2 : Int) - 128) * 64 + (nb l 3 : Int) - 128 by unfold contN at h1 h2 h3; rw [codeN_4]; omega)
    have i1 : ∀ w, (Instr.index 9 (.string (str l)) (.int .i64 1)).run Try.prog w = .ok (.int .u8 (nb l 1 : Int)) w := fun w => at_nb l 1 (by omega) w
    have i2 : ∀ w, (Instr.index 9 (.string (str l)) (.int .i64 2)).run Try.prog w = .ok (.int .u8 (nb l 2 : Int)) w := fun w => at_nb l 2 (by omega) w
    have i3 : ∀ w, (Instr.index 9 (.string (str l)) (.int .i64 3)).run Try.prog w = .ok (.int .u8 (nb l 3 : Int)) w := fun w => at_nb l 3 (by omega) w
    clear hz HI h1 h2 h3
    generalize nb l 0 = c0 at *
    generalize nb l 1 = c1 at *
    generalize nb l 2 = c2 at *
    generalize nb l 3 = c3 at *
    have w0 : IntKind.i64.wrap (c0 : Int) = (c0 : Int) := by simp [IntKind.wrap, IntKind.bits, IntKind.signed]; omega
    have w1 : IntKind.i64.wrap (c1 : Int) = (c1 : Int) := by simp [IntKind.wrap, IntKind.bits, IntKind.signed]; omega
    have w2 : IntKind.i64.wrap (c2 : Int) = (c2 : Int) := by simp [IntKind.wrap, IntKind.bits, IntKind.signed]; omega
    have w3 : IntKind.i64.wrap (c3 : Int) = (c3 : Int) := by simp [IntKind.wrap, IntKind.bits, IntKind.signed]; omega
    go_enter Try.func106, Try.ntmps106
    go_wp2_with fail
    refine HR.out.mono ?_
    rintro e w' ⟨rfl, rfl⟩
    go_wp2
    go_quiet (fail)
    go_wp2
    go_ret2
    exact ⟨by rw [HC.out]; rfl, _, rfl⟩
set_option maxRecDepth 20000 in
set_option maxHeartbeats 8000000 in
theorem rrunesL_is (l : List UInt8) (hl : l.length ≤ 2000000) (W : World) : Calls Try.prog 71 #[.string (str l)] W fun e w' => ∃ A c, e = .returned (.slice A (rns l 0).length c) ∧ w'.ownsRow W.heap.size 151 3 (.slice A (rns l 0).length c) (rns l 0).length (rcells (rns l 0)) ∧ Below W.heap.size W w' := by
  have hls : ((str l).size : Int) ≤ 2000000 := by rw [str_size]; omega
  have HSZ := hid (str_size l)
  go_enter Try.func71, Try.ntmps71
  go_wp2_with fail
  go_loopw [3, 4] (fun v i wr => ∃ (k : Nat) (rs : List Rn), k ≤ l.length ∧ i = .int .i64 (k : Int) ∧ Hid (rs ++ rns l k = rns l 0) ∧ rs.length ≤ k ∧ Hid (wr.ownsRow W.heap.size 151 3 v rs.length (rcells rs)) ∧ Hid (Below W.heap.size W wr)) (fun _ i _ => l.length - (intOf i).toNat)
  case atStart => exact ⟨0, [], by omega, rfl, rfl, Nat.le_refl _, World.ownsRow_nil _ _ _ _, Below.refl _ _⟩
  case round =>
    obtain ⟨k, rs, hk, rfl, HR, hrk, HO, HB⟩ := hrel
    by_cases hlt : k < l.length
    · have hlt2 : (k : Int) < ((str l).size : Int) := by rw [HSZ.out]; omega
      have hsl := sl_str l k (by omega)
      have HF := hid (rfirstL_is (l.drop k) (by rw [List.length_drop]; omega) (by rw [List.length_drop]; omega))
      have HZ := hid (rsizeL_is (l.drop k) (by rw [List.length_drop]; omega) (by rw [List.length_drop]; omega))
      have HST := hid (rns_step l k hlt)
      have hmm : 1 ≤ max (szN (l.drop k)) 1 := szN_1 _
      have hmx : k + max (szN (l.drop k)) 1 ≤ l.length := by
        have := (szN_le (l.drop k) (by rw [List.length_drop]; omega)).1
        rw [List.length_drop] at this
        omega
      generalize max (szN (l.drop k)) 1 = mm at *
      have HCZ := hid (codeN_0 (l.drop k))
      generalize codeN (l.drop k) (szN (l.drop k)) = cc at *
      generalize szN (l.drop k) = ss at *
      have hk9 : (k : Int) + (mm : Int) ≤ 2000000 := by omega
      rcases (by omega : ss = 0 ∨ 0 < ss) with hs | hs
      case' inl =>
        have e1 : decide ((0 : Int) < (ss : Int)) = false := decide_eq_false (by omega)
        have HBB := hid (show decide (0 < ss) = false from decide_eq_false (by omega))
        rw [HBB.out] at HST
      case' inr =>
        have e1 : decide ((0 : Int) < (ss : Int)) = true := decide_eq_true (by omega)
        have HBB := hid (show decide (0 < ss) = true from decide_eq_true hs)
        rw [HBB.out] at HST
      all_goals
        clear hlt hs
        go_upto_region 5 with (go_at_call 106; refine (HF.out _).mono ?_; rintro e w' ⟨rfl, q, rfl⟩)
        refine at_world (fun w => w.ownsRow W.heap.size 151 3 u3 rs.length (rcells rs) ∧ Below W.heap.size W w) ⟨own_keep HO.out (below_drewN1 wr _), HB.out.trans ((below_drewN1 wr _).mono HB.out.size)⟩ ?_
        rintro w2 ⟨ho2, hb2⟩
        have HO2 := hid ho2
        have HB2 := hid hb2
        clear ho2 hb2 HO HB HF HCZ
        have hrk2 : rs.length + 1 ≤ k + mm := by omega
        have hr1 : rs.length + 1 ≤ 2000001 := by omega
        go_wp2_with (first
          | (go_at_call 107; refine (HZ.out _).mono ?_; rintro e w' ⟨rfl, rfl⟩)
          | (at_builtin; refine wpList_append_1 (W := W) rfl (.tmp 18) (.tmp 27) 148 rfl W.heap.size 151 Try.underlying148 info_rune rfl (by omega) rfl HO2.out rfl rfl (by simp; first | exact ⟨rfl, rfl, rfl⟩ | rfl) ?c1 ?c2 HB2.out.size HB2.out ?_))
        case c1 => unfold maxLen; omega
        case c2 => omega
        intro v' w' h2 h3 h4
        have HO3 := hid h2
        clear h2
        go_wp2
        go_roundw
        case rel => exact ⟨k + mm, rs ++ [(k, cc, decide (0 < ss))], by omega, by go_num, by rw [Hid, List.append_assoc, HBB.out, ← HR.out, HST.out]; rfl, by rw [List.length_append]; exact hrk2, by rw [Hid, List.length_append, rcells_append]; exact HO3.out, h3⟩
        case measure => simp [intOf]; omega
    · obtain rfl : k = l.length := by omega
      have hge : ((str l).size : Int) ≤ ((l.length : Nat) : Int) := by rw [HSZ.out]; omega
      have HE := hid (rns_end l l.length (Nat.le_refl _))
      go_wp2
      go_ret
      have hr := HR.out
      rw [HE.out, List.append_nil] at hr
      have hO := HO.out
      rw [hr] at hO
      obtain ⟨A9, c9, rfl, _⟩ := Sl.of_own hO
      exact ⟨A9, c9, rfl, hO, HB.out⟩
set_option maxRecDepth 20000 in
set_option maxHeartbeats 4000000 in
theorem rnameL_is (l : List UInt8) (hl : l.length ≤ 2000000) (W : World) : Calls Try.prog 46 #[.string (str l)] W fun e w' => e = .returned (.bool (nameR (rns l 0))) ∧ Below W.heap.size W w' := by
  have HC := hid (rrunesL_is l hl W)
  have hn : (rns l 0).length ≤ 2000000 := by have := rns_le l 0; omega
  generalize rns l 0 = rs at *
  go_enter Try.func46, Try.ntmps46
  go_wp2_with fail
  refine HC.out.mono ?_
  rintro e w1 ⟨A, c, rfl, ho, hb⟩
  obtain ⟨A', c', hAc, hs⟩ := Sl.of_own ho
  cases hAc
  have HS := hid hs
  have HB := hid hb
  have HOK := hid (nameR_ok rs)
  have HLG := hid (nameR_long rs)
  have HBAD := hid (nameR_bad rs)
  clear ho hb hs HC
  go_wp2
  go_loop [4] (fun i => ∃ k : Nat, k ≤ rs.length ∧ i = .int .i64 (k : Int) ∧ Hid (∀ j (hj : j < rs.length), j < k → okR rs[j] = true)) (fun i => rs.length - (intOf i).toNat)
  case atStart => exact ⟨0, by omega, rfl, fun j hj h => absurd h (by omega)⟩
  case round =>
    obtain ⟨k, hk, rfl, HT⟩ := hrel
    by_cases hlt : k < rs.length
    · have hlt2 : (k : Int) < (rs.length : Int) := by omega
      obtain ⟨b, off, hA⟩ := HS.out.addr3 (by rw [rcells_length]; omega)
      subst hA
      obtain ⟨c1, c2⟩ := HS.out.rune k hlt
      have HY := hid (HBAD.out k hlt)
      have HT2 : Hid (okR rs[k] = true → ∀ j (hj : j < rs.length), j < k + 1 → okR rs[j] = true) := hid (fun h j hj hjk => by
        by_cases e : j = k
        · subst e; exact h
        · exact HT.out j hj (by omega))
      clear HT HBAD
      unfold okR at HY
      generalize hq : rs[k] = q at c1 c2 HY
      have HQ := hid hq
      clear hq
      obtain ⟨q1, q2, q3⟩ := q
      simp only at c1 c2 HY
      cases q3 with
      | false =>
        have HE := hid (HY.out rfl)
        clear HY
        go_wp2
        go_ret
        exact ⟨by rw [HE.out]; rfl, HB.out⟩
      | true =>
        have HL := hid (fun W => rletterL_is (q2 : Int) W)
        by_cases hL : LetP (q2 : Int)
        · have HOQ : Hid (okR rs[k] = true) := hid (by rw [HQ.out, okR]; exact decide_eq_true hL)
          rw [decide_eq_true hL] at HL
          clear HY hL
          go_wp2_with (go_at_call 72; refine (HL.out _).mono ?_; rintro e w' ⟨rfl, rfl⟩)
          go_round
          case rel => exact ⟨k + 1, by omega, by go_num, HT2.out HOQ.out⟩
          case measure => simp [intOf]; omega
        · have HE := hid (HY.out (decide_eq_false hL))
          rw [decide_eq_false hL] at HL
          clear HY hL
          go_wp2_with (go_at_call 72; refine (HL.out _).mono ?_; rintro e w' ⟨rfl, rfl⟩)
          go_ret
          exact ⟨by rw [HE.out]; rfl, HB.out⟩
    · obtain rfl : k = rs.length := by omega
      have hge : ¬ ((rs.length : Nat) : Int) < ((rs.length : Nat) : Int) := by omega
      rcases (by omega : rs.length = 0 ∨ (0 < rs.length ∧ rs.length ≤ 16) ∨ 16 < rs.length) with h0 | ⟨h0, h16⟩ | h16
      · have HE := hid (show nameR rs = false by rw [List.eq_nil_of_length_eq_zero h0]; rfl)
        have e1 : ((rs.length : Nat) : Int) ≤ 0 := by omega
        clear HOK HLG HBAD HT hlt hk h0 hge
        go_wp2
        go_ret
        exact ⟨by rw [HE.out]; rfl, HB.out⟩
      · have hz : ((rs.length : Nat) : Int) ≤ 16 := by omega
        have hp : (0 : Int) < ((rs.length : Nat) : Int) := by omega
        have HE := hid (HOK.out h0 h16 (fun j hj => HT.out j hj hj))
        obtain ⟨b, off, hA⟩ := HS.out.addr3 (by rw [rcells_length]; omega)
        subst hA
        have c1 := (HS.out.rune 0 h0).1
        rw [Nat.zero_mul, Nat.add_zero] at c1
        clear HOK HLG HBAD HT hlt hk hge
        generalize (rs[0]).2.1 = q at c1 HE
        by_cases h57 : 57 < q
        · rw [decide_eq_true h57] at HE
          have e1 : decide ((57 : Int) < (q : Int)) = true := decide_eq_true (by omega)
          clear h57
          go_wp2
          go_ret
          exact ⟨by rw [HE.out]; rfl, HB.out⟩
        · rw [decide_eq_false h57] at HE
          have e1 : decide ((57 : Int) < (q : Int)) = false := decide_eq_false (by omega)
          clear h57
          go_wp2
          go_ret
          exact ⟨by rw [HE.out]; rfl, HB.out⟩
      · have hz : (16 : Int) < ((rs.length : Nat) : Int) := by omega
        have HE := hid (HLG.out h16)
        clear HOK HLG HBAD HT hlt hk hge
        go_wp2
        go_ret
        exact ⟨by rw [HE.out]; rfl, HB.out⟩
end Go.Proofs.Ytdphdodjidbngaa
