/- Needs: the document's functions: contracts. -/
import Derived.Test.YtdphdodjidbngaaNeeE
namespace Go.Proofs.Ytdphdodjidbngaa
open Go.RowKit Go.Sort
set_option linter.unusedVariables false
set_option linter.unusedSimpArgs false

set_option maxHeartbeats 1000000 in
theorem rnsame_any (A B : Option Addr) (len cap len' cap' : Nat) (l m : List (Int × Int)) (W : World) (hA : Sl W 2 A len cap (pcells l)) (hB : Sl W 2 B len' cap' (pcells m)) (h6 : len ≤ 9223372036854775807) (h7 : len' ≤ 9223372036854775807) :
    Calls Try.prog 14 #[.slice A len cap, .slice B len' cap'] W fun e w' => e = .returned (.bool (l == m)) ∧ ∃ q, w' = W.drewN q := by
  obtain rfl := hA.plen
  obtain rfl := hB.plen
  by_cases hlen : l.length = m.length
  · have HA := hid hA
    have HB := hid hB
    clear hA hB
    have HL := hid hlen
    rw [← hlen]
    clear h7 hlen
    go_enter Try.func14, Try.ntmps14
    go_wp2
    go_loopw [5] (fun i wr => ∃ k q : Nat, k ≤ l.length ∧ i = .int .i64 (k : Int) ∧ wr = W.drewN q ∧ Hid (l.take k = m.take k)) (fun i _ => l.length - (intOf i).toNat)
    case atStart => exact ⟨0, 0, by omega, rfl, rfl, by simp [Hid]⟩
    case round =>
      obtain ⟨k, q, hk, rfl, rfl, HT⟩ := hrel
      by_cases hlt : k < l.length
      · have hltm : k < m.length := by have := HL.out; omega
        obtain ⟨b, off, hA⟩ := HA.out.addr (by rw [pcells_length]; omega)
        subst hA
        obtain ⟨b2, off2, hB⟩ := HB.out.addr (by rw [pcells_length]; omega)
        subst hB
        obtain ⟨c1, c2⟩ := HA.out.pair k hlt
        obtain ⟨d1, d2⟩ := HB.out.pair k hltm
        have HE : Hid (l[k] = m[k] ↔ l.take (k + 1) = m.take (k + 1)) := by
          have h1 : l.take (k + 1) = l.take k ++ [l[k]] := by rw [List.take_add_one, List.getElem?_eq_getElem hlt]; rfl
          have h2 : m.take (k + 1) = m.take k ++ [m[k]] := by rw [List.take_add_one, List.getElem?_eq_getElem hltm]; rfl
          rw [Hid, h1, h2, HT.out]
          exact ⟨fun h => by rw [h], fun h => by simpa using List.append_cancel_left h⟩
        generalize l[k] = x at c1 c2 HE
        generalize m[k] = y at d1 d2 HE
        obtain ⟨x1, x2⟩ := x
        obtain ⟨y1, y2⟩ := y
        simp only at c1 c2 d1 d2
        have hlt2 : (k : Int) < (l.length : Int) := by omega
        by_cases hxy : x1 = y1 ∧ x2 = y2
        · obtain ⟨rfl, rfl⟩ := hxy
          have HE2 := hid (HE.out.1 rfl)
          clear HE
          have e1 : (x1 == x1) = true := by simp
          have e2 : (x2 == x2) = true := by simp
          go_wp2
          go_quiet (fail)
          go_wp2
          go_roundw
          case rel => exact ⟨k + 1, q + nq, by omega, by go_num, rfl, HE2.out⟩
          case measure => simp [intOf]; omega
        · have HF : Hid ((l == m) = false) := by
            simp only [Hid, beq_eq_false_iff_ne, ne_eq]
            intro h
            have := HE.out.2 (by rw [h])
            simp only [Prod.mk.injEq] at this
            exact hxy this
          clear HE
          by_cases h1 : x1 = y1
          · subst h1
            have e1 : (x1 == x1) = true := by simp
            have e2 : (x2 == y2) = false := by rw [beq_eq_false_iff_ne]; exact fun h => hxy ⟨rfl, h⟩
            clear hxy
            go_wp2
            go_quiet (fail)
            go_wp2
            go_ret
            refine ⟨?_, q + nq, by simp⟩
            rw [HF.out]
            rfl
          · have e1 : (x1 == y1) = false := by rw [beq_eq_false_iff_ne]; exact h1
            clear hxy h1
            go_wp2
            go_quiet (fail)
            go_wp2
            go_ret
            refine ⟨?_, q + nq, by simp⟩
            rw [HF.out]
            rfl
      · have HF : Hid ((l == m) = true) := by
          have h1 := HT.out
          rw [List.take_of_length_le (by omega), List.take_of_length_le (by have := HL.out; omega)] at h1
          simp [Hid, h1]
        have hge : ¬ (k : Int) < (l.length : Int) := by omega
        go_wp2
        go_ret
        refine ⟨?_, _, rfl⟩
        rw [HF.out]
        rfl
  · have HF : Hid ((l == m) = false) := by
      simp only [Hid, beq_eq_false_iff_ne, ne_eq]
      intro h
      exact hlen (by rw [h])
    rw [HF.out]
    have hne : ((l.length : Int) != (m.length : Int)) = true := by simp; omega
    clear HF hA hB h6 h7 hlen
    go_enter Try.func14, Try.ntmps14
    go_wp2
    go_ret
    exact ⟨rfl, 0, rfl⟩




theorem parts0_any (op : Int) (w : World) : Calls Try.prog 73 #[.int .i64 op] w fun e w' => e = .returned (.int .i64 ((arN op : Nat) : Int)) ∧ w = w' := by
  by_cases h3 : op = 3
  · subst h3
    go_enter Try.func73, Try.ntmps73
    go_wp2
    go_ret
    exact ⟨rfl, rfl⟩
  by_cases h4 : op = 4
  · subst h4
    go_enter Try.func73, Try.ntmps73
    go_wp2
    go_ret
    exact ⟨rfl, rfl⟩
  by_cases h5 : op = 5
  · subst h5
    go_enter Try.func73, Try.ntmps73
    go_wp2
    go_ret
    exact ⟨rfl, rfl⟩
  have HA : Hid (arN op = 0) := hid (by simp [arN, h3, h4, h5])
  have e3 : (op == 3) = false := by simp [h3]
  have e4 : (op == 4) = false := by simp [h4]
  have e5 : (op == 5) = false := by simp [h5]
  go_enter Try.func73, Try.ntmps73
  go_wp2
  go_ret
  exact ⟨by rw [HA.out]; rfl, rfl⟩
theorem may_any (op n : Int) (W : World) : Calls Try.prog 47 #[.agg #[.int .i64 op, .int .i64 n]] W fun e w' => e = .returned (.bool (mayN (op, n))) ∧ Below W.heap.size W w' := by
  have HM : Hid (mayN (op, n) = if op = 2 then decide (0 ≤ n) && decide (n < 16) else (decide (1 ≤ op) && decide (op ≤ 5)) && decide (n = 0)) := hid rfl
  have HB : Hid (∀ o, Below W.heap.size W (W.alloc o)) := hid (fun o => (Below.refl _ _).alloc (Nat.le_refl _) _)
  go_enter Try.func47, Try.ntmps47
  go_wp2
  all_goals go_ret
  all_goals
    refine ⟨?_, HB.out _⟩
    rw [HM.out]
    congr 2
    simp_all
    try (first | omega | (rw [Bool.eq_iff_iff]; simp))

set_option maxRecDepth 20000 in
set_option maxHeartbeats 2000000 in
theorem begin_any (A : Option Addr) (cap : Nat) (l : List (Int × Int)) (e : Nat) (W : World) (h : Sl W 2 A l.length cap (pcells l)) (hl : l.length ≤ 1000) (he : e < l.length) :
    Calls Try.prog 48 #[.slice A l.length cap, .int .i64 (e : Int)] W fun x w' => x = .returned (.int .i64 (beginN l (e + 1))) ∧ W = w' := by
  have HS := hid h
  have hl9 : (l.length : Int) ≤ 1000 := by omega
  have HP := hid parts0_any
  clear h
  go_enter Try.func48, Try.ntmps48
  go_wp2
  go_loop [5, 6] (fun s i => ∃ j m : Nat, j ≤ e + 1 ∧ m ≤ 2 * (e + 1 - j) ∧ i = .int .i64 ((j : Int) - 1) ∧ s = .int .i64 ((m : Int) + 1) ∧ Hid (bkN l j (m + 1) = beginN l (e + 1))) (fun _ i => (intOf i + 1).toNat)
  case atStart => exact ⟨e + 1, 0, by omega, by omega, congrArg (Value.int .i64) (by omega), rfl, rfl⟩
  case round =>
    obtain ⟨j, m, hj, hm, rfl, rfl, HK⟩ := hrel
    cases j with
    | zero =>
      have HV : Hid (beginN l (e + 1) = -1) := hid (by rw [← HK.out]; rfl)
      clear HK
      go_wp2
      go_ret
      exact ⟨by rw [HV.out]; rfl, rfl⟩
    | succ j =>
      rw [show ((j + 1 : Nat) : Int) - 1 = (j : Int) by omega]
      have hj2 : j < l.length := by omega
      have hj3 : (j : Int) < (l.length : Int) := by omega
      obtain ⟨bb, off, rfl⟩ : ∃ b off, A = some ⟨b, off, none⟩ := by
        obtain ⟨b, off, ha, _⟩ := HS.out.2.2.2 (by rw [pcells_length]; omega)
        exact ⟨b, off, ha⟩
      obtain ⟨hc0, hc1⟩ := HS.out.pair j hj2
      have hk := HK.out
      rw [bkN, List.getD_eq_getElem?_getD, List.getElem?_eq_getElem hj2] at hk
      simp only [Option.getD_some] at hk
      have HK2 := hid hk
      generalize l[j] = x at *
      obtain ⟨op, n⟩ := x
      simp only at HK2
      have har : arN op ≤ 2 := by unfold arN; split; omega; split <;> omega
      have HPC := hid (HP.out op W)
      clear hk HK
      generalize arN op = a at *
      have har2 : (a : Int) ≤ 2 := by omega
      have hm9 : (m : Int) ≤ 2100 := by omega
      by_cases h0 : m + a = 0
      · have hm0 : m = 0 := by omega
        have ha0 : a = 0 := by omega
        subst hm0
        subst ha0
        have HV : Hid (beginN l (e + 1) = (j : Int)) := hid (by rw [← HK2.out]; simp)
        clear HK2
        go_wp2_with (go_at_call 73; refine HPC.out.mono ?_; rintro x w' ⟨rfl, rfl⟩)
        go_ret
        exact ⟨by rw [HV.out]; rfl, rfl⟩
      · have h0' : ¬ ((m : Int) + (a : Int) = 0) := by omega
        obtain ⟨d, hd⟩ : ∃ d, m + a = d + 1 := ⟨m + a - 1, by omega⟩
        have HV : Hid (bkN l j (d + 1) = beginN l (e + 1)) := hid (by
          have := HK2.out
          rw [if_neg (by omega), show m + 1 - 1 + a = d + 1 by omega] at this
          exact this)
        clear HK2
        go_wp2_with (go_at_call 73; refine HPC.out.mono ?_; rintro x w' ⟨rfl, rfl⟩)
        go_round
        case rel => exact ⟨j, d, by omega, by omega, rfl, congrArg (Value.int .i64) (by omega), HV.out⟩
        case measure => simp [intOf]
end Go.Proofs.Ytdphdodjidbngaa

