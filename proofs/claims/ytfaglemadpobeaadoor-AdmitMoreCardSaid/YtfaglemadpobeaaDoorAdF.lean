/- The document: Parts0, May, Begin. -/
import Derived.Test.YtfaglemadpobeaaDoorAdE
namespace Go.Proofs.YtfaglemadpobeaaDoor
open Go.RowKit Go.Sort
set_option linter.unusedVariables false
set_option linter.unusedSimpArgs false

theorem parts0_any (op : Int) (w : World) : Calls Tryd.prog 35 #[.int .i64 op] w fun e w' => e = .returned (.int .i64 ((arN op : Nat) : Int)) ∧ w = w' := by
  by_cases h3 : op = 3
  · subst h3
    go_enter Tryd.func35, Tryd.ntmps35
    go_wp2
    go_ret
    exact ⟨rfl, rfl⟩
  by_cases h4 : op = 4
  · subst h4
    go_enter Tryd.func35, Tryd.ntmps35
    go_wp2
    go_ret
    exact ⟨rfl, rfl⟩
  by_cases h5 : op = 5
  · subst h5
    go_enter Tryd.func35, Tryd.ntmps35
    go_wp2
    go_ret
    exact ⟨rfl, rfl⟩
  have HA : Hid (arN op = 0) := hid (by simp [arN, h3, h4, h5])
  have e3 : (op == 3) = false := by simp [h3]
  have e4 : (op == 4) = false := by simp [h4]
  have e5 : (op == 5) = false := by simp [h5]
  go_enter Tryd.func35, Tryd.ntmps35
  go_wp2
  go_ret
  exact ⟨by rw [HA.out]; rfl, rfl⟩
theorem may_any (op n : Int) (W : World) : Calls Tryd.prog 22 #[.agg #[.int .i64 op, .int .i64 n]] W fun e w' => e = .returned (.bool (mayN (op, n))) ∧ Below W.heap.size W w' := by
  have HM : Hid (mayN (op, n) = if op = 2 then decide (0 ≤ n) && decide (n < 16) else (decide (1 ≤ op) && decide (op ≤ 5)) && decide (n = 0)) := hid rfl
  have HB : Hid (∀ o, Below W.heap.size W (W.alloc o)) := hid (fun o => (Below.refl _ _).alloc (Nat.le_refl _) _)
  go_enter Tryd.func22, Tryd.ntmps22
  go_wp2
  all_goals go_ret
  all_goals
    refine ⟨?_, HB.out _⟩
    rw [HM.out]
    congr 2
    simp_all
    try (first | omega | (rw [Bool.eq_iff_iff]; simp))
set_option maxRecDepth 20000 in
set_option maxHeartbeats 2000000 in
theorem begin_any (A : Option Addr) (cap : Nat) (l : List (Int × Int)) (e : Nat) (W : World) (h : Sl W 2 A l.length cap (pcells l)) (hl : l.length ≤ 1000) (he : e < l.length) :
    Calls Tryd.prog 23 #[.slice A l.length cap, .int .i64 (e : Int)] W fun x w' => x = .returned (.int .i64 (beginN l (e + 1))) ∧ W = w' := by
  have HS := hid h
  have hl9 : (l.length : Int) ≤ 1000 := by omega
  have HP := hid parts0_any
  clear h
  go_enter Tryd.func23, Tryd.ntmps23
  go_wp2
  go_loop [5, 6] (fun s i => ∃ j m : Nat, j ≤ e + 1 ∧ m ≤ 2 * (e + 1 - j) ∧ i = .int .i64 ((j : Int) - 1) ∧ s = .int .i64 ((m : Int) + 1) ∧ Hid (bkN l j (m + 1) = beginN l (e + 1))) (fun _ i => (intOf i + 1).toNat)
  case atStart => exact ⟨e + 1, 0, by omega, by omega, congrArg (Value.int .i64) (by omega), rfl, rfl⟩
  case round =>
    obtain ⟨j, m, hj, hm, rfl, rfl, HK⟩ := hrel
    cases j with
    | zero =>
      have HV : Hid (beginN l (e + 1) = -1) := hid (by rw [← HK.out]; rfl)
      clear HK
      go_wp2
      go_ret
      exact ⟨by rw [HV.out]; rfl, rfl⟩
    | succ j =>
      rw [show ((j + 1 : Nat) : Int) - 1 = (j : Int) by omega]
      have hj2 : j < l.length := by omega
      have hj3 : (j : Int) < (l.length : Int) := by omega
      obtain ⟨bb, off, rfl⟩ : ∃ b off, A = some ⟨b, off, none⟩ := by
        obtain ⟨b, off, ha, _⟩ := HS.out.2.2.2 (by rw [pcells_length]; omega)
        exact ⟨b, off, ha⟩
      obtain ⟨hc0, hc1⟩ := HS.out.pair j hj2
      have hk := HK.out
      rw [bkN, List.getD_eq_getElem?_getD, List.getElem?_eq_getElem hj2] at hk
      simp only [Option.getD_some] at hk
      have HK2 := hid hk
      generalize l[j] = x at *
      obtain ⟨op, n⟩ := x
      simp only at HK2
      have har : arN op ≤ 2 := by unfold arN; split; omega; split <;> omega
      have HPC := hid (HP.out op W)
      clear hk HK
      generalize arN op = a at *
      have har2 : (a : Int) ≤ 2 := by omega
      have hm9 : (m : Int) ≤ 2100 := by omega
      by_cases h0 : m + a = 0
      · have hm0 : m = 0 := by omega
        have ha0 : a = 0 := by omega
        subst hm0
        subst ha0
        have HV : Hid (beginN l (e + 1) = (j : Int)) := hid (by rw [← HK2.out]; simp)
        clear HK2
        go_wp2_with (go_at_call 35; refine HPC.out.mono ?_; rintro x w' ⟨rfl, rfl⟩)
        go_ret
        exact ⟨by rw [HV.out]; rfl, rfl⟩
      · have h0' : ¬ ((m : Int) + (a : Int) = 0) := by omega
        obtain ⟨d, hd⟩ : ∃ d, m + a = d + 1 := ⟨m + a - 1, by omega⟩
        have HV : Hid (bkN l j (d + 1) = beginN l (e + 1)) := hid (by
          have := HK2.out
          rw [if_neg (by omega), show m + 1 - 1 + a = d + 1 by omega] at this
          exact this)
        clear HK2
        go_wp2_with (go_at_call 35; refine HPC.out.mono ?_; rintro x w' ⟨rfl, rfl⟩)
        go_round
        case rel => exact ⟨j, d, by omega, by omega, rfl, congrArg (Value.int .i64) (by omega), HV.out⟩
        case measure => simp [intOf]
end Go.Proofs.YtfaglemadpobeaaDoor
