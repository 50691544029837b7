/- The flock laws' own walks. -/
import Derived.Test.YtadjmgmdnekllaaFlockE
namespace Go.Proofs.Ytadjmgmdnekllaa
open Go.RowKit
set_option linter.unusedVariables false
set_option linter.unusedSimpArgs false

theorem of_any (A : Option Addr) (len cap : Nat) (l : List Int) (w : World) (h : Sl w 1 A len cap (icells .i64 l)) :
    Calls Try.prog 22 #[.slice A len cap] w fun e w' => e = .returned (.int .u64 (ofL l : Nat)) ∧ w = w' := by
  obtain rfl : len = l.length := by have := h.1; rw [icells_length] at this; omega
  have hmx : l.length ≤ 9223372036854775807 := by have h1 := h.2.1; have h2 := h.2.2.1; unfold maxLen at h2; omega
  have HS := hid h
  clear h
  go_enter Try.func22, Try.ntmps22
  go_wp2
  go_loop [3, 8] (fun x i => ∃ k m : Nat, k ≤ l.length ∧ i = .int .i64 (k : Int) ∧ x = .int .u64 (m : Int) ∧ m < 18446744073709551616 ∧ Hid (m = foldS l k)) (fun _ i => l.length - (intOf i).toNat)
  case atStart => exact ⟨0, 0, by omega, rfl, rfl, by omega, rfl⟩
  case round =>
    obtain ⟨k, m, hk, rfl, rfl, hm, HM⟩ := hrel
    by_cases hlt : k < l.length
    · have hlt2 : (k : Int) < (l.length : Int) := by omega
      obtain ⟨b, off, rfl, hc⟩ := Sl.at HS.out k (by rw [icells_length]; exact hlt)
      have e1 : (icells .i64 l)[k]'(by rw [icells_length]; exact hlt) = .int .i64 l[k] := by simp [icells]
      rw [e1] at hc
      have H1 : Hid (withS m l[k] = foldS l (k + 1)) := hid (by rw [HM.out, foldS]; simp [List.getD_eq_getElem?_getD, hlt])
      clear e1 HM
      generalize l[k] = x at hc H1
      have H2 := hid (fun w => with_any m x w hm)
      have hm2 := withS_lt m x hm
      go_wp2_with (go_at_call 18; refine (H2.out _).mono ?_; rintro e w' ⟨rfl, rfl⟩)
      go_round
      case rel => exact ⟨k + 1, withS m x, by omega, by go_num, rfl, hm2, H1.out⟩
      case measure => simp [intOf]; omega
    · have hge : (l.length : Int) ≤ k := by omega
      have H1 : Hid (m = ofL l) := hid (by rw [HM.out, foldS_eq l k hk, List.take_of_length_le (by omega)])
      clear HM
      go_wp2
      go_ret
      exact ⟨ret_u64 (by rw [H1.out]), rfl⟩

theorem works06_any (w : World) : Calls Try.prog 15 #[] w fun e w' => e = .returned (.bool true) ∧ Below w.heap.size w w' := by
  have e1 : ofL [0, 2, 64] = 5 := by decide
  have e2 : nthS 5 1 = 2 := by unfold nthS; rw [elems_def]; decide
  have H1 := hid (of_any (some ⟨w.heap.size, 0, none⟩) 3 3 [0, 2, 64] (w.alloc (.cells #[.int .i64 0, .int .i64 2, .int .i64 64] 3)) (by
    have := Sl.lit w 3 1 3 #[.int .i64 0, .int .i64 2, .int .i64 64] rfl (by unfold maxLen; omega)
    simpa [icells] using this))
  have H2 := hid (fun w => nth_any 5 (by omega) 1 (by omega) w)
  rw [e1] at H1
  rw [e2] at H2
  clear e1 e2
  go_enter Try.func15, Try.ntmps15
  go_wp2_with (first
    | (go_at_call 22; refine H1.out.mono ?_; rintro e w' ⟨rfl, rfl⟩)
    | (go_at_call 31; refine (H2.out _).mono ?_; rintro e w' ⟨rfl, hb⟩))
  go_ret
  exact ⟨rfl, ((Below.refl _ _).alloc (Nat.le_refl _) _).trans (hb.mono (by simp))⟩

theorem flockSets_any (s : Nat) (k : Int) (A : Option Addr) (len cap : Nat) (l : List Int) (w : World) (hs : s < 18446744073709551616) (h : Sl w 1 A len cap (icells .i64 l)) :
    Calls Try.prog 3 #[.int .u64 s, .int .i64 k, .slice A len cap] w fun e w' => e = .returned (.bool true) ∧ Below w.heap.size w w' := by
  have hlc : len ≤ 9223372036854775807 := by have h1 := h.2.1; have h2 := h.2.2.1; unfold maxLen at h2; omega
  have HW := hid works06_any
  by_cases hl : 200 < len
  · have hl2 : (200 : Int) < len := by omega
    clear h hl
    go_enter Try.func3, Try.ntmps3
    go_wp2_with (go_at_call 15; refine (HW.out _).mono ?_; rintro e w' ⟨rfl, hb⟩)
    go_ret
    exact ⟨rfl, hb⟩
  · have hl2 : (len : Int) ≤ 200 := by omega
    have C1 := hid (fun w => has_any s k w hs)
    have C2 := hid (fun w => rhas_any s k w hs)
    have C3 := hid (fun w => with_any s k w hs)
    have C4 := hid (fun w => rwith_any s k w hs)
    have C5 := hid (fun w => less_any s k w hs)
    have C6 := hid (fun w => rless_any s k w hs)
    have C7 := hid (fun W (hb : Below w.heap.size w W) => of_any A len cap l W (h.below hb))
    have C8 := hid (fun W (hb : Below w.heap.size w W) => rof_any A len cap l W (h.below hb))
    have C9 := hid (fun w => below_any k w)
    have C10 := hid (fun w => rbelow_any k w)
    clear h hl hs
    generalize hasS s k = b1 at *
    generalize withS s k = n1 at *
    generalize lessS s k = n2 at *
    generalize ofL l = n3 at *
    generalize belowS k = n4 at *
    go_enter Try.func3, Try.ntmps3
    go_wp2_with (first
      | (go_at_call 16; refine (C1.out _).mono ?_; rintro e w' ⟨rfl, rfl⟩)
      | (go_at_call 17; refine (C2.out _).mono ?_; rintro e w' ⟨rfl, rfl⟩)
      | (go_at_call 18; refine (C3.out _).mono ?_; rintro e w' ⟨rfl, rfl⟩)
      | (go_at_call 19; refine (C4.out _).mono ?_; rintro e w4 ⟨rfl, hb4⟩)
      | (go_at_call 20; refine (C5.out _).mono ?_; rintro e w' ⟨rfl, rfl⟩)
      | (go_at_call 21; refine (C6.out _).mono ?_; rintro e w6 ⟨rfl, hb6⟩; have hb6' := hb4.trans (hb6.mono hb4.size))
      | (go_at_call 22; refine (C7.out _ hb6').mono ?_; rintro e w' ⟨rfl, rfl⟩)
      | (go_at_call 23; refine (C8.out _ hb6').mono ?_; rintro e w' ⟨rfl, rfl⟩)
      | (go_at_call 24; refine (C9.out _).mono ?_; rintro e w' ⟨rfl, rfl⟩)
      | (go_at_call 25; refine (C10.out _).mono ?_; rintro e w10 ⟨rfl, hb10⟩; have hb10' := hb6'.trans (hb10.mono hb6'.size))
      | (go_at_call 15; refine (HW.out _).mono ?_; rintro e w11 ⟨rfl, hb11⟩; have hb11' := hb10'.trans (hb11.mono hb10'.size)))
    go_ret
    exact ⟨rfl, hb11'⟩

theorem wf_u64 {n : Int} (h : (Lit.int .u64 n).wf = true) : ∃ s : Nat, n = (s : Int) ∧ s < 18446744073709551616 := by
  simp [Lit.wf, IntKind.min, IntKind.max, IntKind.signed, IntKind.bits] at h
  exact ⟨n.toNat, by omega, by omega⟩

theorem flockSets_law (a k : Int) (A : Option Addr) (len cap : Nat) (z : List Int) (w : World) (ha : (Lit.int .u64 a).wf = true) (h : IsRow .i64 w A len cap z) :
    Calls Try.prog 3 #[.int .u64 a, .int .i64 k, .slice A len cap] w fun e w' => e = .returned (.bool true) ∧ Below w.heap.size w w' := by
  obtain ⟨s, rfl, hs⟩ := wf_u64 ha
  exact flockSets_any s k A len cap _ w hs (Sl.of_row h).1
end Go.Proofs.Ytadjmgmdnekllaa
