/- The document's sets of numbers, as contracts. -/
import Derived.Test.YtfaglemadpobeaaDoorFlkA
import Derived.Test.YtfaglemadpobeaaDoorIcell
import Derived.Lib.QuietBelow
namespace Go.Proofs.YtfaglemadpobeaaDoor
open Go.RowKit
set_option linter.unusedVariables false
set_option linter.unusedSimpArgs false

theorem in06_any (A : Option Addr) (len cap : Nat) (l : List Int) (k : Int) (w : World) (h : Sl w 1 A len cap (icells .i64 l)) :
    Calls Tryd.prog 32 #[.slice A len cap, .int .i64 k] w fun e w' => e = .returned (.bool (decide (k ∈ l))) ∧ w = w' := by
  obtain rfl : len = l.length := by have := h.1; rw [icells_length] at this; omega
  have hmx : l.length ≤ 9223372036854775807 := by have h1 := h.2.1; have h2 := h.2.2.1; unfold maxLen at h2; omega
  have HS := hid h
  clear h
  go_enter Tryd.func32, Tryd.ntmps32
  go_wp2
  go_loop [5] (fun i => ∃ j : Nat, j ≤ l.length ∧ i = .int .i64 (j : Int) ∧ Hid (k ∉ l.take j)) (fun i => l.length - (intOf i).toNat)
  case atStart => exact ⟨0, by omega, rfl, by simp [Hid]⟩
  case round =>
    obtain ⟨j, hj, rfl, HN⟩ := hrel
    by_cases hlt : j < l.length
    · have hlt2 : (j : Int) < (l.length : Int) := by omega
      obtain ⟨b, off, rfl, hc⟩ := Sl.at HS.out j (by rw [icells_length]; exact hlt)
      have e1 : (icells .i64 l)[j]'(by rw [icells_length]; exact hlt) = .int .i64 l[j] := by simp [icells]
      rw [e1] at hc
      have H1 : Hid (l.take (j + 1) = l.take j ++ [l[j]]) := hid (List.take_succ_eq_append_getElem hlt)
      have H2 : Hid (l[j] ∈ l) := hid (List.getElem_mem hlt)
      clear e1
      generalize l[j] = x at hc H1 H2
      by_cases hx : x = k
      · subst hx
        have hb : (x == x) = true := by simp
        go_wp2
        go_ret
        exact ⟨ret_bool (by rw [decide_eq_true H2.out]), rfl⟩
      · have hb : (x == k) = false := by simpa using hx
        have H3 : Hid (k ∉ l.take (j + 1)) := hid (by
          rw [H1.out, List.mem_append, List.mem_singleton]
          rintro (h | h)
          · exact HN.out h
          · exact hx h.symm)
        clear hx
        go_wp2
        go_round
        case rel => exact ⟨j + 1, by omega, by go_num, H3.out⟩
        case measure => simp [intOf]; omega
    · have hge : (l.length : Int) ≤ j := by omega
      have H3 : Hid (k ∉ l) := hid (by have := HN.out; rwa [List.take_of_length_le (by omega)] at this)
      clear HN
      go_wp2
      go_ret
      exact ⟨ret_bool (by rw [decide_eq_false H3.out]), rfl⟩

theorem rof_any (A : Option Addr) (len cap : Nat) (l : List Int) (w : World) (h : Sl w 1 A len cap (icells .i64 l)) :
    Calls Tryd.prog 20 #[.slice A len cap] w fun e w' => e = .returned (.int .u64 (ofL l : Nat)) ∧ w = w' := by
  have HI := hid (fun k => in06_any A len cap l k w h)
  clear h
  go_enter Tryd.func20, Tryd.ntmps20
  go_wp2
  go_loop [3, 4] (fun x i => ∃ k m : Nat, k ≤ 64 ∧ i = .int .i64 (k : Int) ∧ x = .int .u64 (m : Int) ∧ Hid (m = ofU l k)) (fun _ i => 64 - (intOf i).toNat)
  case atStart => exact ⟨0, 0, by omega, rfl, rfl, rfl⟩
  case round =>
    obtain ⟨k, m, hk, rfl, rfl, HM⟩ := hrel
    by_cases hlt : k < 64
    · have hlt2 : (k : Int) < 64 := by omega
      by_cases hm : (k : Int) ∈ l
      · have hd : decide ((k : Int) ∈ l) = true := decide_eq_true hm
        have H1 : Hid (m + p2 k = ofU l (k + 1)) := hid (by rw [HM.out, ofU, if_pos hm]; rfl)
        have hb : m + p2 k < 18446744073709551616 := by
          rw [H1.out]
          have h1 := ofU_lt l (k + 1)
          have h2 : 2 ^ (k + 1) ≤ 2 ^ 64 := Nat.pow_le_pow_right (by omega) (by omega)
          simp only [Nat.reducePow] at h2
          omega
        have H2 := hid (rbit_any k w hlt)
        clear hm HM
        have H3 := hid (HI.out (k : Int))
        rw [hd] at H3
        clear hd
        go_wp2_with (first
          | (go_at_call 32; refine H3.out.mono ?_; rintro e w' ⟨rfl, rfl⟩)
          | (go_at_call 33; refine H2.out.mono ?_; rintro e w' ⟨rfl, rfl⟩))
        go_round
        case rel => exact ⟨k + 1, m + p2 k, by omega, by go_num, by simp, H1.out⟩
        case measure => simp [intOf]; omega
      · have hd : decide ((k : Int) ∈ l) = false := decide_eq_false hm
        have H1 : Hid (m = ofU l (k + 1)) := hid (by rw [HM.out, ofU, if_neg hm]; rfl)
        clear hm HM
        have H3 := hid (HI.out (k : Int))
        rw [hd] at H3
        clear hd
        go_wp2_with (go_at_call 32; refine H3.out.mono ?_; rintro e w' ⟨rfl, rfl⟩)
        go_round
        case rel => exact ⟨k + 1, m, by omega, by go_num, rfl, H1.out⟩
        case measure => simp [intOf]; omega
    · have hge : (64 : Int) ≤ k := by omega
      have H1 : Hid (m = ofL l) := hid (by rw [HM.out, show k = 64 by omega]; rfl)
      clear HM
      go_wp2
      go_ret
      exact ⟨ret_u64 (by rw [H1.out]), rfl⟩

end Go.Proofs.YtfaglemadpobeaaDoor
