/- The flock laws' own walks. -/
import Derived.Test.YtdphdodjidbngaaFlkB
namespace Go.Proofs.Ytdphdodjidbngaa
open Go.RowKit
set_option linter.unusedVariables false
set_option linter.unusedSimpArgs false

theorem of_any (A : Option Addr) (len cap : Nat) (l : List Int) (w : World) (h : Sl w 1 A len cap (icells .i64 l)) :
    Calls Try.prog 102 #[.slice A len cap] w fun e w' => e = .returned (.int .u64 (ofL l : Nat)) ∧ w = w' := by
  obtain rfl : len = l.length := by have := h.1; rw [icells_length] at this; omega
  have hmx : l.length ≤ 9223372036854775807 := by have h1 := h.2.1; have h2 := h.2.2.1; unfold maxLen at h2; omega
  have HS := hid h
  clear h
  go_enter Try.func102, Try.ntmps102
  go_wp2
  go_loop [3, 8] (fun x i => ∃ k m : Nat, k ≤ l.length ∧ i = .int .i64 (k : Int) ∧ x = .int .u64 (m : Int) ∧ m < 18446744073709551616 ∧ Hid (m = foldS l k)) (fun _ i => l.length - (intOf i).toNat)
  case atStart => exact ⟨0, 0, by omega, rfl, rfl, by omega, rfl⟩
  case round =>
    obtain ⟨k, m, hk, rfl, rfl, hm, HM⟩ := hrel
    by_cases hlt : k < l.length
    · have hlt2 : (k : Int) < (l.length : Int) := by omega
      obtain ⟨b, off, rfl, hc⟩ := Sl.at HS.out k (by rw [icells_length]; exact hlt)
      have e1 : (icells .i64 l)[k]'(by rw [icells_length]; exact hlt) = .int .i64 l[k] := by simp [icells]
      rw [e1] at hc
      have H1 : Hid (withS m l[k] = foldS l (k + 1)) := hid (by rw [HM.out, foldS]; simp [List.getD_eq_getElem?_getD, hlt])
      clear e1 HM
      generalize l[k] = x at hc H1
      have H2 := hid (fun w => with_any m x w hm)
      have hm2 := withS_lt m x hm
      go_wp2_with (go_at_call 139; refine (H2.out _).mono ?_; rintro e w' ⟨rfl, rfl⟩)
      go_round
      case rel => exact ⟨k + 1, withS m x, by omega, by go_num, rfl, hm2, H1.out⟩
      case measure => simp [intOf]; omega
    · have hge : (l.length : Int) ≤ k := by omega
      have H1 : Hid (m = ofL l) := hid (by rw [HM.out, foldS_eq l k hk, List.take_of_length_le (by omega)])
      clear HM
      go_wp2
      go_ret
      exact ⟨ret_u64 (by rw [H1.out]), rfl⟩

end Go.Proofs.Ytdphdodjidbngaa

