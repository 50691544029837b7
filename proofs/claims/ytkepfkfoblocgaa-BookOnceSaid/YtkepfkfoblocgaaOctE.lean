/- octet.Reader's small methods. -/
import Derived.Test.YtkepfkfoblocgaaOctD
namespace Go.Proofs.Ytkepfkfoblocgaa
open Go.RowKit
set_option linter.unusedVariables false
set_option linter.unusedSimpArgs false

theorem rdErr_any (B : Nat) (l : List UInt8) (e : Int) (W : World) (h : RdrAt W B l e) :
    Calls Try.prog 126 #[.pointer (some ⟨B, 0, none⟩)] W fun x w' => x = .returned (.int .i64 e) ∧ W = w' := by
  obtain ⟨a, cap, hB, hs⟩ := h
  obtain ⟨c0, c1, f0, f1⟩ := two_cells hB
  clear hB hs
  go_enter Try.func126, Try.ntmps126
  go_wp2
  go_ret
  exact ⟨rfl, rfl⟩
theorem rdLeft_any (B : Nat) (l : List UInt8) (e : Int) (W : World) (h : RdrAt W B l e) :
    Calls Try.prog 128 #[.pointer (some ⟨B, 0, none⟩)] W fun x w' => x = .returned (.int .i64 (l.length : Nat)) ∧ W = w' := by
  obtain ⟨a, cap, hB, hs⟩ := h
  obtain ⟨c0, c1, f0, f1⟩ := two_cells hB
  clear hB hs
  go_enter Try.func128, Try.ntmps128
  go_wp2
  go_ret
  exact ⟨rfl, rfl⟩
def rdFail (x e : Int) : Int := if e = 0 then x else e
theorem rdFail_any (B : Nat) (l : List UInt8) (e x : Int) (W : World) (h : RdrAt W B l e) :
    Calls Try.prog 124 #[.pointer (some ⟨B, 0, none⟩), .int .i64 x] W fun y w' => (∃ v, y = .returned v) ∧ RdrAt w' B l (rdFail x e) ∧ Only B W w' := by
  have H := hid h
  obtain ⟨a, cap, hB, hs⟩ := h
  obtain ⟨c0, c1, f0, f1⟩ := two_cells hB
  clear hB hs
  by_cases he : e = 0
  · subst he
    go_enter Try.func124, Try.ntmps124
    go_wp2
    go_end0
    exact ⟨⟨_, rfl⟩, by rw [rdFail, if_pos rfl]; exact H.out.setErr x, (Only.refl B W).set 1 _⟩
  · have hne : (e == 0) = false := by simp [he]
    have HR : Hid (rdFail x e = e) := hid (by rw [rdFail, if_neg he])
    clear he
    go_enter Try.func124, Try.ntmps124
    go_wp2
    go_end0
    exact ⟨⟨_, rfl⟩, by rw [HR.out]; exact H.out, Only.refl B W⟩
def rdEnd (l : List UInt8) (e : Int) : Int := if e = 0 then (if 0 < l.length then 3 else 0) else e
theorem rdEnd_any (B : Nat) (l : List UInt8) (e : Int) (W : World) (h : RdrAt W B l e) :
    Calls Try.prog 101 #[.pointer (some ⟨B, 0, none⟩)] W fun x w' => x = .returned (.int .i64 (rdEnd l e)) ∧ W = w' := by
  have HE := hid (fun w (hw : W = w) => rdErr_any B l e w (hw ▸ h))
  obtain ⟨a, cap, hB, hs⟩ := h
  obtain ⟨c0, c1, f0, f1⟩ := two_cells hB
  clear hB hs
  by_cases he : e = 0
  · subst he
    by_cases hl : 0 < l.length
    · have hl' : (0 : Int) < l.length := by omega
      have hd : decide (0 < l.length) = true := by simp; omega
      have HR : Hid (rdEnd l 0 = 3) := hid (by rw [rdEnd, if_pos rfl, if_pos hl])
      clear hl
      go_enter Try.func101, Try.ntmps101
      go_wp2_with (go_at_call 126; refine (HE.out _ rfl).mono ?_; rintro e w' ⟨rfl, rfl⟩)
      go_ret
      exact ⟨by rw [HR.out]; rfl, rfl⟩
    · have hl' : l.length = 0 := by omega
      have HR : Hid (rdEnd l 0 = 0) := hid (by rw [rdEnd, if_pos rfl, if_neg hl])
      rw [hl'] at c0
      clear hl hl'
      go_enter Try.func101, Try.ntmps101
      go_wp2_with (go_at_call 126; refine (HE.out _ rfl).mono ?_; rintro e w' ⟨rfl, rfl⟩)
      go_ret
      exact ⟨by rw [HR.out]; rfl, rfl⟩
  · have hne : (e != 0) = true := by simp [he]
    have HR : Hid (rdEnd l e = e) := hid (by rw [rdEnd, if_neg he])
    clear he
    go_enter Try.func101, Try.ntmps101
    go_wp2_with (go_at_call 126; refine (HE.out _ rfl).mono ?_; rintro e w' ⟨rfl, rfl⟩)
    go_ret
    exact ⟨by rw [HR.out]; rfl, rfl⟩

theorem rdNil_num (most : Int) (W : World) : Calls Try.prog 123 #[.pointer none, .int .i64 most] W fun x w' => x = .returned (.int .i64 0) ∧ W = w' := by
  go_enter Try.func123, Try.ntmps123
  go_wp2
  go_ret
  exact ⟨rfl, rfl⟩
theorem rdNil_text (most : Int) (W : World) : Calls Try.prog 100 #[.pointer none, .int .i64 most] W fun x w' => x = .returned (.string ⟨#[]⟩) ∧ W = w' := by
  go_enter Try.func100, Try.ntmps100
  go_wp2
  go_ret
  exact ⟨rfl, rfl⟩
theorem rdNil_fail (x : Int) (W : World) : Calls Try.prog 124 #[.pointer none, .int .i64 x] W fun y w' => (∃ v, y = .returned v) ∧ W = w' := by
  go_enter Try.func124, Try.ntmps124
  go_wp2
  go_end0
  exact ⟨⟨_, rfl⟩, rfl⟩
theorem rdNil_left (W : World) : Calls Try.prog 128 #[.pointer none] W fun x w' => x = .returned (.int .i64 0) ∧ W = w' := by
  go_enter Try.func128, Try.ntmps128
  go_wp2
  go_ret
  exact ⟨rfl, rfl⟩
theorem rdNil_err (W : World) : Calls Try.prog 126 #[.pointer none] W fun x w' => x = .returned (.int .i64 1) ∧ W = w' := by
  go_enter Try.func126, Try.ntmps126
  go_wp2
  go_ret
  exact ⟨rfl, rfl⟩
theorem rdNil_end (W : World) : Calls Try.prog 101 #[.pointer none] W fun x w' => x = .returned (.int .i64 1) ∧ W = w' := by
  go_enter Try.func101, Try.ntmps101
  go_wp2_with (go_at_call 126; refine (rdNil_err _).mono ?_; rintro e w' ⟨rfl, rfl⟩)
  go_ret
  exact ⟨rfl, rfl⟩
end Go.Proofs.Ytkepfkfoblocgaa
