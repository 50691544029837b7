/- glyph.Name answers; what is a table; names.Check, as contracts. -/
import Derived.Test.YtdphdodjidbngaaNmP
import Derived.Laws.RangeAny
import Derived.Laws.Cover1
namespace Go.Proofs.Ytdphdodjidbngaa
open Go.RowKit
set_option linter.unusedVariables false
set_option linter.unusedSimpArgs false

theorem width_ge (s : ByteArray) (pos : Nat) (h : pos < s.size) : 1 ≤ (Utf8.decode s pos).2 := by
  by_cases ha : (s[pos]'h).toNat < 128
  · rw [decode_ascii s pos h ha]; exact Nat.le_refl _
  · exact (decode_high s pos h (by omega)).2

/-- The call comes back, with some answer. -/
def IsBool (e : Ending) : Prop := ∃ b, e = .returned (.bool b)

theorem digit_any (c : Int) (W : World) : Calls Try.prog 108 #[.int .i32 c] W fun e w' => IsBool e ∧ W = w' := by
  by_cases h1 : 48 ≤ c <;> by_cases h2 : c ≤ 57
  all_goals
    go_enter Try.func108, Try.ntmps108
    go_wp2
    go_ret
    exact ⟨⟨_, rfl⟩, rfl⟩

set_option maxHeartbeats 2000000 in
theorem letter_any (c : Int) (W : World) : Calls Try.prog 74 #[.int .i32 c] W fun e w' => IsBool e ∧ W = w' := by
  go_enter Try.func74, Try.ntmps74
  go_wp2_with (go_at_call 108; refine (digit_any _ _).mono ?_; rintro e w' ⟨⟨b, rfl⟩, rfl⟩)
  all_goals go_ret
  all_goals exact ⟨⟨_, rfl⟩, rfl⟩

theorem less_irrefl : ∀ x : List UInt8, Op.bytesLess x x = false
  | [] => rfl
  | a :: x => by simp [Op.bytesLess, less_irrefl x]
theorem less_trans : ∀ x y z : List UInt8, Op.bytesLess x y = true → Op.bytesLess y z = true → Op.bytesLess x z = true
  | _, [], _, h, _ => by cases ‹List UInt8› <;> simp [Op.bytesLess] at h
  | _, _ :: _, [], _, h => by simp [Op.bytesLess] at h
  | [], _ :: _, _ :: _, _, _ => by simp [Op.bytesLess]
  | a :: x, b :: y, c :: z, h1, h2 => by
    simp only [Op.bytesLess, Bool.or_eq_true, Bool.and_eq_true, decide_eq_true_eq, beq_iff_eq] at *
    rcases h1 with h1 | ⟨rfl, h1⟩
    · rcases h2 with h2 | ⟨rfl, h2⟩
      · exact .inl (UInt8.lt_trans h1 h2)
      · exact .inl h1
    · rcases h2 with h2 | ⟨rfl, h2⟩
      · exact .inl h2
      · exact .inr ⟨rfl, less_trans x y z h1 h2⟩

/-- Each text is above the one ahead of it, up to the k-th. -/
def Asc (l : List (List UInt8)) (k : Nat) : Prop := ∀ j, j + 1 < k → ∀ (hj : j + 1 < l.length), Op.bytesLess l[j] l[j + 1] = true
theorem Asc.lt {l : List (List UInt8)} (h : Asc l l.length) (i : Nat) (hi : i < l.length) : ∀ d, (hd : i + d + 1 < l.length) → Op.bytesLess l[i] l[i + d + 1] = true
  | 0, hd => h i hd hd
  | d + 1, hd => less_trans _ _ _ (h.lt i hi d (by omega)) (h (i + d + 1) hd hd)
theorem Asc.once {l : List (List UInt8)} (h : Asc l l.length) : Once l := fun i hi => placeJ_yes hi (fun j hj hji he => by
  obtain ⟨d, rfl⟩ : ∃ d, i = j + d + 1 := ⟨i - j - 1, by omega⟩
  have := h.lt j hj d hi
  rw [he, less_irrefl] at this
  cases this) rfl

end Go.Proofs.Ytdphdodjidbngaa
