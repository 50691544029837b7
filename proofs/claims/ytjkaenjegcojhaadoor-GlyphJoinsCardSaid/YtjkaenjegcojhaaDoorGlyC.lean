/- Letters: contracts. -/
import Derived.Test.YtjkaenjegcojhaaDoorChecked
import Derived.Test.YtjkaenjegcojhaaDoorGlyM
import Derived.Test.YtjkaenjegcojhaaDoorStep
import Derived.Deep.Cut
import Derived.Outline
import Derived.Laws.RangeAny
import Derived.Laws.Cover1
namespace Go.Proofs.YtjkaenjegcojhaaDoor
open Go.RowKit
set_option linter.unusedVariables false
set_option linter.unusedSimpArgs false

/-- What a letter is. -/
def LetP (c : Int) : Prop := (97 ≤ c ∧ c ≤ 122) ∨ (48 ≤ c ∧ c ≤ 57) ∨ (161 ≤ c ∧ c ≤ 1114111 ∧ c ≠ 65533 ∧ (c < 55296 ∨ 57343 < c))
instance (c : Int) : Decidable (LetP c) := by unfold LetP; infer_instance
def DigP (c : Int) : Prop := 48 ≤ c ∧ c ≤ 57
instance (c : Int) : Decidable (DigP c) := by unfold DigP; infer_instance
theorem ret_dec {e : Ending} {p : Prop} [Decidable p] (h : ∃ b, e = .returned (.bool b) ∧ (b = true ↔ p)) : e = .returned (.bool (decide p)) := by
  obtain ⟨b, rfl, hb⟩ := h
  have : b = decide p := by
    by_cases hp : p
    · rw [decide_eq_true hp]; exact hb.2 hp
    · rw [decide_eq_false hp]
      cases b
      · rfl
      · exact absurd (hb.1 rfl) hp
  rw [this]

theorem digit_is (c : Int) (W : World) : Calls Tryd.prog 37 #[.int .i32 c] W fun e w' => e = .returned (.bool (decide (DigP c))) ∧ W = w' := by
  by_cases h1 : 48 ≤ c <;> by_cases h2 : c ≤ 57
  all_goals
    go_enter Tryd.func37, Tryd.ntmps37
    go_wp2
    go_ret
    exact ⟨ret_dec ⟨_, rfl, by unfold DigP; simp <;> omega⟩, rfl⟩

set_option maxHeartbeats 2000000 in
theorem letter_is (c : Int) (W : World) : Calls Tryd.prog 36 #[.int .i32 c] W fun e w' => e = .returned (.bool (decide (LetP c))) ∧ W = w' := by
  have HD := hid (fun h : DigP c => decide_eq_true h)
  have HN := hid (fun h : ¬ DigP c => decide_eq_false h)
  by_cases hd : DigP c
  case' pos => have hdd := HD.out hd
  case' neg => have hdd := HN.out hd
  all_goals
    have HDP := hid hd
    clear hd HD HN
    generalize decide (DigP c) = b at hdd
    subst hdd
    go_enter Tryd.func36, Tryd.ntmps36
    go_wp2_with (go_at_call 37; refine (digit_is _ _).mono ?_; rintro e w' ⟨rfl, rfl⟩)
    all_goals go_ret
    all_goals exact ⟨ret_dec ⟨_, rfl, by have := HDP.out; unfold LetP; unfold DigP at this; simp at * <;> omega⟩, rfl⟩

end Go.Proofs.YtjkaenjegcojhaaDoor
