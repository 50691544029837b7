/- All frames of bytes: plain. -/
import Derived.Test.YtkepfkfoblocgaaFrmD
namespace Go.Proofs.Ytkepfkfoblocgaa
open Go.RowKit
set_option linter.unusedVariables false

/-- The frames that bytes begin with. -/
def allF : Nat → List UInt8 → List (List UInt8) × Nat
  | 0, _ => ([], 0)
  | f + 1, l => if (cutS l).2.2 = 0 then ((cutS l).1 :: (allF f (l.drop (cutS l).2.1)).1, (cutS l).2.1 + (allF f (l.drop (cutS l).2.1)).2) else ([], 0)
def allS (l : List UInt8) : List (List UInt8) × Nat := allF (l.length + 1) l
theorem cutS_used (l : List UInt8) (h : (cutS l).2.2 = 0) : 5 ≤ (cutS l).2.1 ∧ (cutS l).2.1 ≤ l.length ∧ (cutS l).1.length ≤ 4096 := by
  unfold cutS at h ⊢
  have hF := firstN_used 4096 (l.take 8)
  generalize firstN 4096 (l.take 8) = f at h hF ⊢
  obtain ⟨n, u, x⟩ := f
  simp only at h hF ⊢
  by_cases h1 : x = 0
  · obtain ⟨u1, u2, n1, n2⟩ := hF h1
    rw [if_pos h1] at h ⊢
    by_cases h2 : l.length < u + n + 4
    · rw [if_pos h2] at h; simp at h
    rw [if_neg h2] at h ⊢
    by_cases h3 : (l.take (u + n + 4)).drop (u + n) = fourL (moreN 0 (l.take (u + n)))
    · rw [if_pos h3]
      simp only [List.length_drop, List.length_take]
      omega
    · rw [if_neg h3] at h; simp at h
  · rw [if_neg h1] at h
    exact absurd h h1
theorem allF_fuel : ∀ f g l, l.length < f → l.length < g → allF f l = allF g l
  | f + 1, g + 1, l, h1, h2 => by
    unfold allF
    by_cases h : (cutS l).2.2 = 0
    · have := cutS_used l h
      rw [if_pos h, if_pos h, allF_fuel f g _ (by rw [List.length_drop]; omega) (by rw [List.length_drop]; omega)]
    · rw [if_neg h, if_neg h]
  | 0, _, _, h1, _ => absurd h1 (by omega)
  | _ + 1, 0, _, _, h2 => absurd h2 (by omega)
theorem allS_step (l : List UInt8) (h : (cutS l).2.2 = 0) : allS l = ((cutS l).1 :: (allS (l.drop (cutS l).2.1)).1, (cutS l).2.1 + (allS (l.drop (cutS l).2.1)).2) := by
  have := cutS_used l h
  rw [allS, allF, if_pos h, allS, allF_fuel l.length ((l.drop (cutS l).2.1).length + 1) _ (by rw [List.length_drop]; omega) (by omega)]
theorem allS_stop (l : List UInt8) (h : (cutS l).2.2 ≠ 0) : allS l = ([], 0) := by rw [allS, allF, if_neg h]
theorem cutS_nil : (cutS []).2.2 ≠ 0 := by decide
theorem allS_nil : allS [] = ([], 0) := allS_stop [] cutS_nil
attribute [irreducible] allS
theorem allS_le : ∀ n l, l.length ≤ n → (allS l).2 ≤ l.length ∧ (allS l).1.length ≤ (allS l).2
  | n, l, hn => by
    by_cases h : (cutS l).2.2 = 0
    · have := cutS_used l h
      cases n with
      | zero => omega
      | succ n =>
        have ih := allS_le n (l.drop (cutS l).2.1) (by rw [List.length_drop]; omega)
        rw [allS_step l h]
        simp only [List.length_cons, List.length_drop] at *
        omega
    · rw [allS_stop l h]; simp
/-- What a walk of All holds at a loop's head. -/
def AllAt (l : List UInt8) (acc : List (List UInt8)) (g : Nat) : Prop := acc ++ (allS (l.drop g)).1 = (allS l).1 ∧ g + (allS (l.drop g)).2 = (allS l).2 ∧ g ≤ l.length ∧ acc.length ≤ g
theorem AllAt.start (l : List UInt8) : AllAt l [] 0 := ⟨by simp, by simp, Nat.zero_le _, Nat.zero_le _⟩
theorem AllAt.next {l : List UInt8} {acc : List (List UInt8)} {g : Nat} (h : AllAt l acc g) (h2 : (cutS (l.drop g)).2.2 = 0) : AllAt l (acc ++ [(cutS (l.drop g)).1]) (g + (cutS (l.drop g)).2.1) := by
  obtain ⟨h3, h4, h5, h6⟩ := h
  have hu := cutS_used _ h2
  rw [allS_step _ h2] at h3 h4
  simp only [List.drop_drop, List.length_drop] at h3 h4 hu
  refine ⟨by rw [← h3]; simp, by omega, by omega, by simp; omega⟩
theorem AllAt.stop {l : List UInt8} {acc : List (List UInt8)} {g : Nat} (h : AllAt l acc g) (h2 : (cutS (l.drop g)).2.2 ≠ 0) : allS l = (acc, g) := by
  obtain ⟨h3, h4, _, _⟩ := h
  rw [allS_stop _ h2] at h3 h4
  simp only [List.append_nil, Nat.add_zero] at h3 h4
  rw [h3, h4]
end Go.Proofs.Ytkepfkfoblocgaa
