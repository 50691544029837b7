/- What was put is read, and what is read was put. -/
import Derived.Test.YtkepfkfoblocgaaOctD
namespace Go.Proofs.Ytkepfkfoblocgaa
open Go.RowKit
set_option linter.unusedVariables false
set_option linter.unusedSimpArgs false

theorem wd_le7 {n : Nat} (h : n ≤ 72057594037927935) : wd n ≤ 7 := wd_max h
/-- What was put is read. -/
theorem firstN_numB (n : Nat) (h : n ≤ 72057594037927935) (most : Int) (hm : (n : Int) ≤ most) (rest : List UInt8) : firstN most (numB n ++ rest) = (n, (numB n).length, 0) := by
  have chk : ∀ u, chkN most n u = (n, u, 0) := fun u => by rw [chkN, if_neg (by omega)]
  unfold numB
  by_cases h8 : n < 248
  · rw [if_pos h8, List.cons_append, List.nil_append, firstN_cons]
    have e : (UInt8.ofNat n).toNat = n := by rw [UInt8.toNat_ofNat']; omega
    rw [e, if_neg (by omega), if_pos h8, chk]
    rfl
  · rw [if_neg h8, List.cons_append, firstN_cons]
    have hk := wd_le7 h
    have hp := wd_pos (n := n) (by omega)
    have e : (UInt8.ofNat (247 + wd n)).toNat = 247 + wd n := by rw [UInt8.toNat_ofNat']; omega
    have hb := beB_length (wd n) n
    rw [e, if_neg (by omega), if_neg (by omega), show 247 + wd n - 247 = wd n by omega, if_neg (by simp [hb])]
    have ht : (beB (wd n) n ++ rest).take (wd n) = beB (wd n) n := by rw [List.take_append_of_le_length (by omega), List.take_of_length_le (by omega)]
    have hj : joinN 0 (beB (wd n) n) = n := by rw [joinN_beB _ _ _ (wd_lt n)]; omega
    rw [ht, hj, if_neg (by simp [h8]), chk, List.length_cons, hb]
    congr 2
    omega
/-- What is read was put with just those bytes. -/
theorem numB_firstN (most : Int) (l : List UInt8) (h : (firstN most l).2.2 = 0) : numB (firstN most l).1 = l.take (firstN most l).2.1 := by
  cases l with
  | nil => simp [firstN] at h
  | cons c r =>
    have hc := c.toNat_lt
    have chk : ∀ n u, (chkN most n u).2.2 = 0 → chkN most n u = (n, u, 0) := by
      intro n u h
      unfold chkN at *
      by_cases hm : max most 0 < (n : Int)
      · rw [if_pos hm] at h; simp at h
      · rw [if_neg hm]
    rw [firstN_cons] at h ⊢
    by_cases h1 : c.toNat = 255
    · rw [if_pos h1] at h; simp at h
    rw [if_neg h1] at h ⊢
    by_cases h2 : c.toNat < 248
    · rw [if_pos h2] at h ⊢
      rw [chk _ _ h]
      simp [numB, h2]
    rw [if_neg h2] at h ⊢
    by_cases h3 : r.length < c.toNat - 247
    · rw [if_pos h3] at h; simp at h
    rw [if_neg h3] at h ⊢
    by_cases h4 : joinN 0 (r.take (c.toNat - 247)) < 248 ∨ wd (joinN 0 (r.take (c.toNat - 247))) ≠ c.toNat - 247
    · rw [if_pos h4] at h; simp at h
    rw [if_neg h4] at h ⊢
    rw [chk _ _ h]
    have h5 : ¬ joinN 0 (r.take (c.toNat - 247)) < 248 := fun h => h4 (.inl h)
    have h6 : wd (joinN 0 (r.take (c.toNat - 247))) = c.toNat - 247 := Classical.byContradiction fun h => h4 (.inr h)
    simp only
    rw [numB, if_neg h5, h6, beB_joinN _ _ _ (by simp; omega), show 247 + (c.toNat - 247) = c.toNat by omega, show 1 + (c.toNat - 247) = (c.toNat - 247) + 1 by omega, List.take_succ_cons]
    simp
theorem rdNum_numB (n : Nat) (h : n ≤ 72057594037927935) (rest : List UInt8) : rdNum n (numB n ++ rest) 0 = (n, rest, 0) := by
  rw [rdNum, if_pos rfl, firstN_numB n h n (by omega) rest, if_pos rfl]
  simp
theorem rdText_text (s : List UInt8) (h : s.length ≤ 72057594037927935) (rest : List UInt8) : rdText s.length (numB s.length ++ s ++ rest) 0 = (s, rest, 0) := by
  rw [List.append_assoc, rdText, if_pos rfl, firstN_numB _ h _ (by omega) _, if_pos rfl, if_neg (by simp)]
  simp
end Go.Proofs.Ytkepfkfoblocgaa
