/- Sets: plain facts on their elements. -/
import Derived.Test.YtadjmgmdnekllaaFlockL
import Derived.Test.YtadjmgmdnekllaaPopC
namespace Go.Proofs.Ytadjmgmdnekllaa
open Go.RowKit
set_option linter.unusedVariables false
set_option linter.unusedSimpArgs false

theorem elemsU_below (s k : Nat) : ∀ n, k ≤ n → elemsU (s &&& (2 ^ k - 1)) n = elemsU s k := by
  intro n h
  obtain ⟨d, rfl⟩ : ∃ d, n = k + d := ⟨n - k, by omega⟩
  clear h
  induction d with
  | zero =>
    rw [Nat.and_two_pow_sub_one_eq_mod]
    exact (elemsU_mod s k k (Nat.le_refl _)).symm
  | succ d ih =>
    rw [← Nat.add_assoc, elemsU, ih, Nat.testBit_and, Nat.testBit_two_pow_sub_one]
    simp
theorem count_below (s k : Nat) (hk : k < 64) : (elems (s &&& belowS k)).length = (elemsU s k).length := by
  have hb : belowS (k : Int) = 2 ^ k - 1 := by
    unfold belowS
    by_cases h : k = 0
    · subst h; rfl
    · rw [if_neg (by omega), if_neg (by omega)]; simp
  rw [elems_def, hb, elemsU_below s k 64 (by omega)]
/-- The element that has n below it. -/
theorem nth_below (s k : Nat) (hk : k < 64) : (nthS s ((elemsU s k).length : Nat) == (k : Int)) = hasS s k := by
  have h64 := elemsU_pre s (k + 1) 64 (by omega)
  rw [← elems_def] at h64
  obtain ⟨t, ht⟩ := h64
  unfold nthS
  rw [if_neg (by omega), Int.toNat_natCast, hasS_nat s k hk]
  by_cases hb : s.testBit k = true
  · rw [hb, ← ht, elemsU_yes hb, List.getD_eq_getElem?_getD, List.append_assoc, List.getElem?_append_right (Nat.le_refl _)]
    simp
  · have hb' : s.testBit k = false := by simpa using hb
    rw [hb', beq_eq_false_iff_ne]
    intro h
    have hm : (k : Int) ∈ elems s := by
      rw [List.getD_eq_getElem?_getD] at h
      rcases hx : (elems s)[(elemsU s k).length]? with _ | x
      · rw [hx] at h; simp at h
      · rw [hx] at h
        simp at h
        rw [← h]
        exact List.mem_of_getElem? hx
    have := (mem_elems s k).1 hm
    simp [hb'] at this
theorem withS_bit (s : Nat) (k i : Nat) (hk : k < 64) : (withS s k).testBit i = (s.testBit i || decide (i = k)) := by
  rw [withS, Nat.testBit_or, bitN_bit, Bool.eq_iff_iff]
  simp
  constructor
  · rintro (h | h)
    · exact .inl h
    · exact .inr (by omega)
  · rintro (h | h)
    · exact .inl h
    · exact .inr (by omega)
theorem lessS_bit (s : Nat) (k i : Nat) (hs : s < 18446744073709551616) : (lessS s k).testBit i = (s.testBit i && !decide (i = k)) := by
  have e : 18446744073709551615 - bitN k = 2 ^ 64 - (bitN k + 1) := by simp only [Nat.reducePow]; omega
  rw [lessS, Nat.testBit_and, e, Nat.testBit_two_pow_sub_succ (by simpa using bitN_lt k), bitN_bit]
  by_cases h : i < 64
  · simp only [h, decide_true, Bool.true_and]
    congr 2
    rw [decide_eq_decide]
    omega
  · rw [bit_high hs (by omega)]; simp
theorem cnt_more (s k : Nat) (hk : k < 64) (hs : s < 18446744073709551616) : ∀ n, (elemsU (withS s k) n).length = (elemsU (lessS s k) n).length + if k < n then 1 else 0
  | 0 => by simp [elemsU]
  | n + 1 => by
    rw [elemsU, elemsU, List.length_append, List.length_append, cnt_more s k hk hs n, withS_bit s k n hk, lessS_bit s k n hs]
    by_cases h : n = k
    · subst h
      simp
    · have h1 : (n = k) = False := by simp [h]
      by_cases h2 : k < n
      · simp [h1, h2, show k < n + 1 by omega]; omega
      · simp [h1, h2, show ¬ k < n + 1 by omega]
theorem cnt_one (s k : Nat) (hk : k < 64) (hs : s < 18446744073709551616) : (elems (withS s k)).length = (elems (lessS s k)).length + 1 := by
  rw [elems_def, elems_def, cnt_more s k hk hs 64, if_pos hk]

end Go.Proofs.Ytadjmgmdnekllaa
