/- Sets of the numbers from 0 to 63, as natural numbers: the plain facts. -/
import Derived.Test.YtdphdodjidbngaaBase
namespace Go.Proofs.Ytdphdodjidbngaa

def bitN (k : Int) : Nat := if 0 ≤ k ∧ k < 64 then 2 ^ k.toNat else 0
def ofU (l : List Int) : Nat → Nat
  | 0 => 0
  | n + 1 => ofU l n + if (n : Int) ∈ l then 2 ^ n else 0
def ofL (l : List Int) : Nat := ofU l 64
def elemsU (s : Nat) : Nat → List Int
  | 0 => []
  | n + 1 => elemsU s n ++ if s.testBit n then [(n : Int)] else []
def elems (s : Nat) : List Int := elemsU s 64
def hasS (s : Nat) (k : Int) : Bool := decide (0 ≤ k ∧ k < 64) && s.testBit k.toNat
def withS (s : Nat) (k : Int) : Nat := s ||| bitN k
def lessS (s : Nat) (k : Int) : Nat := s &&& (18446744073709551615 - bitN k)
def belowS (k : Int) : Nat := if k ≤ 0 then 0 else if 64 ≤ k then 18446744073709551615 else 2 ^ k.toNat - 1

theorem two_pow_lt64 {k : Nat} (h : k < 64) : 2 ^ k < 18446744073709551616 := by
  have : 2 ^ k < 2 ^ 64 := Nat.pow_lt_pow_right (by omega) h
  simpa using this
theorem bitN_lt (k : Int) : bitN k < 18446744073709551616 := by
  unfold bitN; split
  · exact two_pow_lt64 (by omega)
  · omega
theorem ofU_lt (l : List Int) : ∀ n, ofU l n < 2 ^ n
  | 0 => by simp [ofU]
  | n + 1 => by
    have := ofU_lt l n
    unfold ofU
    rw [Nat.pow_succ]
    split <;> omega
theorem ofU_bit (l : List Int) : ∀ n i, (ofU l n).testBit i = (decide (i < n) && decide ((i : Int) ∈ l))
  | 0, i => by simp [ofU]
  | n + 1, i => by
    have hl := ofU_lt l n
    have ih := ofU_bit l n i
    unfold ofU
    by_cases hm : (n : Int) ∈ l
    · rw [if_pos hm, Nat.add_comm, show 2 ^ n = 2 ^ n * 1 by omega, Nat.testBit_two_pow_mul_add 1 hl i]
      by_cases h : i < n
      · rw [if_pos h, ih]; simp [h, show i < n + 1 by omega]
      · rw [if_neg h]
        rcases Nat.lt_or_ge n i with h2 | h2
        · have h1 : Nat.testBit 1 (i - n) = false := by
            rw [show (1 : Nat) = 2 ^ 0 from rfl, Nat.testBit_two_pow]
            exact decide_eq_false (by omega)
          rw [h1]
          simp [show ¬ i < n + 1 by omega]
        · have : i = n := by omega
          subst this
          simp [hm]
    · rw [if_neg hm, Nat.add_zero, ih]
      by_cases h : i < n
      · simp [h, show i < n + 1 by omega]
      · by_cases h2 : i = n
        · subst h2; simp [hm]
        · simp [h, show ¬ i < n + 1 by omega]
theorem ofL_lt (l : List Int) : ofL l < 18446744073709551616 := by have := ofU_lt l 64; simpa [ofL] using this
theorem ofL_bit (l : List Int) (i : Nat) : (ofL l).testBit i = (decide (i < 64) && decide ((i : Int) ∈ l)) := ofU_bit l 64 i
theorem bitN_bit (k : Int) (i : Nat) : (bitN k).testBit i = (decide (i < 64) && decide ((i : Int) = k)) := by
  unfold bitN
  split
  · rw [Nat.testBit_two_pow]
    by_cases h : k.toNat = i
    · simp [h]; omega
    · simp [h]; omega
  · rw [Nat.zero_testBit]
    symm
    simp
    omega
theorem mem_elemsU (s : Nat) (k : Int) : ∀ n, k ∈ elemsU s n ↔ (0 ≤ k ∧ k < n ∧ s.testBit k.toNat = true)
  | 0 => by simp [elemsU]; omega
  | n + 1 => by
    unfold elemsU
    rw [List.mem_append, mem_elemsU s k n]
    by_cases h : s.testBit n = true
    · rw [if_pos h, List.mem_singleton]
      constructor
      · rintro (⟨h1, h2, h3⟩ | rfl)
        · exact ⟨h1, by omega, h3⟩
        · exact ⟨by omega, by omega, by simpa using h⟩
      · rintro ⟨h1, h2, h3⟩
        by_cases h4 : k = n
        · exact .inr h4
        · exact .inl ⟨h1, by omega, h3⟩
    · rw [if_neg h]
      constructor
      · rintro (⟨h1, h2, h3⟩ | h5)
        · exact ⟨h1, by omega, h3⟩
        · simp at h5
      · rintro ⟨h1, h2, h3⟩
        refine .inl ⟨h1, ?_, h3⟩
        rcases Nat.lt_or_ge k.toNat n with h4 | h4
        · omega
        · have : k.toNat = n := by omega
          rw [this] at h3
          exact absurd h3 h
theorem mem_elems (s : Nat) (k : Int) : k ∈ elems s ↔ (0 ≤ k ∧ k < 64 ∧ s.testBit k.toNat = true) := by
  have := mem_elemsU s k 64
  simpa [elems] using this
theorem bit_high {s i : Nat} (hs : s < 18446744073709551616) (h : 64 ≤ i) : s.testBit i = false :=
  Nat.testBit_lt_two_pow (Nat.lt_of_lt_of_le hs (by have : 2 ^ 64 ≤ 2 ^ i := Nat.pow_le_pow_right (by omega) h
                                                    simpa using this))
theorem with_eq (s : Nat) (k : Int) (hs : s < 18446744073709551616) : ofL (elems s ++ [k]) = withS s k := by
  apply Nat.eq_of_testBit_eq
  intro i
  rw [ofL_bit, withS, Nat.testBit_or, bitN_bit]
  by_cases h : i < 64
  · rw [Bool.eq_iff_iff]
    simp [h, mem_elems, show (i : Int) < 64 by omega]
  · rw [bit_high hs (by omega)]; simp [h]
theorem less_eq (s : Nat) (k : Int) (hs : s < 18446744073709551616) : ofL ((elems s).filter (· != k)) = lessS s k := by
  apply Nat.eq_of_testBit_eq
  intro i
  have e : 18446744073709551615 - bitN k = 2 ^ 64 - (bitN k + 1) := by simp only [Nat.reducePow]; omega
  rw [ofL_bit, lessS, Nat.testBit_and, e, Nat.testBit_two_pow_sub_succ (by simpa using bitN_lt k), bitN_bit]
  by_cases h : i < 64
  · rw [Bool.eq_iff_iff]
    simp [h, mem_elems, show (i : Int) < 64 by omega]
  · rw [bit_high hs (by omega)]; simp [h]
def upto (k : Int) : Nat → List Int
  | 0 => []
  | n + 1 => upto k n ++ if (n : Int) < k then [(n : Int)] else []
theorem mem_upto (k x : Int) : ∀ n, x ∈ upto k n ↔ (0 ≤ x ∧ x < n ∧ x < k)
  | 0 => by simp [upto]; omega
  | n + 1 => by
    unfold upto
    rw [List.mem_append, mem_upto k x n]
    by_cases h : (n : Int) < k
    · rw [if_pos h, List.mem_singleton]; omega
    · rw [if_neg h]; simp; omega
theorem below_eq (k : Int) : ofL (upto k 64) = belowS k := by
  apply Nat.eq_of_testBit_eq
  intro i
  rw [ofL_bit, belowS]
  split
  · rw [Nat.zero_testBit]; simp [mem_upto]; omega
  · split
    · rw [show 18446744073709551615 = 2 ^ 64 - 1 from rfl, Nat.testBit_two_pow_sub_one, Bool.eq_iff_iff]; simp [mem_upto]; omega
    · rw [Nat.testBit_two_pow_sub_one, Bool.eq_iff_iff]; simp [mem_upto]; omega
theorem belowS_lt (k : Int) : belowS k < 18446744073709551616 := by rw [← below_eq]; exact ofL_lt _
theorem withS_lt (s : Nat) (k : Int) (hs : s < 18446744073709551616) : withS s k < 18446744073709551616 := by rw [← with_eq s k hs]; exact ofL_lt _
theorem lessS_lt (s : Nat) (k : Int) (hs : s < 18446744073709551616) : lessS s k < 18446744073709551616 := by rw [← less_eq s k hs]; exact ofL_lt _
/-- The set that a loop over the list makes. -/
def foldS (l : List Int) : Nat → Nat
  | 0 => 0
  | n + 1 => withS (foldS l n) (l.getD n 0)
theorem foldS_eq (l : List Int) : ∀ n, n ≤ l.length → foldS l n = ofL (l.take n)
  | 0, _ => by
    apply Nat.eq_of_testBit_eq; intro i; rw [ofL_bit]; simp [foldS]
  | n + 1, h => by
    unfold foldS
    rw [foldS_eq l n (by omega)]
    apply Nat.eq_of_testBit_eq
    intro i
    rw [withS, Nat.testBit_or, ofL_bit, ofL_bit, bitN_bit, List.take_succ_eq_append_getElem (by omega), Bool.eq_iff_iff]
    simp [-List.take_append_getElem, List.getD_eq_getElem?_getD, List.getElem?_eq_getElem (show n < l.length by omega)]
    constructor
    · rintro (⟨h1, h2⟩ | ⟨h1, h2⟩)
      · exact ⟨h1, .inl h2⟩
      · exact ⟨h1, .inr h2⟩
    · rintro ⟨h1, h2 | h2⟩
      · exact .inl ⟨h1, h2⟩
      · exact .inr ⟨h1, h2⟩
theorem has_eq (s : Nat) (k : Int) : (s &&& bitN k != 0) = hasS s k := by
  unfold hasS bitN
  by_cases h : 0 ≤ k ∧ k < 64
  · rw [if_pos h, nat_bit, Nat.testBit_eq_decide_div_mod_eq]
    have := Nat.two_pow_pos k.toNat
    rcases Nat.mod_two_eq_zero_or_one (s / 2 ^ k.toNat) with h2 | h2
    · rw [h2]; simp
    · rw [h2]; simp [h]
  · rw [if_neg h]; simp [h]
theorem elems_def (s : Nat) : elems s = elemsU s 64 := rfl
attribute [irreducible] elems
end Go.Proofs.Ytdphdodjidbngaa

