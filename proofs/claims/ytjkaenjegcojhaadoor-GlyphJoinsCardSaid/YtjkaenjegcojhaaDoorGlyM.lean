/- The runes of bytes: plain. -/
import Derived.Test.YtjkaenjegcojhaaDoorText
import Derived.Laws.RangeAny
namespace Go.Proofs.YtjkaenjegcojhaaDoor
open Go.RowKit
set_option linter.unusedVariables false
set_option linter.unusedSimpArgs false

/-- The byte at a place, 0 behind the end. -/
def nb (l : List UInt8) (k : Nat) : Nat := (l.getD k 0).toNat
theorem nb_lt (l : List UInt8) (k : Nat) : nb l k < 256 := (l.getD k 0).toNat_lt
theorem nb_drop (l : List UInt8) (i k : Nat) : nb (l.drop i) k = nb l (i + k) := by simp [nb, List.getD_eq_getElem?_getD, List.getElem?_drop]
theorem get_nb (l : List UInt8) (k : Nat) : ((str l).get! k).toNat = nb l k := by
  by_cases h : k < l.length
  · have hs : k < (str l).size := by rw [str_size]; exact h
    have : (str l).get! k = l[k] := by
      show (str l).data[k]! = l[k]
      simp [str, h]
      try rfl
    rw [this, nb, List.getD_eq_getElem?_getD, List.getElem?_eq_getElem h]
    rfl
  · have : (str l).get! k = 0 := by
      show (str l).data[k]! = 0
      simp [str, h]
      rfl
    rw [this, nb, List.getD_eq_getElem?_getD, List.getElem?_eq_none (by omega)]
    rfl
/-- The rune with which bytes begin. -/
def dec (l : List UInt8) : Nat × Nat := Utf8.decode (str l) 0
theorem decode_drop (l : List UInt8) (i : Nat) : Utf8.decode (str l) i = dec (l.drop i) := by
  have h1 : (i + 1 < l.length) = (1 < l.length - i) := propext (by omega)
  have h2 : (i + 2 < l.length) = (2 < l.length - i) := propext (by omega)
  have h3 : (i + 3 < l.length) = (3 < l.length - i) := propext (by omega)
  unfold dec Utf8.decode
  simp only [get_nb, nb_drop, Nat.zero_add, Nat.add_zero, str_size, List.length_drop, h1, h2, h3]
/-- How many bytes the rune has with which bytes begin; 0: none begins. -/
def leadN (c : Nat) : Nat := if 194 ≤ c ∧ c < 224 then 2 else if 224 ≤ c ∧ c < 240 then 3 else if 240 ≤ c ∧ c < 245 then 4 else 0
def badD (c d : Nat) : Prop := c = 224 ∧ d < 160 ∨ c = 237 ∧ 159 < d ∨ c = 240 ∧ d < 144 ∨ c = 244 ∧ 143 < d
instance (c d : Nat) : Decidable (badD c d) := by unfold badD; infer_instance
def contN (l : List UInt8) (k : Nat) : Prop := 128 ≤ nb l k ∧ nb l k ≤ 191
instance (l : List UInt8) (k : Nat) : Decidable (contN l k) := by unfold contN; infer_instance
def szN (l : List UInt8) : Nat :=
  if nb l 0 < 128 then 1
  else if l.length < leadN (nb l 0) then 0
  else if ∀ k, k < leadN (nb l 0) → 1 ≤ k → contN l k then (if 2 < leadN (nb l 0) ∧ badD (nb l 0) (nb l 1) then 0 else leadN (nb l 0))
  else 0
def codeN (l : List UInt8) (n : Nat) : Nat :=
  if n = 0 then 65533 else if n = 1 then nb l 0 else if n = 2 then (nb l 0 - 192) * 64 + (nb l 1 - 128) else if n = 3 then (nb l 0 - 224) * 4096 + (nb l 1 - 128) * 64 + (nb l 2 - 128)
  else (nb l 0 - 240) * 262144 + (nb l 1 - 128) * 4096 + (nb l 2 - 128) * 64 + (nb l 3 - 128)
theorem szN_le (l : List UInt8) (h : 0 < l.length) : szN l ≤ l.length ∧ szN l ≤ 4 := by
  unfold szN leadN
  repeat' split
  all_goals omega
theorem codeN_0 (l : List UInt8) : codeN l 0 = 65533 := rfl
theorem codeN_1 (l : List UInt8) : codeN l 1 = nb l 0 := rfl
theorem codeN_2 (l : List UInt8) : codeN l 2 = (nb l 0 - 192) * 64 + (nb l 1 - 128) := rfl
theorem codeN_3 (l : List UInt8) : codeN l 3 = (nb l 0 - 224) * 4096 + (nb l 1 - 128) * 64 + (nb l 2 - 128) := rfl
theorem codeN_4 (l : List UInt8) : codeN l 4 = (nb l 0 - 240) * 262144 + (nb l 1 - 128) * 4096 + (nb l 2 - 128) * 64 + (nb l 3 - 128) := rfl
theorem pair_eq {a b c d : Nat} (h1 : a = b) (h2 : c = d) : (a, c) = (b, d) := by rw [h1, h2]
theorem wrong_eq (l : List UInt8) : ((65533, 1) : Nat × Nat) = (codeN l 0, max 0 1) := rfl
/-- What the model decodes is what the document has. -/
theorem dec_sz (l : List UInt8) (h : 0 < l.length) : dec l = (codeN l (szN l), max (szN l) 1) := by
  have b0 := nb_lt l 0
  have b1 := nb_lt l 1
  have b2 := nb_lt l 2
  have b3 := nb_lt l 3
  unfold dec Utf8.decode
  simp only [get_nb, Nat.zero_add, str_size, Utf8.valid, Utf8.runeError]
  by_cases h1 : nb l 0 < 128
  · have hz : szN l = 1 := by rw [szN, if_pos h1]
    rw [hz, if_pos h1]; rfl
  rw [if_neg h1]
  rcases (by omega : nb l 0 < 194 ∨ (194 ≤ nb l 0 ∧ nb l 0 < 224) ∨ (224 ≤ nb l 0 ∧ nb l 0 < 240) ∨ (240 ≤ nb l 0 ∧ nb l 0 < 245) ∨ 245 ≤ nb l 0) with h2 | h2 | h2 | h2 | h2
  · have hl : leadN (nb l 0) = 0 := by unfold leadN; rw [if_neg (by omega), if_neg (by omega), if_neg (by omega)]
    have hz : szN l = 0 := by rw [szN, if_neg h1, hl, if_neg (by omega), if_pos (fun k hk => by omega), if_neg (by omega)]
    have e1 : (nb l 0 / 16 == 14) = false := by rw [beq_eq_false_iff_ne]; omega
    have e2 : (nb l 0 / 8 == 30) = false := by rw [beq_eq_false_iff_ne]; omega
    rw [hz]
    simp only [e1, e2, Bool.false_and, Bool.false_eq_true, if_false]
    split
    · rename_i h3
      rw [Bool.and_eq_true, Bool.and_eq_true, beq_iff_eq, beq_iff_eq] at h3
      rw [if_neg (by omega)]; rfl
    · rfl
  · have hl : leadN (nb l 0) = 2 := by unfold leadN; rw [if_pos h2]
    have e0 : (nb l 0 / 32 == 6) = true := by rw [beq_iff_eq]; omega
    have e1 : (nb l 0 / 16 == 14) = false := by rw [beq_eq_false_iff_ne]; omega
    have e2 : (nb l 0 / 8 == 30) = false := by rw [beq_eq_false_iff_ne]; omega
    simp only [e0, e1, e2, Bool.false_and, Bool.true_and, Bool.false_eq_true, if_false]
    by_cases h3 : l.length < 2
    · have e3 : decide (1 < l.length) = false := by simp; omega
      have hz : szN l = 0 := by rw [szN, if_neg h1, hl, if_pos h3]
      rw [hz]
      simp only [e3, Bool.false_and, Bool.false_eq_true, if_false]; rfl
    have e3 : decide (1 < l.length) = true := by simp; omega
    by_cases h4 : contN l 1
    · have e4 : (nb l 1 / 64 == 2) = true := by rw [beq_iff_eq]; unfold contN at h4; omega
      have hz : szN l = 2 := by
        rw [szN, if_neg h1, hl, if_neg h3, if_pos (fun k hk hk1 => by
          obtain rfl : k = 1 := by omega
          exact h4), if_neg (by omega)]
      unfold contN at h4
      rw [hz, codeN_2]
      simp only [e3, e4, Bool.and_self, if_true]
      rw [if_pos (by omega)]
      exact pair_eq (by omega) rfl
    · have e4 : (nb l 1 / 64 == 2) = false := by rw [beq_eq_false_iff_ne]; unfold contN at h4; omega
      have hz : szN l = 0 := by rw [szN, if_neg h1, hl, if_neg h3, if_neg (fun hh => h4 (hh 1 (by omega) (by omega)))]
      rw [hz]
      simp only [e4, Bool.and_false, Bool.false_eq_true, if_false]; rfl
  · have hl : leadN (nb l 0) = 3 := by unfold leadN; rw [if_neg (by omega), if_pos h2]
    have e0 : (nb l 0 / 32 == 6) = false := by rw [beq_eq_false_iff_ne]; omega
    have e1 : (nb l 0 / 16 == 14) = true := by rw [beq_iff_eq]; omega
    have e2 : (nb l 0 / 8 == 30) = false := by rw [beq_eq_false_iff_ne]; omega
    simp only [e0, e1, e2, Bool.false_and, Bool.true_and, Bool.false_eq_true, if_false]
    by_cases h3 : l.length < 3
    · have e3 : decide (2 < l.length) = false := by simp; omega
      have hz : szN l = 0 := by rw [szN, if_neg h1, hl, if_pos h3]
      rw [hz]
      simp only [e3, Bool.false_and, Bool.and_false, Bool.false_eq_true, if_false]; rfl
    have e3 : decide (2 < l.length) = true := by simp; omega
    have e3' : decide (1 < l.length) = true := by simp; omega
    by_cases h4 : contN l 1 ∧ contN l 2
    · have hcc : ∀ k, k < 3 → 1 ≤ k → contN l k := fun k hk hk1 => by
        rcases (by omega : k = 1 ∨ k = 2) with rfl | rfl
        · exact h4.1
        · exact h4.2
      have h41 := h4.1
      have h42 := h4.2
      unfold contN at h41 h42
      have e4 : (nb l 1 / 64 == 2) = true := by rw [beq_iff_eq]; omega
      have e5 : (nb l 2 / 64 == 2) = true := by rw [beq_iff_eq]; omega
      simp only [e3, e3', e4, e5, Bool.and_self, if_true]
      by_cases h5 : badD (nb l 0) (nb l 1)
      · have hz : szN l = 0 := by rw [szN, if_neg h1, hl, if_neg h3, if_pos hcc, if_pos ⟨by omega, h5⟩]
        unfold badD at h5
        rw [hz, if_neg]
        · rfl
        · simp only [Bool.and_eq_true, Bool.or_eq_true, decide_eq_true_eq]
          omega
      · have hz : szN l = 3 := by rw [szN, if_neg h1, hl, if_neg h3, if_pos hcc, if_neg (fun hh => h5 hh.2)]
        unfold badD at h5
        rw [hz, codeN_3, if_pos]
        · exact pair_eq (by omega) rfl
        · simp only [Bool.and_eq_true, Bool.or_eq_true, decide_eq_true_eq]
          omega
    · have hz : szN l = 0 := by rw [szN, if_neg h1, hl, if_neg h3, if_neg (fun hh => h4 ⟨hh 1 (by omega) (by omega), hh 2 (by omega) (by omega)⟩)]
      have e4 : ((nb l 1 / 64 == 2) && (nb l 2 / 64 == 2)) = false := by
        rw [Bool.and_eq_false_iff, beq_eq_false_iff_ne, beq_eq_false_iff_ne]
        unfold contN at h4
        omega
      rw [hz]
      simp only [e3, e3', Bool.true_and, e4, Bool.false_eq_true, if_false]; rfl
  · have hl : leadN (nb l 0) = 4 := by unfold leadN; rw [if_neg (by omega), if_neg (by omega), if_pos h2]
    have e0 : (nb l 0 / 32 == 6) = false := by rw [beq_eq_false_iff_ne]; omega
    have e1 : (nb l 0 / 16 == 14) = false := by rw [beq_eq_false_iff_ne]; omega
    have e2 : (nb l 0 / 8 == 30) = true := by rw [beq_iff_eq]; omega
    simp only [e0, e1, e2, Bool.false_and, Bool.true_and, Bool.false_eq_true, if_false]
    by_cases h3 : l.length < 4
    · have e3 : decide (3 < l.length) = false := by simp; omega
      have hz : szN l = 0 := by rw [szN, if_neg h1, hl, if_pos h3]
      rw [hz]
      simp only [e3, Bool.false_and, Bool.and_false, Bool.false_eq_true, if_false]; rfl
    have e3 : decide (3 < l.length) = true := by simp; omega
    have e3' : decide (2 < l.length) = true := by simp; omega
    have e3'' : decide (1 < l.length) = true := by simp; omega
    by_cases h4 : contN l 1 ∧ contN l 2 ∧ contN l 3
    · have hcc : ∀ k, k < 4 → 1 ≤ k → contN l k := fun k hk hk1 => by
        rcases (by omega : k = 1 ∨ k = 2 ∨ k = 3) with rfl | rfl | rfl
        · exact h4.1
        · exact h4.2.1
        · exact h4.2.2
      have h41 := h4.1
      have h42 := h4.2.1
      have h43 := h4.2.2
      unfold contN at h41 h42 h43
      have e4 : (nb l 1 / 64 == 2) = true := by rw [beq_iff_eq]; omega
      have e5 : (nb l 2 / 64 == 2) = true := by rw [beq_iff_eq]; omega
      have e6 : (nb l 3 / 64 == 2) = true := by rw [beq_iff_eq]; omega
      simp only [e3, e3', e3'', e4, e5, e6, Bool.and_self, if_true]
      by_cases h5 : badD (nb l 0) (nb l 1)
      · have hz : szN l = 0 := by rw [szN, if_neg h1, hl, if_neg h3, if_pos hcc, if_pos ⟨by omega, h5⟩]
        unfold badD at h5
        rw [hz, if_neg]
        · rfl
        · simp only [Bool.and_eq_true, Bool.or_eq_true, decide_eq_true_eq]
          omega
      · have hz : szN l = 4 := by rw [szN, if_neg h1, hl, if_neg h3, if_pos hcc, if_neg (fun hh => h5 hh.2)]
        unfold badD at h5
        rw [hz, codeN_4, if_pos]
        · exact pair_eq (by omega) rfl
        · simp only [Bool.and_eq_true, Bool.or_eq_true, decide_eq_true_eq]
          omega
    · have hz : szN l = 0 := by rw [szN, if_neg h1, hl, if_neg h3, if_neg (fun hh => h4 ⟨hh 1 (by omega) (by omega), hh 2 (by omega) (by omega), hh 3 (by omega) (by omega)⟩)]
      have e4 : ((nb l 1 / 64 == 2) && (nb l 2 / 64 == 2) && (nb l 3 / 64 == 2)) = false := by
        rw [Bool.and_eq_false_iff, Bool.and_eq_false_iff, beq_eq_false_iff_ne, beq_eq_false_iff_ne, beq_eq_false_iff_ne]
        unfold contN at h4
        omega
      rw [hz]
      simp only [e3, e3', e3'', Bool.true_and, e4, Bool.false_eq_true, if_false]; rfl
  · have hl : leadN (nb l 0) = 0 := by unfold leadN; rw [if_neg (by omega), if_neg (by omega), if_neg (by omega)]
    have hz : szN l = 0 := by rw [szN, if_neg h1, hl, if_neg (by omega), if_pos (fun k hk => by omega), if_neg (by omega)]
    have e0 : (nb l 0 / 32 == 6) = false := by rw [beq_eq_false_iff_ne]; omega
    have e1 : (nb l 0 / 16 == 14) = false := by rw [beq_eq_false_iff_ne]; omega
    rw [hz]
    simp only [e0, e1, Bool.false_and, Bool.false_eq_true, if_false]
    split
    · rename_i h3
      rw [Bool.and_eq_true, Bool.and_eq_true, Bool.and_eq_true, beq_iff_eq] at h3
      rw [if_neg]
      · rfl
      · simp only [Bool.and_eq_true, Bool.or_eq_true, decide_eq_true_eq]
        omega
    · rfl
end Go.Proofs.YtjkaenjegcojhaaDoor
