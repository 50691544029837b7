/- The runes of bytes: plain. -/
import Derived.Test.YtdphdodjidbngaaGaP
import Derived.Laws.RangeAny
import Derived.Test.YtdphdodjidbngaaChecked
import Derived.Deep.Cut
import Derived.Outline
import Derived.Laws.Cover1
import Derived.Laws.Strings
import Derived.Deep.QuietTactic
import Derived.BigQuiet
import Derived.Laws.Slices
namespace Go.Proofs.Ytdphdodjidbngaa
open Go.RowKit
set_option linter.unusedVariables false
set_option linter.unusedSimpArgs false

/-- The byte at a place, 0 behind the end. -/
def nb (l : List UInt8) (k : Nat) : Nat := (l.getD k 0).toNat
theorem nb_lt (l : List UInt8) (k : Nat) : nb l k < 256 := (l.getD k 0).toNat_lt
theorem nb_drop (l : List UInt8) (i k : Nat) : nb (l.drop i) k = nb l (i + k) := by simp [nb, List.getD_eq_getElem?_getD, List.getElem?_drop]
theorem get_nb (l : List UInt8) (k : Nat) : ((str l).get! k).toNat = nb l k := by
  by_cases h : k < l.length
  · have hs : k < (str l).size := by rw [str_size]; exact h
    have : (str l).get! k = l[k] := by
      show (str l).data[k]! = l[k]
      simp [str, h]
      try rfl
    rw [this, nb, List.getD_eq_getElem?_getD, List.getElem?_eq_getElem h]
    rfl
  · have : (str l).get! k = 0 := by
      show (str l).data[k]! = 0
      simp [str, h]
      rfl
    rw [this, nb, List.getD_eq_getElem?_getD, List.getElem?_eq_none (by omega)]
    rfl
/-- The rune with which bytes begin. -/
def dec (l : List UInt8) : Nat × Nat := Utf8.decode (str l) 0
theorem decode_drop (l : List UInt8) (i : Nat) : Utf8.decode (str l) i = dec (l.drop i) := by
  have h1 : (i + 1 < l.length) = (1 < l.length - i) := propext (by omega)
  have h2 : (i + 2 < l.length) = (2 < l.length - i) := propext (by omega)
  have h3 : (i + 3 < l.length) = (3 < l.length - i) := propext (by omega)
  unfold dec Utf8.decode
  simp only [get_nb, nb_drop, Nat.zero_add, Nat.add_zero, str_size, List.length_drop, h1, h2, h3]
/-- How many bytes the rune has with which bytes begin; 0: none begins. -/
def leadN (c : Nat) : Nat := if 194 ≤ c ∧ c < 224 then 2 else if 224 ≤ c ∧ c < 240 then 3 else if 240 ≤ c ∧ c < 245 then 4 else 0
def badD (c d : Nat) : Prop := c = 224 ∧ d < 160 ∨ c = 237 ∧ 159 < d ∨ c = 240 ∧ d < 144 ∨ c = 244 ∧ 143 < d
instance (c d : Nat) : Decidable (badD c d) := by unfold badD; infer_instance
def contN (l : List UInt8) (k : Nat) : Prop := 128 ≤ nb l k ∧ nb l k ≤ 191
instance (l : List UInt8) (k : Nat) : Decidable (contN l k) := by unfold contN; infer_instance
def szN (l : List UInt8) : Nat :=
  if nb l 0 < 128 then 1
  else if l.length < leadN (nb l 0) then 0
  else if ∀ k, k < leadN (nb l 0) → 1 ≤ k → contN l k then (if 2 < leadN (nb l 0) ∧ badD (nb l 0) (nb l 1) then 0 else leadN (nb l 0))
  else 0
def codeN (l : List UInt8) (n : Nat) : Nat :=
  if n = 0 then 65533 else if n = 1 then nb l 0 else if n = 2 then (nb l 0 - 192) * 64 + (nb l 1 - 128) else if n = 3 then (nb l 0 - 224) * 4096 + (nb l 1 - 128) * 64 + (nb l 2 - 128)
  else (nb l 0 - 240) * 262144 + (nb l 1 - 128) * 4096 + (nb l 2 - 128) * 64 + (nb l 3 - 128)
theorem szN_le (l : List UInt8) (h : 0 < l.length) : szN l ≤ l.length ∧ szN l ≤ 4 := by
  unfold szN leadN
  repeat' split
  all_goals omega
theorem codeN_0 (l : List UInt8) : codeN l 0 = 65533 := rfl
theorem codeN_1 (l : List UInt8) : codeN l 1 = nb l 0 := rfl
theorem codeN_2 (l : List UInt8) : codeN l 2 = (nb l 0 - 192) * 64 + (nb l 1 - 128) := rfl
theorem codeN_3 (l : List UInt8) : codeN l 3 = (nb l 0 - 224) * 4096 + (nb l 1 - 128) * 64 + (nb l 2 - 128) := rfl
theorem codeN_4 (l : List UInt8) : codeN l 4 = (nb l 0 - 240) * 262144 + (nb l 1 - 128) * 4096 + (nb l 2 - 128) * 64 + (nb l 3 - 128) := rfl
theorem pair_eq {a b c d : Nat} (h1 : a = b) (h2 : c = d) : (a, c) = (b, d) := by rw [h1, h2]
theorem wrong_eq (l : List UInt8) : ((65533, 1) : Nat × Nat) = (codeN l 0, max 0 1) := rfl
/-- What the model decodes is what the document has. -/
theorem dec_sz (l : List UInt8) (h : 0 < l.length) : dec l = (codeN l (szN l), max (szN l) 1) := by
  have b0 := nb_lt l 0
  have b1 := nb_lt l 1
  have b2 := nb_lt l 2
  have b3 := nb_lt l 3
  unfold dec Utf8.decode
  simp only [get_nb, Nat.zero_add, str_size, Utf8.valid, Utf8.runeError]
  by_cases h1 : nb l 0 < 128
  · have hz : szN l = 1 := by rw [szN, if_pos h1]
    rw [hz, if_pos h1]; rfl
  rw [if_neg h1]
  rcases (by omega : nb l 0 < 194 ∨ (194 ≤ nb l 0 ∧ nb l 0 < 224) ∨ (224 ≤ nb l 0 ∧ nb l 0 < 240) ∨ (240 ≤ nb l 0 ∧ nb l 0 < 245) ∨ 245 ≤ nb l 0) with h2 | h2 | h2 | h2 | h2
  · have hl : leadN (nb l 0) = 0 := by unfold leadN; rw [if_neg (by omega), if_neg (by omega), if_neg (by omega)]
    have hz : szN l = 0 := by rw [szN, if_neg h1, hl, if_neg (by omega), if_pos (fun k hk => by omega), if_neg (by omega)]
    have e1 : (nb l 0 / 16 == 14) = false := by rw [beq_eq_false_iff_ne]; omega
    have e2 : (nb l 0 / 8 == 30) = false := by rw [beq_eq_false_iff_ne]; omega
    rw [hz]
    simp only [e1, e2, Bool.false_and, Bool.false_eq_true, if_false]
    split
    · rename_i h3
      rw [Bool.and_eq_true, Bool.and_eq_true, beq_iff_eq, beq_iff_eq] at h3
      rw [if_neg (by omega)]; rfl
    · rfl
  · have hl : leadN (nb l 0) = 2 := by unfold leadN; rw [if_pos h2]
    have e0 : (nb l 0 / 32 == 6) = true := by rw [beq_iff_eq]; omega
    have e1 : (nb l 0 / 16 == 14) = false := by rw [beq_eq_false_iff_ne]; omega
    have e2 : (nb l 0 / 8 == 30) = false := by rw [beq_eq_false_iff_ne]; omega
    simp only [e0, e1, e2, Bool.false_and, Bool.true_and, Bool.false_eq_true, if_false]
    by_cases h3 : l.length < 2
    · have e3 : decide (1 < l.length) = false := by simp; omega
      have hz : szN l = 0 := by rw [szN, if_neg h1, hl, if_pos h3]
      rw [hz]
      simp only [e3, Bool.false_and, Bool.false_eq_true, if_false]; rfl
    have e3 : decide (1 < l.length) = true := by simp; omega
    by_cases h4 : contN l 1
    · have e4 : (nb l 1 / 64 == 2) = true := by rw [beq_iff_eq]; unfold contN at h4; omega
      have hz : szN l = 2 := by
        rw [szN, if_neg h1, hl, if_neg h3, if_pos (fun k hk hk1 => by
          obtain rfl : k = 1 := by omega
          exact h4), if_neg (by omega)]
      unfold contN at h4
      rw [hz, codeN_2]
      simp only [e3, e4, Bool.and_self, if_true]
      rw [if_pos (by omega)]
      exact pair_eq (by omega) rfl
    · have e4 : (nb l 1 / 64 == 2) = false := by rw [beq_eq_false_iff_ne]; unfold contN at h4; omega
      have hz : szN l = 0 := by rw [szN, if_neg h1, hl, if_neg h3, if_neg (fun hh => h4 (hh 1 (by omega) (by omega)))]
      rw [hz]
      simp only [e4, Bool.and_false, Bool.false_eq_true, if_false]; rfl
  · have hl : leadN (nb l 0) = 3 := by unfold leadN; rw [if_neg (by omega), if_pos h2]
    have e0 : (nb l 0 / 32 == 6) = false := by rw [beq_eq_false_iff_ne]; omega
    have e1 : (nb l 0 / 16 == 14) = true := by rw [beq_iff_eq]; omega
    have e2 : (nb l 0 / 8 == 30) = false := by rw [beq_eq_false_iff_ne]; omega
    simp only [e0, e1, e2, Bool.false_and, Bool.true_and, Bool.false_eq_true, if_false]
    by_cases h3 : l.length < 3
    · have e3 : decide (2 < l.length) = false := by simp; omega
      have hz : szN l = 0 := by rw [szN, if_neg h1, hl, if_pos h3]
      rw [hz]
      simp only [e3, Bool.false_and, Bool.and_false, Bool.false_eq_true, if_false]; rfl
    have e3 : decide (2 < l.length) = true := by simp; omega
    have e3' : decide (1 < l.length) = true := by simp; omega
    by_cases h4 : contN l 1 ∧ contN l 2
    · have hcc : ∀ k, k < 3 → 1 ≤ k → contN l k := fun k hk hk1 => by
        rcases (by omega : k = 1 ∨ k = 2) with rfl | rfl
        · exact h4.1
        · exact h4.2
      have h41 := h4.1
      have h42 := h4.2
      unfold contN at h41 h42
      have e4 : (nb l 1 / 64 == 2) = true := by rw [beq_iff_eq]; omega
      have e5 : (nb l 2 / 64 == 2) = true := by rw [beq_iff_eq]; omega
      simp only [e3, e3', e4, e5, Bool.and_self, if_true]
      by_cases h5 : badD (nb l 0) (nb l 1)
      · have hz : szN l = 0 := by rw [szN, if_neg h1, hl, if_neg h3, if_pos hcc, if_pos ⟨by omega, h5⟩]
        unfold badD at h5
        rw [hz, if_neg]
        · rfl
        · simp only [Bool.and_eq_true, Bool.or_eq_true, decide_eq_true_eq]
          omega
      · have hz : szN l = 3 := by rw [szN, if_neg h1, hl, if_neg h3, if_pos hcc, if_neg (fun hh => h5 hh.2)]
        unfold badD at h5
        rw [hz, codeN_3, if_pos]
        · exact pair_eq (by omega) rfl
        · simp only [Bool.and_eq_true, Bool.or_eq_true, decide_eq_true_eq]
          omega
    · have hz : szN l = 0 := by rw [szN, if_neg h1, hl, if_neg h3, if_neg (fun hh => h4 ⟨hh 1 (by omega) (by omega), hh 2 (by omega) (by omega)⟩)]
      have e4 : ((nb l 1 / 64 == 2) && (nb l 2 / 64 == 2)) = false := by
        rw [Bool.and_eq_false_iff, beq_eq_false_iff_ne, beq_eq_false_iff_ne]
        unfold contN at h4
        omega
      rw [hz]
      simp only [e3, e3', Bool.true_and, e4, Bool.false_eq_true, if_false]; rfl
  · have hl : leadN (nb l 0) = 4 := by unfold leadN; rw [if_neg (by omega), if_neg (by omega), if_pos h2]
    have e0 : (nb l 0 / 32 == 6) = false := by rw [beq_eq_false_iff_ne]; omega
    have e1 : (nb l 0 / 16 == 14) = false := by rw [beq_eq_false_iff_ne]; omega
    have e2 : (nb l 0 / 8 == 30) = true := by rw [beq_iff_eq]; omega
    simp only [e0, e1, e2, Bool.false_and, Bool.true_and, Bool.false_eq_true, if_false]
    by_cases h3 : l.length < 4
    · have e3 : decide (3 < l.length) = false := by simp; omega
      have hz : szN l = 0 := by rw [szN, if_neg h1, hl, if_pos h3]
      rw [hz]
      simp only [e3, Bool.false_and, Bool.and_false, Bool.false_eq_true, if_false]; rfl
    have e3 : decide (3 < l.length) = true := by simp; omega
    have e3' : decide (2 < l.length) = true := by simp; omega
    have e3'' : decide (1 < l.length) = true := by simp; omega
    by_cases h4 : contN l 1 ∧ contN l 2 ∧ contN l 3
    · have hcc : ∀ k, k < 4 → 1 ≤ k → contN l k := fun k hk hk1 => by
        rcases (by omega : k = 1 ∨ k = 2 ∨ k = 3) with rfl | rfl | rfl
        · exact h4.1
        · exact h4.2.1
        · exact h4.2.2
      have h41 := h4.1
      have h42 := h4.2.1
      have h43 := h4.2.2
      unfold contN at h41 h42 h43
      have e4 : (nb l 1 / 64 == 2) = true := by rw [beq_iff_eq]; omega
      have e5 : (nb l 2 / 64 == 2) = true := by rw [beq_iff_eq]; omega
      have e6 : (nb l 3 / 64 == 2) = true := by rw [beq_iff_eq]; omega
      simp only [e3, e3', e3'', e4, e5, e6, Bool.and_self, if_true]
      by_cases h5 : badD (nb l 0) (nb l 1)
      · have hz : szN l = 0 := by rw [szN, if_neg h1, hl, if_neg h3, if_pos hcc, if_pos ⟨by omega, h5⟩]
        unfold badD at h5
        rw [hz, if_neg]
        · rfl
        · simp only [Bool.and_eq_true, Bool.or_eq_true, decide_eq_true_eq]
          omega
      · have hz : szN l = 4 := by rw [szN, if_neg h1, hl, if_neg h3, if_pos hcc, if_neg (fun hh => h5 hh.2)]
        unfold badD at h5
        rw [hz, codeN_4, if_pos]
        · exact pair_eq (by omega) rfl
        · simp only [Bool.and_eq_true, Bool.or_eq_true, decide_eq_true_eq]
          omega
    · have hz : szN l = 0 := by rw [szN, if_neg h1, hl, if_neg h3, if_neg (fun hh => h4 ⟨hh 1 (by omega) (by omega), hh 2 (by omega) (by omega), hh 3 (by omega) (by omega)⟩)]
      have e4 : ((nb l 1 / 64 == 2) && (nb l 2 / 64 == 2) && (nb l 3 / 64 == 2)) = false := by
        rw [Bool.and_eq_false_iff, Bool.and_eq_false_iff, beq_eq_false_iff_ne, beq_eq_false_iff_ne, beq_eq_false_iff_ne]
        unfold contN at h4
        omega
      rw [hz]
      simp only [e3, e3', e3'', Bool.true_and, e4, Bool.false_eq_true, if_false]; rfl
  · have hl : leadN (nb l 0) = 0 := by unfold leadN; rw [if_neg (by omega), if_neg (by omega), if_neg (by omega)]
    have hz : szN l = 0 := by rw [szN, if_neg h1, hl, if_neg (by omega), if_pos (fun k hk => by omega), if_neg (by omega)]
    have e0 : (nb l 0 / 32 == 6) = false := by rw [beq_eq_false_iff_ne]; omega
    have e1 : (nb l 0 / 16 == 14) = false := by rw [beq_eq_false_iff_ne]; omega
    rw [hz]
    simp only [e0, e1, Bool.false_and, Bool.false_eq_true, if_false]
    split
    · rename_i h3
      rw [Bool.and_eq_true, Bool.and_eq_true, Bool.and_eq_true, beq_iff_eq] at h3
      rw [if_neg]
      · rfl
      · simp only [Bool.and_eq_true, Bool.or_eq_true, decide_eq_true_eq]
        omega
    · rfl
end Go.Proofs.Ytdphdodjidbngaa

namespace Go.Proofs.Ytdphdodjidbngaa
open Go.RowKit
set_option linter.unusedVariables false
set_option linter.unusedSimpArgs false

/-- What a letter is. -/
def LetP (c : Int) : Prop := (97 ≤ c ∧ c ≤ 122) ∨ (48 ≤ c ∧ c ≤ 57) ∨ (161 ≤ c ∧ c ≤ 1114111 ∧ c ≠ 65533 ∧ (c < 55296 ∨ 57343 < c))
instance (c : Int) : Decidable (LetP c) := by unfold LetP; infer_instance
def DigP (c : Int) : Prop := 48 ≤ c ∧ c ≤ 57
instance (c : Int) : Decidable (DigP c) := by unfold DigP; infer_instance
theorem ret_dec {e : Ending} {p : Prop} [Decidable p] (h : ∃ b, e = .returned (.bool b) ∧ (b = true ↔ p)) : e = .returned (.bool (decide p)) := by
  obtain ⟨b, rfl, hb⟩ := h
  have : b = decide p := by
    by_cases hp : p
    · rw [decide_eq_true hp]; exact hb.2 hp
    · rw [decide_eq_false hp]
      cases b
      · rfl
      · exact absurd (hb.1 rfl) hp
  rw [this]

theorem digit_is (c : Int) (W : World) : Calls Try.prog 108 #[.int .i32 c] W fun e w' => e = .returned (.bool (decide (DigP c))) ∧ W = w' := by
  by_cases h1 : 48 ≤ c <;> by_cases h2 : c ≤ 57
  all_goals
    go_enter Try.func108, Try.ntmps108
    go_wp2
    go_ret
    exact ⟨ret_dec ⟨_, rfl, by unfold DigP; simp <;> omega⟩, rfl⟩

set_option maxHeartbeats 2000000 in
theorem letter_is (c : Int) (W : World) : Calls Try.prog 74 #[.int .i32 c] W fun e w' => e = .returned (.bool (decide (LetP c))) ∧ W = w' := by
  have HD := hid (fun h : DigP c => decide_eq_true h)
  have HN := hid (fun h : ¬ DigP c => decide_eq_false h)
  by_cases hd : DigP c
  case' pos => have hdd := HD.out hd
  case' neg => have hdd := HN.out hd
  all_goals
    have HDP := hid hd
    clear hd HD HN
    generalize decide (DigP c) = b at hdd
    subst hdd
    go_enter Try.func74, Try.ntmps74
    go_wp2_with (go_at_call 108; refine (digit_is _ _).mono ?_; rintro e w' ⟨rfl, rfl⟩)
    all_goals go_ret
    all_goals exact ⟨ret_dec ⟨_, rfl, by have := HDP.out; unfold LetP; unfold DigP at this; simp at * <;> omega⟩, rfl⟩

end Go.Proofs.Ytdphdodjidbngaa

namespace Go.Proofs.Ytdphdodjidbngaa
open Go.RowKit
set_option linter.unusedVariables false
set_option linter.unusedSimpArgs false

theorem sz_small (l : List UInt8) (h : nb l 0 < 128) : szN l = 1 := by rw [szN, if_pos h]
theorem sz_short (l : List UInt8) (h : 128 ≤ nb l 0) (h2 : l.length < leadN (nb l 0)) : szN l = 0 := by rw [szN, if_neg (by omega), if_pos h2]
theorem sz_cont (l : List UInt8) (h : 128 ≤ nb l 0) (j : Nat) (h2 : j < leadN (nb l 0)) (h3 : 1 ≤ j) (h4 : ¬ contN l j) : szN l = 0 := by
  rw [szN, if_neg (by omega)]
  split
  · rfl
  · rw [if_neg (fun hh => h4 (hh j h2 h3))]
theorem sz_bad (l : List UInt8) (h : 128 ≤ nb l 0) (h2 : 2 < leadN (nb l 0)) (h3 : badD (nb l 0) (nb l 1)) : szN l = 0 := by
  rw [szN, if_neg (by omega)]
  split
  · rfl
  · split
    · rw [if_pos ⟨h2, h3⟩]
    · rfl
theorem sz_good (l : List UInt8) (h : 128 ≤ nb l 0) (h1 : leadN (nb l 0) ≤ l.length) (h2 : ∀ j, j < leadN (nb l 0) → 1 ≤ j → contN l j) (h3 : ¬ (2 < leadN (nb l 0) ∧ badD (nb l 0) (nb l 1))) : szN l = leadN (nb l 0) := by
  rw [szN, if_neg (by omega), if_neg (by omega), if_pos h2, if_neg h3]
theorem at_nb (l : List UInt8) (k : Nat) (hk : k < l.length) (w : World) : (Instr.index 9 (.string (str l)) (.int .i64 (k : Int))).run Try.prog w = .ok (.int .u8 (nb l k : Int)) w := by
  have hs : k < (str l).size := by rw [str_size]; exact hk
  have h2 : (str l)[k]'hs = l.getD k 0 := by
    rw [List.getD_eq_getElem?_getD, List.getElem?_eq_getElem hk]
    show (str l).data[k] = l[k]
    simp [str]
    rfl
  have h3 : (str l)[k]! = l.getD k 0 := by
    rw [← h2]
    exact getElem!_pos (str l) k hs
  simp only [Instr.index, Sem.run_bind, run_underlying Try.underlying9, Result.andThen]
  simp [asIntOf, str_size, hk, h2, h3, nb, go_sem]

set_option maxRecDepth 20000 in
set_option maxHeartbeats 8000000 in
theorem rsize_is (l : List UInt8) (h : 0 < l.length) (hl : l.length ≤ 1000) (W : World) : Calls Try.prog 107 #[.string (str l)] W fun e w' => e = .returned (.int .i64 (szN l : Nat)) ∧ W = w' := by
  have hb := nb_lt l 0
  have i0 : ∀ w, (Instr.index 9 (.string (str l)) (.int .i64 0)).run Try.prog w = .ok (.int .u8 (nb l 0 : Int)) w := fun w => at_nb l 0 h w
  have HI := hid (fun k hk w => at_nb l k hk w)
  have HB := hid (nb_lt l)
  have H1 := hid (sz_small l)
  have H2 := hid (sz_short l)
  have H3 := hid (sz_cont l)
  have H4 := hid (sz_bad l)
  have H5 := hid (sz_good l)
  have HLEN := hid (str_size l)
  have hls : ((str l).size : Int) ≤ 1000 := by rw [str_size]; omega
  have HL2 : Hid (∀ n : Nat, n ≤ 4 → ((((str l).size : Int) < (n : Int)) ↔ l.length < n)) := hid (fun n _ => by rw [str_size]; omega)
  clear h
  have HLE : Hid (∀ n : Nat, leadN (nb l 0) = n → leadN (nb l 0) = n) := hid (fun n h => h)
  obtain ⟨n, hn⟩ : ∃ n, leadN (nb l 0) = n := ⟨_, rfl⟩
  rw [hn] at H2 H3 H4 H5
  have HC0 : Hid (∃ c, nb l 0 = c) := hid ⟨_, rfl⟩
  clear HLE HC0
  generalize nb l 0 = c at *
  have hwc : IntKind.i64.wrap (c : Int) = (c : Int) := by simp [IntKind.wrap, IntKind.bits, IntKind.signed]; omega
  by_cases hc : c < 128
  · have HS := hid (H1.out hc)
    clear H1 H2 H3 H4 H5 hn
    go_enter Try.func107, Try.ntmps107
    go_wp2
    go_ret
    exact ⟨by rw [HS.out]; rfl, rfl⟩
  · have hc2 : 128 ≤ c := by omega
    replace H2 := hid (H2.out hc2)
    replace H3 := hid (H3.out hc2)
    replace H4 := hid (H4.out hc2)
    replace H5 := hid (H5.out hc2)
    clear H1 hc
    have hn4 : n ≤ 4 := by
      rw [← hn]; unfold leadN
      split
      · omega
      · split
        · omega
        · split <;> omega
    have hn4 : n ≤ 4 := by
      rw [← hn]; unfold leadN
      split
      · omega
      · split
        · omega
        · split <;> omega
    by_cases hsh : l.length < n
    · have HS := hid (H2.out hsh)
      have hs2 := (HL2.out n hn4).2 hsh
      clear H2 H3 H4 H5 HI hn4
      rcases (by omega : c < 194 ∨ (194 ≤ c ∧ c < 224) ∨ (224 ≤ c ∧ c < 240) ∨ (240 ≤ c ∧ c < 245) ∨ 245 ≤ c) with h2 | h2 | h2 | h2 | h2
      · obtain rfl : n = 0 := by rw [← hn]; unfold leadN; rw [if_neg (by omega), if_neg (by omega), if_neg (by omega)]
        clear hn
        omega
      · obtain rfl : n = 2 := by rw [← hn]; unfold leadN; rw [if_pos (by omega)]
        clear hn
        go_enter Try.func107, Try.ntmps107
        go_wp2
        go_ret
        exact ⟨by rw [HS.out]; rfl, rfl⟩
      · obtain rfl : n = 3 := by rw [← hn]; unfold leadN; rw [if_neg (by omega), if_pos (by omega)]
        clear hn
        go_enter Try.func107, Try.ntmps107
        go_wp2
        go_ret
        exact ⟨by rw [HS.out]; rfl, rfl⟩
      · obtain rfl : n = 4 := by rw [← hn]; unfold leadN; rw [if_neg (by omega), if_neg (by omega), if_pos (by omega)]
        clear hn
        go_enter Try.func107, Try.ntmps107
        go_wp2
        go_ret
        exact ⟨by rw [HS.out]; rfl, rfl⟩
      · obtain rfl : n = 0 := by rw [← hn]; unfold leadN; rw [if_neg (by omega), if_neg (by omega), if_neg (by omega)]
        clear hn
        omega
    · have hs2 : (n : Int) ≤ ((str l).size : Int) := by rw [HLEN.out]; omega
      replace H5 := hid (H5.out (by omega))
      clear H2 hn4
      rcases (by omega : c < 194 ∨ (194 ≤ c ∧ c < 224) ∨ c = 224 ∨ c = 237 ∨ (225 ≤ c ∧ c < 240 ∧ c ≠ 237) ∨ c = 240 ∨ c = 244 ∨ (241 ≤ c ∧ c < 244) ∨ 245 ≤ c) with h2 | h2 | h2 | h2 | h2 | h2 | h2 | h2 | h2
      · obtain rfl : n = 0 := by rw [← hn]; unfold leadN; rw [if_neg (by omega), if_neg (by omega), if_neg (by omega)]
        have HS := hid (H5.out (fun j hj => by omega) (by omega))
        clear hn H3 H4 H5 HI
        go_enter Try.func107, Try.ntmps107
        go_wp2_with fail
        refine wp_loop_rounds 1 ?_
        rw [rounds_succ]
        go_wp2
        go_ret
        exact ⟨by rw [HS.out]; rfl, rfl⟩
      · obtain rfl : n = 2 := by rw [← hn]; unfold leadN; rw [if_pos (by omega)]
        clear hn
        go_enter Try.func107, Try.ntmps107
        go_wp2_with fail
        go_loop [5] (fun iv => ∃ k : Nat, 1 ≤ k ∧ k ≤ 2 ∧ iv = .int .i64 (k : Int) ∧ Hid (∀ j, j < k → 1 ≤ j → contN l j)) (fun iv => 2 - (intOf iv).toNat)
        case atStart => exact ⟨1, by omega, by omega, rfl, fun j _ _ => by omega⟩
        case round =>
          obtain ⟨k, hk1, hk, rfl, HT⟩ := hrel
          by_cases hlt : k < 2
          · have hlt2 : (k : Int) < 2 := by omega
            have ik := HI.out k (by omega)
            have hd := HB.out k
            have H3k := hid (H3.out k hlt hk1)
            have HT2 := hid (fun h : contN l k => (fun j hj hj1 => by
              by_cases e : j = k
              · rw [e]; exact h
              · exact HT.out j (by omega) hj1 : ∀ j, j < k + 1 → 1 ≤ j → contN l j))
            by_cases hcn : contN l k
            · replace HT2 := hid (HT2.out hcn)
              have hlo : 128 ≤ nb l k := hcn.1
              have hhi : nb l k ≤ 191 := hcn.2
              clear hcn HT
              generalize nb l k = d at ik hd hlo hhi
              go_wp2
              go_round
              case rel => exact ⟨k + 1, by omega, by omega, by go_num, HT2.out⟩
              case measure => simp [intOf]; omega
            · have HS := hid (H3k.out hcn)
              have hx : nb l k < 128 ∨ 191 < nb l k := by unfold contN at hcn; omega
              clear hcn HT
              generalize nb l k = d at ik hd hx
              rcases hx with hx | hx
              · go_wp2
                go_ret
                exact ⟨by rw [HS.out]; rfl, rfl⟩
              · go_wp2
                go_ret
                exact ⟨by rw [HS.out]; rfl, rfl⟩
          · obtain rfl : k = 2 := by omega
            have HS := hid (H5.out (fun j hj hj1 => HT.out j hj hj1) (by omega))
            clear H3 H4 H5 HI HT hlt
            go_wp2
            go_ret
            exact ⟨by rw [HS.out]; rfl, rfl⟩
      · obtain rfl : c = 224 := h2
        obtain rfl : n = 3 := by rw [← hn]; unfold leadN; rw [if_neg (by omega), if_pos (by omega)]
        clear hn
        go_enter Try.func107, Try.ntmps107
        go_wp2_with fail
        go_loop [5] (fun iv => ∃ k : Nat, 1 ≤ k ∧ k ≤ 3 ∧ iv = .int .i64 (k : Int) ∧ Hid (∀ j, j < k → 1 ≤ j → contN l j)) (fun iv => 3 - (intOf iv).toNat)
        case atStart => exact ⟨1, by omega, by omega, rfl, fun j _ _ => by omega⟩
        case round =>
          obtain ⟨k, hk1, hk, rfl, HT⟩ := hrel
          by_cases hlt : k < 3
          · have hlt2 : (k : Int) < 3 := by omega
            have ik := HI.out k (by omega)
            have hd := HB.out k
            have H3k := hid (H3.out k hlt hk1)
            have HT2 := hid (fun h : contN l k => (fun j hj hj1 => by
              by_cases e : j = k
              · rw [e]; exact h
              · exact HT.out j (by omega) hj1 : ∀ j, j < k + 1 → 1 ≤ j → contN l j))
            by_cases hcn : contN l k
            · replace HT2 := hid (HT2.out hcn)
              have hlo : 128 ≤ nb l k := hcn.1
              have hhi : nb l k ≤ 191 := hcn.2
              clear hcn HT
              generalize nb l k = d at ik hd hlo hhi
              go_wp2
              go_round
              case rel => exact ⟨k + 1, by omega, by omega, by go_num, HT2.out⟩
              case measure => simp [intOf]; omega
            · have HS := hid (H3k.out hcn)
              have hx : nb l k < 128 ∨ 191 < nb l k := by unfold contN at hcn; omega
              clear hcn HT
              generalize nb l k = d at ik hd hx
              rcases hx with hx | hx
              · go_wp2
                go_ret
                exact ⟨by rw [HS.out]; rfl, rfl⟩
              · go_wp2
                go_ret
                exact ⟨by rw [HS.out]; rfl, rfl⟩
          · obtain rfl : k = 3 := by omega
            have HBD := hid (H4.out (by omega))
            have HGD := hid (fun (h : ¬ badD 224 (nb l 1)) => H5.out (fun j hj hj1 => HT.out j hj hj1) (fun hh => h hh.2))
            have i1 : ∀ w, (Instr.index 9 (.string (str l)) (.int .i64 1)).run Try.prog w = .ok (.int .u8 (nb l 1 : Int)) w := fun w => at_nb l 1 (by omega) w
            have hb1 := HB.out 1
            clear H3 H4 H5 HI HT hlt
            generalize nb l 1 = d at *
            have hwd : IntKind.i64.wrap (d : Int) = (d : Int) := by simp [IntKind.wrap, IntKind.bits, IntKind.signed]; omega
            go_wp2
            all_goals go_ret
            all_goals first
              | exact ⟨by rw [HBD.out (by unfold badD; omega)]; rfl, rfl⟩
              | exact ⟨by rw [HGD.out (by unfold badD; omega)]; rfl, rfl⟩
      · obtain rfl : c = 237 := h2
        obtain rfl : n = 3 := by rw [← hn]; unfold leadN; rw [if_neg (by omega), if_pos (by omega)]
        clear hn
        go_enter Try.func107, Try.ntmps107
        go_wp2_with fail
        go_loop [5] (fun iv => ∃ k : Nat, 1 ≤ k ∧ k ≤ 3 ∧ iv = .int .i64 (k : Int) ∧ Hid (∀ j, j < k → 1 ≤ j → contN l j)) (fun iv => 3 - (intOf iv).toNat)
        case atStart => exact ⟨1, by omega, by omega, rfl, fun j _ _ => by omega⟩
        case round =>
          obtain ⟨k, hk1, hk, rfl, HT⟩ := hrel
          by_cases hlt : k < 3
          · have hlt2 : (k : Int) < 3 := by omega
            have ik := HI.out k (by omega)
            have hd := HB.out k
            have H3k := hid (H3.out k hlt hk1)
            have HT2 := hid (fun h : contN l k => (fun j hj hj1 => by
              by_cases e : j = k
              · rw [e]; exact h
              · exact HT.out j (by omega) hj1 : ∀ j, j < k + 1 → 1 ≤ j → contN l j))
            by_cases hcn : contN l k
            · replace HT2 := hid (HT2.out hcn)
              have hlo : 128 ≤ nb l k := hcn.1
              have hhi : nb l k ≤ 191 := hcn.2
              clear hcn HT
              generalize nb l k = d at ik hd hlo hhi
              go_wp2
              go_round
              case rel => exact ⟨k + 1, by omega, by omega, by go_num, HT2.out⟩
              case measure => simp [intOf]; omega
            · have HS := hid (H3k.out hcn)
              have hx : nb l k < 128 ∨ 191 < nb l k := by unfold contN at hcn; omega
              clear hcn HT
              generalize nb l k = d at ik hd hx
              rcases hx with hx | hx
              · go_wp2
                go_ret
                exact ⟨by rw [HS.out]; rfl, rfl⟩
              · go_wp2
                go_ret
                exact ⟨by rw [HS.out]; rfl, rfl⟩
          · obtain rfl : k = 3 := by omega
            have HBD := hid (H4.out (by omega))
            have HGD := hid (fun (h : ¬ badD 237 (nb l 1)) => H5.out (fun j hj hj1 => HT.out j hj hj1) (fun hh => h hh.2))
            have i1 : ∀ w, (Instr.index 9 (.string (str l)) (.int .i64 1)).run Try.prog w = .ok (.int .u8 (nb l 1 : Int)) w := fun w => at_nb l 1 (by omega) w
            have hb1 := HB.out 1
            clear H3 H4 H5 HI HT hlt
            generalize nb l 1 = d at *
            have hwd : IntKind.i64.wrap (d : Int) = (d : Int) := by simp [IntKind.wrap, IntKind.bits, IntKind.signed]; omega
            go_wp2
            all_goals go_ret
            all_goals first
              | exact ⟨by rw [HBD.out (by unfold badD; omega)]; rfl, rfl⟩
              | exact ⟨by rw [HGD.out (by unfold badD; omega)]; rfl, rfl⟩
      · obtain rfl : n = 3 := by rw [← hn]; unfold leadN; rw [if_neg (by omega), if_pos (by omega)]
        clear hn
        have z224 : ((c : Int) == 224) = false := by rw [beq_eq_false_iff_ne]; omega
        have z237 : ((c : Int) == 237) = false := by rw [beq_eq_false_iff_ne]; omega
        have z240 : ((c : Int) == 240) = false := by rw [beq_eq_false_iff_ne]; omega
        have z244 : ((c : Int) == 244) = false := by rw [beq_eq_false_iff_ne]; omega
        go_enter Try.func107, Try.ntmps107
        go_wp2_with fail
        go_loop [5] (fun iv => ∃ k : Nat, 1 ≤ k ∧ k ≤ 3 ∧ iv = .int .i64 (k : Int) ∧ Hid (∀ j, j < k → 1 ≤ j → contN l j)) (fun iv => 3 - (intOf iv).toNat)
        case atStart => exact ⟨1, by omega, by omega, rfl, fun j _ _ => by omega⟩
        case round =>
          obtain ⟨k, hk1, hk, rfl, HT⟩ := hrel
          by_cases hlt : k < 3
          · have hlt2 : (k : Int) < 3 := by omega
            have ik := HI.out k (by omega)
            have hd := HB.out k
            have H3k := hid (H3.out k hlt hk1)
            have HT2 := hid (fun h : contN l k => (fun j hj hj1 => by
              by_cases e : j = k
              · rw [e]; exact h
              · exact HT.out j (by omega) hj1 : ∀ j, j < k + 1 → 1 ≤ j → contN l j))
            by_cases hcn : contN l k
            · replace HT2 := hid (HT2.out hcn)
              have hlo : 128 ≤ nb l k := hcn.1
              have hhi : nb l k ≤ 191 := hcn.2
              clear hcn HT
              generalize nb l k = d at ik hd hlo hhi
              go_wp2
              go_round
              case rel => exact ⟨k + 1, by omega, by omega, by go_num, HT2.out⟩
              case measure => simp [intOf]; omega
            · have HS := hid (H3k.out hcn)
              have hx : nb l k < 128 ∨ 191 < nb l k := by unfold contN at hcn; omega
              clear hcn HT
              generalize nb l k = d at ik hd hx
              rcases hx with hx | hx
              · go_wp2
                go_ret
                exact ⟨by rw [HS.out]; rfl, rfl⟩
              · go_wp2
                go_ret
                exact ⟨by rw [HS.out]; rfl, rfl⟩
          · obtain rfl : k = 3 := by omega
            have HBD := hid (H4.out (by omega))
            have HGD := hid (fun (h : ¬ badD c (nb l 1)) => H5.out (fun j hj hj1 => HT.out j hj hj1) (fun hh => h hh.2))
            have i1 : ∀ w, (Instr.index 9 (.string (str l)) (.int .i64 1)).run Try.prog w = .ok (.int .u8 (nb l 1 : Int)) w := fun w => at_nb l 1 (by omega) w
            have hb1 := HB.out 1
            clear H3 H4 H5 HI HT hlt
            generalize nb l 1 = d at *
            have hwd : IntKind.i64.wrap (d : Int) = (d : Int) := by simp [IntKind.wrap, IntKind.bits, IntKind.signed]; omega
            go_wp2
            all_goals go_ret
            all_goals first
              | exact ⟨by rw [HBD.out (by unfold badD; omega)]; rfl, rfl⟩
              | exact ⟨by rw [HGD.out (by unfold badD; omega)]; rfl, rfl⟩
      · obtain rfl : c = 240 := h2
        obtain rfl : n = 4 := by rw [← hn]; unfold leadN; rw [if_neg (by omega), if_neg (by omega), if_pos (by omega)]
        clear hn
        go_enter Try.func107, Try.ntmps107
        go_wp2_with fail
        go_loop [5] (fun iv => ∃ k : Nat, 1 ≤ k ∧ k ≤ 4 ∧ iv = .int .i64 (k : Int) ∧ Hid (∀ j, j < k → 1 ≤ j → contN l j)) (fun iv => 4 - (intOf iv).toNat)
        case atStart => exact ⟨1, by omega, by omega, rfl, fun j _ _ => by omega⟩
        case round =>
          obtain ⟨k, hk1, hk, rfl, HT⟩ := hrel
          by_cases hlt : k < 4
          · have hlt2 : (k : Int) < 4 := by omega
            have ik := HI.out k (by omega)
            have hd := HB.out k
            have H3k := hid (H3.out k hlt hk1)
            have HT2 := hid (fun h : contN l k => (fun j hj hj1 => by
              by_cases e : j = k
              · rw [e]; exact h
              · exact HT.out j (by omega) hj1 : ∀ j, j < k + 1 → 1 ≤ j → contN l j))
            by_cases hcn : contN l k
            · replace HT2 := hid (HT2.out hcn)
              have hlo : 128 ≤ nb l k := hcn.1
              have hhi : nb l k ≤ 191 := hcn.2
              clear hcn HT
              generalize nb l k = d at ik hd hlo hhi
              go_wp2
              go_round
              case rel => exact ⟨k + 1, by omega, by omega, by go_num, HT2.out⟩
              case measure => simp [intOf]; omega
            · have HS := hid (H3k.out hcn)
              have hx : nb l k < 128 ∨ 191 < nb l k := by unfold contN at hcn; omega
              clear hcn HT
              generalize nb l k = d at ik hd hx
              rcases hx with hx | hx
              · go_wp2
                go_ret
                exact ⟨by rw [HS.out]; rfl, rfl⟩
              · go_wp2
                go_ret
                exact ⟨by rw [HS.out]; rfl, rfl⟩
          · obtain rfl : k = 4 := by omega
            have HBD := hid (H4.out (by omega))
            have HGD := hid (fun (h : ¬ badD 240 (nb l 1)) => H5.out (fun j hj hj1 => HT.out j hj hj1) (fun hh => h hh.2))
            have i1 : ∀ w, (Instr.index 9 (.string (str l)) (.int .i64 1)).run Try.prog w = .ok (.int .u8 (nb l 1 : Int)) w := fun w => at_nb l 1 (by omega) w
            have hb1 := HB.out 1
            clear H3 H4 H5 HI HT hlt
            generalize nb l 1 = d at *
            have hwd : IntKind.i64.wrap (d : Int) = (d : Int) := by simp [IntKind.wrap, IntKind.bits, IntKind.signed]; omega
            go_wp2
            all_goals go_ret
            all_goals first
              | exact ⟨by rw [HBD.out (by unfold badD; omega)]; rfl, rfl⟩
              | exact ⟨by rw [HGD.out (by unfold badD; omega)]; rfl, rfl⟩
      · obtain rfl : c = 244 := h2
        obtain rfl : n = 4 := by rw [← hn]; unfold leadN; rw [if_neg (by omega), if_neg (by omega), if_pos (by omega)]
        clear hn
        go_enter Try.func107, Try.ntmps107
        go_wp2_with fail
        go_loop [5] (fun iv => ∃ k : Nat, 1 ≤ k ∧ k ≤ 4 ∧ iv = .int .i64 (k : Int) ∧ Hid (∀ j, j < k → 1 ≤ j → contN l j)) (fun iv => 4 - (intOf iv).toNat)
        case atStart => exact ⟨1, by omega, by omega, rfl, fun j _ _ => by omega⟩
        case round =>
          obtain ⟨k, hk1, hk, rfl, HT⟩ := hrel
          by_cases hlt : k < 4
          · have hlt2 : (k : Int) < 4 := by omega
            have ik := HI.out k (by omega)
            have hd := HB.out k
            have H3k := hid (H3.out k hlt hk1)
            have HT2 := hid (fun h : contN l k => (fun j hj hj1 => by
              by_cases e : j = k
              · rw [e]; exact h
              · exact HT.out j (by omega) hj1 : ∀ j, j < k + 1 → 1 ≤ j → contN l j))
            by_cases hcn : contN l k
            · replace HT2 := hid (HT2.out hcn)
              have hlo : 128 ≤ nb l k := hcn.1
              have hhi : nb l k ≤ 191 := hcn.2
              clear hcn HT
              generalize nb l k = d at ik hd hlo hhi
              go_wp2
              go_round
              case rel => exact ⟨k + 1, by omega, by omega, by go_num, HT2.out⟩
              case measure => simp [intOf]; omega
            · have HS := hid (H3k.out hcn)
              have hx : nb l k < 128 ∨ 191 < nb l k := by unfold contN at hcn; omega
              clear hcn HT
              generalize nb l k = d at ik hd hx
              rcases hx with hx | hx
              · go_wp2
                go_ret
                exact ⟨by rw [HS.out]; rfl, rfl⟩
              · go_wp2
                go_ret
                exact ⟨by rw [HS.out]; rfl, rfl⟩
          · obtain rfl : k = 4 := by omega
            have HBD := hid (H4.out (by omega))
            have HGD := hid (fun (h : ¬ badD 244 (nb l 1)) => H5.out (fun j hj hj1 => HT.out j hj hj1) (fun hh => h hh.2))
            have i1 : ∀ w, (Instr.index 9 (.string (str l)) (.int .i64 1)).run Try.prog w = .ok (.int .u8 (nb l 1 : Int)) w := fun w => at_nb l 1 (by omega) w
            have hb1 := HB.out 1
            clear H3 H4 H5 HI HT hlt
            generalize nb l 1 = d at *
            have hwd : IntKind.i64.wrap (d : Int) = (d : Int) := by simp [IntKind.wrap, IntKind.bits, IntKind.signed]; omega
            go_wp2
            all_goals go_ret
            all_goals first
              | exact ⟨by rw [HBD.out (by unfold badD; omega)]; rfl, rfl⟩
              | exact ⟨by rw [HGD.out (by unfold badD; omega)]; rfl, rfl⟩
      · obtain rfl : n = 4 := by rw [← hn]; unfold leadN; rw [if_neg (by omega), if_neg (by omega), if_pos (by omega)]
        clear hn
        have z224 : ((c : Int) == 224) = false := by rw [beq_eq_false_iff_ne]; omega
        have z237 : ((c : Int) == 237) = false := by rw [beq_eq_false_iff_ne]; omega
        have z240 : ((c : Int) == 240) = false := by rw [beq_eq_false_iff_ne]; omega
        have z244 : ((c : Int) == 244) = false := by rw [beq_eq_false_iff_ne]; omega
        go_enter Try.func107, Try.ntmps107
        go_wp2_with fail
        go_loop [5] (fun iv => ∃ k : Nat, 1 ≤ k ∧ k ≤ 4 ∧ iv = .int .i64 (k : Int) ∧ Hid (∀ j, j < k → 1 ≤ j → contN l j)) (fun iv => 4 - (intOf iv).toNat)
        case atStart => exact ⟨1, by omega, by omega, rfl, fun j _ _ => by omega⟩
        case round =>
          obtain ⟨k, hk1, hk, rfl, HT⟩ := hrel
          by_cases hlt : k < 4
          · have hlt2 : (k : Int) < 4 := by omega
            have ik := HI.out k (by omega)
            have hd := HB.out k
            have H3k := hid (H3.out k hlt hk1)
            have HT2 := hid (fun h : contN l k => (fun j hj hj1 => by
              by_cases e : j = k
              · rw [e]; exact h
              · exact HT.out j (by omega) hj1 : ∀ j, j < k + 1 → 1 ≤ j → contN l j))
            by_cases hcn : contN l k
            · replace HT2 := hid (HT2.out hcn)
              have hlo : 128 ≤ nb l k := hcn.1
              have hhi : nb l k ≤ 191 := hcn.2
              clear hcn HT
              generalize nb l k = d at ik hd hlo hhi
              go_wp2
              go_round
              case rel => exact ⟨k + 1, by omega, by omega, by go_num, HT2.out⟩
              case measure => simp [intOf]; omega
            · have HS := hid (H3k.out hcn)
              have hx : nb l k < 128 ∨ 191 < nb l k := by unfold contN at hcn; omega
              clear hcn HT
              generalize nb l k = d at ik hd hx
              rcases hx with hx | hx
              · go_wp2
                go_ret
                exact ⟨by rw [HS.out]; rfl, rfl⟩
              · go_wp2
                go_ret
                exact ⟨by rw [HS.out]; rfl, rfl⟩
          · obtain rfl : k = 4 := by omega
            have HBD := hid (H4.out (by omega))
            have HGD := hid (fun (h : ¬ badD c (nb l 1)) => H5.out (fun j hj hj1 => HT.out j hj hj1) (fun hh => h hh.2))
            have i1 : ∀ w, (Instr.index 9 (.string (str l)) (.int .i64 1)).run Try.prog w = .ok (.int .u8 (nb l 1 : Int)) w := fun w => at_nb l 1 (by omega) w
            have hb1 := HB.out 1
            clear H3 H4 H5 HI HT hlt
            generalize nb l 1 = d at *
            have hwd : IntKind.i64.wrap (d : Int) = (d : Int) := by simp [IntKind.wrap, IntKind.bits, IntKind.signed]; omega
            go_wp2
            all_goals go_ret
            all_goals first
              | exact ⟨by rw [HBD.out (by unfold badD; omega)]; rfl, rfl⟩
              | exact ⟨by rw [HGD.out (by unfold badD; omega)]; rfl, rfl⟩
      · obtain rfl : n = 0 := by rw [← hn]; unfold leadN; rw [if_neg (by omega), if_neg (by omega), if_neg (by omega)]
        have HS := hid (H5.out (fun j hj => by omega) (by omega))
        clear hn H3 H4 H5 HI
        go_enter Try.func107, Try.ntmps107
        go_wp2_with fail
        refine wp_loop_rounds 1 ?_
        rw [rounds_succ]
        go_wp2
        go_ret
        exact ⟨by rw [HS.out]; rfl, rfl⟩
end Go.Proofs.Ytdphdodjidbngaa

namespace Go.Proofs.Ytdphdodjidbngaa
open Go.RowKit
set_option linter.unusedVariables false
set_option linter.unusedSimpArgs false

theorem szN_range (l : List UInt8) : szN l = 0 ∨ szN l = 1 ∨ (szN l = 2 ∧ 194 ≤ nb l 0 ∧ 2 ≤ l.length ∧ contN l 1) ∨ (szN l = 3 ∧ 224 ≤ nb l 0 ∧ 3 ≤ l.length ∧ contN l 1 ∧ contN l 2) ∨ (szN l = 4 ∧ 240 ≤ nb l 0 ∧ nb l 0 < 245 ∧ 4 ≤ l.length ∧ contN l 1 ∧ contN l 2 ∧ contN l 3) := by
  unfold szN
  split
  · exact .inr (.inl rfl)
  · split
    · exact .inl rfl
    · rename_i h2
      split
      · rename_i h3
        split
        · exact .inl rfl
        · unfold leadN at *
          split
          · rename_i h4
            rw [if_pos h4] at h2 h3
            exact .inr (.inr (.inl ⟨rfl, h4.1, by omega, h3 1 (by omega) (by omega)⟩))
          · rename_i h4
            rw [if_neg h4] at h2 h3
            split
            · rename_i h5
              rw [if_pos h5] at h2 h3
              exact .inr (.inr (.inr (.inl ⟨rfl, h5.1, by omega, h3 1 (by omega) (by omega), h3 2 (by omega) (by omega)⟩)))
            · rename_i h5
              rw [if_neg h5] at h2 h3
              split
              · rename_i h6
                rw [if_pos h6] at h2 h3
                exact .inr (.inr (.inr (.inr ⟨rfl, h6.1, h6.2, by omega, h3 1 (by omega) (by omega), h3 2 (by omega) (by omega), h3 3 (by omega) (by omega)⟩)))
              · exact .inl rfl
      · exact .inl rfl

set_option maxRecDepth 20000 in
set_option maxHeartbeats 8000000 in
theorem rfirst_is (l : List UInt8) (h : 0 < l.length) (hl : l.length ≤ 1000) (W : World) : Calls Try.prog 106 #[.string (str l)] W fun e w' => e = .returned (.tuple #[.int .i64 (codeN l (szN l) : Nat), .int .i64 ((max (szN l) 1 : Nat) : Int)]) ∧ ∃ q, w' = W.drewN q := by
  have HR := hid (rsize_is l h hl W)
  have i0 : ∀ w, (Instr.index 9 (.string (str l)) (.int .i64 0)).run Try.prog w = .ok (.int .u8 (nb l 0 : Int)) w := fun w => at_nb l 0 h w
  have HI := hid (fun k hk w => at_nb l k hk w)
  have b0 := nb_lt l 0
  have b1 := nb_lt l 1
  have b2 := nb_lt l 2
  have b3 := nb_lt l 3
  rcases szN_range l with hz | hz | ⟨hz, h0, hn, h1⟩ | ⟨hz, h0, hn, h1, h2⟩ | ⟨hz, h0, h5, hn, h1, h2, h3⟩
  · rw [hz] at HR ⊢
    have HC := hid (codeN_0 l)
    clear hz HI
    go_enter Try.func106, Try.ntmps106
    go_wp2_with fail
    refine HR.out.mono ?_
    rintro e w' ⟨rfl, rfl⟩
    go_wp2
    go_ret2
    exact ⟨by rw [HC.out]; rfl, 0, rfl⟩
  · rw [hz] at HR ⊢
    have HC := hid (codeN_1 l)
    clear hz HI
    generalize nb l 0 = c0 at *
    have w0 : IntKind.i64.wrap (c0 : Int) = (c0 : Int) := by simp [IntKind.wrap, IntKind.bits, IntKind.signed]; omega
    go_enter Try.func106, Try.ntmps106
    go_wp2_with fail
    refine HR.out.mono ?_
    rintro e w' ⟨rfl, rfl⟩
    go_wp2
    go_ret2
    exact ⟨by rw [HC.out]; rfl, 0, rfl⟩
  · rw [hz] at HR ⊢
    have HC := hid (show (codeN l 2 : Int) = ((nb l 0 : Int) - 192) * 64 + (nb l 1 : Int) - 128 by unfold contN at h1; rw [codeN_2]; omega)
    have i1 : ∀ w, (Instr.index 9 (.string (str l)) (.int .i64 1)).run Try.prog w = .ok (.int .u8 (nb l 1 : Int)) w := fun w => at_nb l 1 (by omega) w
    clear hz HI h1
    generalize nb l 0 = c0 at *
    generalize nb l 1 = c1 at *
    have w0 : IntKind.i64.wrap (c0 : Int) = (c0 : Int) := by simp [IntKind.wrap, IntKind.bits, IntKind.signed]; omega
    have w1 : IntKind.i64.wrap (c1 : Int) = (c1 : Int) := by simp [IntKind.wrap, IntKind.bits, IntKind.signed]; omega
    go_enter Try.func106, Try.ntmps106
    go_wp2_with fail
    refine HR.out.mono ?_
    rintro e w' ⟨rfl, rfl⟩
    go_wp2
    go_ret2
    exact ⟨by rw [HC.out]; rfl, 0, rfl⟩
  · rw [hz] at HR ⊢
    have HC := hid (show (codeN l 3 : Int) = ((nb l 0 : Int) - 224) * 4096 + ((nb l 1 : Int) - 128) * 64 + (nb l 2 : Int) - 128 by unfold contN at h1 h2; rw [codeN_3]; omega)
    have i1 : ∀ w, (Instr.index 9 (.string (str l)) (.int .i64 1)).run Try.prog w = .ok (.int .u8 (nb l 1 : Int)) w := fun w => at_nb l 1 (by omega) w
    have i2 : ∀ w, (Instr.index 9 (.string (str l)) (.int .i64 2)).run Try.prog w = .ok (.int .u8 (nb l 2 : Int)) w := fun w => at_nb l 2 (by omega) w
    clear hz HI h1 h2
    generalize nb l 0 = c0 at *
    generalize nb l 1 = c1 at *
    generalize nb l 2 = c2 at *
    have w0 : IntKind.i64.wrap (c0 : Int) = (c0 : Int) := by simp [IntKind.wrap, IntKind.bits, IntKind.signed]; omega
    have w1 : IntKind.i64.wrap (c1 : Int) = (c1 : Int) := by simp [IntKind.wrap, IntKind.bits, IntKind.signed]; omega
    have w2 : IntKind.i64.wrap (c2 : Int) = (c2 : Int) := by simp [IntKind.wrap, IntKind.bits, IntKind.signed]; omega
    go_enter Try.func106, Try.ntmps106
    go_wp2_with fail
    refine HR.out.mono ?_
    rintro e w' ⟨rfl, rfl⟩
    go_wp2
    go_quiet (fail)
    go_wp2
    go_ret2
    exact ⟨by rw [HC.out]; rfl, _, rfl⟩
  · rw [hz] at HR ⊢
    have HC := hid (show (codeN l 4 : Int) = ((nb l 0 : Int) - 240) * 262144 + ((nb l 1 : Int) - 128) * 4096 + ((nb l 2 : Int) - 128) * 64 + (nb l 3 : Int) - 128 by unfold contN at h1 h2 h3; rw [codeN_4]; omega)
    have i1 : ∀ w, (Instr.index 9 (.string (str l)) (.int .i64 1)).run Try.prog w = .ok (.int .u8 (nb l 1 : Int)) w := fun w => at_nb l 1 (by omega) w
    have i2 : ∀ w, (Instr.index 9 (.string (str l)) (.int .i64 2)).run Try.prog w = .ok (.int .u8 (nb l 2 : Int)) w := fun w => at_nb l 2 (by omega) w
    have i3 : ∀ w, (Instr.index 9 (.string (str l)) (.int .i64 3)).run Try.prog w = .ok (.int .u8 (nb l 3 : Int)) w := fun w => at_nb l 3 (by omega) w
    clear hz HI h1 h2 h3
    generalize nb l 0 = c0 at *
    generalize nb l 1 = c1 at *
    generalize nb l 2 = c2 at *
    generalize nb l 3 = c3 at *
    have w0 : IntKind.i64.wrap (c0 : Int) = (c0 : Int) := by simp [IntKind.wrap, IntKind.bits, IntKind.signed]; omega
    have w1 : IntKind.i64.wrap (c1 : Int) = (c1 : Int) := by simp [IntKind.wrap, IntKind.bits, IntKind.signed]; omega
    have w2 : IntKind.i64.wrap (c2 : Int) = (c2 : Int) := by simp [IntKind.wrap, IntKind.bits, IntKind.signed]; omega
    have w3 : IntKind.i64.wrap (c3 : Int) = (c3 : Int) := by simp [IntKind.wrap, IntKind.bits, IntKind.signed]; omega
    go_enter Try.func106, Try.ntmps106
    go_wp2_with fail
    refine HR.out.mono ?_
    rintro e w' ⟨rfl, rfl⟩
    go_wp2
    go_quiet (fail)
    go_wp2
    go_ret2
    exact ⟨by rw [HC.out]; rfl, _, rfl⟩
end Go.Proofs.Ytdphdodjidbngaa

namespace Go.Proofs.Ytdphdodjidbngaa
open Go.RowKit

theorem szN_1 (l : List UInt8) : 1 ≤ max (szN l) 1 := Nat.le_max_right _ _
/-- A rune: where, its number, whether it is one. -/
abbrev Rn := Nat × Nat × Bool
/-- The runes of a text from a place on. -/
def rnF : Nat → List UInt8 → Nat → List Rn
  | 0, _, _ => []
  | f + 1, l, i => if i < l.length then (i, codeN (l.drop i) (szN (l.drop i)), decide (0 < szN (l.drop i))) :: rnF f l (i + max (szN (l.drop i)) 1) else []
def rns (l : List UInt8) (i : Nat) : List Rn := rnF (l.length - i) l i
theorem rnF_more (l : List UInt8) : ∀ (f i : Nat), l.length - i ≤ f → rnF f l i = rns l i
  | 0, i, h => by
    have e : l.length - i = 0 := by omega
    rw [rns, e]
  | f + 1, i, h => by
    by_cases hi : i < l.length
    · obtain ⟨m, hm⟩ : ∃ m, l.length - i = m + 1 := ⟨l.length - i - 1, by omega⟩
      have h1 := szN_1 (l.drop i)
      rw [rns, hm, rnF, rnF, if_pos hi, if_pos hi, rnF_more l f _ (by omega), rnF_more l m _ (by omega)]
    · have e : l.length - i = 0 := by omega
      rw [rns, e, show rnF 0 l i = [] from rfl, rnF, if_neg hi]
theorem rns_step (l : List UInt8) (i : Nat) (h : i < l.length) : rns l i = (i, codeN (l.drop i) (szN (l.drop i)), decide (0 < szN (l.drop i))) :: rns l (i + max (szN (l.drop i)) 1) := by
  obtain ⟨m, hm⟩ : ∃ m, l.length - i = m + 1 := ⟨l.length - i - 1, by omega⟩
  have h1 := szN_1 (l.drop i)
  rw [rns, hm, rnF, if_pos h, rnF_more l m _ (by omega)]
theorem rns_end (l : List UInt8) (i : Nat) (h : l.length ≤ i) : rns l i = [] := by
  have e : l.length - i = 0 := by omega
  rw [rns, e]; rfl
theorem rns_len (l : List UInt8) : ∀ (f i : Nat), (rnF f l i).length ≤ f
  | 0, i => Nat.le_refl _
  | f + 1, i => by
    rw [rnF]
    split
    · have := rns_len l f (i + max (szN (l.drop i)) 1)
      rw [List.length_cons]; omega
    · exact Nat.zero_le _
theorem rns_le (l : List UInt8) (i : Nat) : (rns l i).length ≤ l.length - i := rns_len l _ i
/-- A rune that a name may have. -/
def okR (r : Rn) : Bool := r.2.2 && decide (LetP (r.2.1 : Int))
theorem let_wrong : ¬ LetP 65533 := by unfold LetP; omega
/-- Whether the number alone is a letter's says it too: a wrong byte's number is none. -/
theorem okR_let (l : List UInt8) (i : Nat) : okR (i, codeN (l.drop i) (szN (l.drop i)), decide (0 < szN (l.drop i))) = decide (LetP (codeN (l.drop i) (szN (l.drop i)) : Int)) := by
  unfold okR
  by_cases h : 0 < szN (l.drop i)
  · simp [h]
  · have e : szN (l.drop i) = 0 := by omega
    rw [e, codeN_0]
    have := let_wrong
    simp [this]
def nameR (rs : List Rn) : Bool := rs.all okR && (decide (0 < rs.length) && decide (rs.length ≤ 16) && (match rs with | [] => false | r :: _ => decide (57 < r.2.1)))
/-- As the package counts. -/
def gN : Nat → List Rn → Bool
  | n, [] => decide (0 < n)
  | n, r :: rs => if ¬ LetP (r.2.1 : Int) ∨ (n = 0 ∧ DigP (r.2.1 : Int)) ∨ n = 16 then false else gN (n + 1) rs
theorem gN_more : ∀ (rs : List Rn) (n : Nat), 0 < n → n ≤ 16 → (∀ r ∈ rs, okR r = decide (LetP (r.2.1 : Int))) → gN n rs = (rs.all okR && decide (n + rs.length ≤ 16))
  | [], n, h, h16, _ => by simp [gN, h, h16]
  | r :: rs, n, h, h16, ho => by
    have h1 := ho r (List.mem_cons_self ..)
    rw [gN, List.all_cons, h1]
    by_cases hl : LetP (r.2.1 : Int)
    · by_cases h6 : n = 16
      · rw [if_pos (.inr (.inr h6)), decide_eq_false (show ¬ n + (r :: rs).length ≤ 16 by rw [List.length_cons]; omega), Bool.and_false]
      · rw [if_neg (by rintro (h9 | h9 | h9); exact h9 hl; omega; exact h6 h9), gN_more rs (n + 1) (by omega) (by omega) (fun q hq => ho q (List.mem_cons_of_mem _ hq)), decide_eq_true hl, Bool.true_and, List.length_cons, show n + 1 + rs.length = n + (rs.length + 1) by omega]
    · rw [if_pos (.inl hl), decide_eq_false hl]; rfl
theorem gN_name (rs : List Rn) (ho : ∀ r ∈ rs, okR r = decide (LetP (r.2.1 : Int))) : gN 0 rs = nameR rs := by
  cases rs with
  | nil => rfl
  | cons r rs =>
    have h1 := ho r (List.mem_cons_self ..)
    rw [gN, nameR, List.all_cons, h1]
    by_cases hl : LetP (r.2.1 : Int)
    · by_cases hd : DigP (r.2.1 : Int)
      · rw [if_pos (.inr (.inl ⟨rfl, hd⟩))]
        have : ¬ 57 < r.2.1 := by unfold DigP at hd; omega
        simp [this]
      · rw [if_neg (by rintro (h9 | h9 | h9); exact h9 hl; exact hd h9.2; omega), gN_more rs 1 (by omega) (by omega) (fun q hq => ho q (List.mem_cons_of_mem _ hq)), decide_eq_true hl, Bool.true_and]
        have h57 : 57 < r.2.1 := by unfold DigP at hd; unfold LetP at hl; omega
        simp [h57, Nat.add_comm]
    · rw [if_pos (.inl hl), decide_eq_false hl]; rfl
theorem rnF_ok (l : List UInt8) : ∀ (f i : Nat), ∀ r ∈ rnF f l i, okR r = decide (LetP (r.2.1 : Int))
  | 0, i, r, h => by simp [rnF] at h
  | f + 1, i, r, h => by
    rw [rnF] at h
    split at h
    · rw [List.mem_cons] at h
      rcases h with rfl | h
      · exact okR_let l i
      · exact rnF_ok l f _ r h
    · cases h
theorem name_eq (l : List UInt8) : gN 0 (rns l 0) = nameR (rns l 0) := gN_name _ (rnF_ok l _ _)
/-- The cells of runes. -/
def rcells (rs : List Rn) : List Value := rs.flatMap fun r => [.int .i64 (r.1 : Nat), .int .i64 (r.2.1 : Nat), .bool r.2.2]
theorem rcells_length (rs : List Rn) : (rcells rs).length = rs.length * 3 := by
  induction rs with
  | nil => rfl
  | cons r rs ih => rw [show rcells (r :: rs) = .int .i64 (r.1 : Nat) :: .int .i64 (r.2.1 : Nat) :: .bool r.2.2 :: rcells rs from rfl]; simp only [List.length_cons, ih]; omega
theorem rcells_one (rs : List Rn) : ∀ u ∈ rcells rs, u.oneCell' = true := by
  induction rs with
  | nil => simp [rcells]
  | cons r rs ih =>
    intro u hu
    rw [show rcells (r :: rs) = .int .i64 (r.1 : Nat) :: .int .i64 (r.2.1 : Nat) :: .bool r.2.2 :: rcells rs from rfl, List.mem_cons, List.mem_cons, List.mem_cons] at hu
    rcases hu with rfl | rfl | rfl | hu
    · rfl
    · rfl
    · rfl
    · exact ih u hu
theorem rcells_append (a b : List Rn) : rcells (a ++ b) = rcells a ++ rcells b := by simp [rcells]
theorem rcells_get : ∀ (l : List Rn) (k : Nat) (h : k < l.length), (rcells l)[k * 3 + 1]? = some (.int .i64 (l[k].2.1 : Nat)) ∧ (rcells l)[k * 3 + 2]? = some (.bool l[k].2.2)
  | r :: l, 0, _ => ⟨rfl, rfl⟩
  | r :: l, k + 1, h => by
    have ih := rcells_get l k (by simpa using h)
    rw [show rcells (r :: l) = .int .i64 (r.1 : Nat) :: .int .i64 (r.2.1 : Nat) :: .bool r.2.2 :: rcells l from rfl, show (k + 1) * 3 + 1 = k * 3 + 1 + 1 + 1 + 1 by omega, show (k + 1) * 3 + 2 = k * 3 + 2 + 1 + 1 + 1 by omega]
    simpa using ih
end Go.Proofs.Ytdphdodjidbngaa

namespace Go.Proofs.Ytdphdodjidbngaa
open Go.RowKit
set_option linter.unusedVariables false
set_option linter.unusedSimpArgs false

theorem str_drop2 (l : List UInt8) (u : Nat) (h : u ≤ l.length) : (str l).extract u l.length = str (l.drop u) := by
  apply ByteArray.ext
  simp [str, ByteArray.data_extract, List.take_of_length_le]
theorem sl_str (l : List UInt8) (k : Nat) (hk : k ≤ l.length) (w : World) : (Instr.slice 9 (.string (str l)) (some (.int .i64 (k : Int))) none none).run Try.prog w = .ok (.string (str (l.drop k))) w := by
  rw [run_slice_string_l w 9 (str l) Try.underlying9 .i64 (k : Int) (by omega) (by rw [str_size]; omega), Int.toNat_natCast, str_size, str_drop2 l k hk]
theorem info_rune : (Try.prog.info? 151).map (fun i => (i.zero, i.size, i.bytes)) = some (some (.agg #[.int .i64 0, .int .i64 0, .bool false]), 3, 24) := by kernel_rfl
theorem below_drewN1 (W : World) (q : Nat) : Below W.heap.size W (W.drewN q) := ⟨rfl, rfl, rfl, Nat.le_refl _, fun _ _ => rfl⟩

set_option maxRecDepth 20000 in
set_option maxHeartbeats 8000000 in
theorem rrunes_is (l : List UInt8) (hl : l.length ≤ 1000) (W : World) : Calls Try.prog 71 #[.string (str l)] W fun e w' => ∃ A c, e = .returned (.slice A (rns l 0).length c) ∧ w'.ownsRow W.heap.size 151 3 (.slice A (rns l 0).length c) (rns l 0).length (rcells (rns l 0)) ∧ Below W.heap.size W w' := by
  have hls : ((str l).size : Int) ≤ 1000 := by rw [str_size]; omega
  have HSZ := hid (str_size l)
  go_enter Try.func71, Try.ntmps71
  go_wp2_with fail
  go_loopw [3, 4] (fun v i wr => ∃ (k : Nat) (rs : List Rn), k ≤ l.length ∧ i = .int .i64 (k : Int) ∧ Hid (rs ++ rns l k = rns l 0) ∧ rs.length ≤ k ∧ Hid (wr.ownsRow W.heap.size 151 3 v rs.length (rcells rs)) ∧ Hid (Below W.heap.size W wr)) (fun _ i _ => l.length - (intOf i).toNat)
  case atStart => exact ⟨0, [], by omega, rfl, rfl, Nat.le_refl _, World.ownsRow_nil _ _ _ _, Below.refl _ _⟩
  case round =>
    obtain ⟨k, rs, hk, rfl, HR, hrk, HO, HB⟩ := hrel
    by_cases hlt : k < l.length
    · have hlt2 : (k : Int) < ((str l).size : Int) := by rw [HSZ.out]; omega
      have hsl := sl_str l k (by omega)
      have HF := hid (rfirst_is (l.drop k) (by rw [List.length_drop]; omega) (by rw [List.length_drop]; omega))
      have HZ := hid (rsize_is (l.drop k) (by rw [List.length_drop]; omega) (by rw [List.length_drop]; omega))
      have HST := hid (rns_step l k hlt)
      have hmm : 1 ≤ max (szN (l.drop k)) 1 := szN_1 _
      have hmx : k + max (szN (l.drop k)) 1 ≤ l.length := by
        have := (szN_le (l.drop k) (by rw [List.length_drop]; omega)).1
        rw [List.length_drop] at this
        omega
      generalize max (szN (l.drop k)) 1 = mm at *
      have HCZ := hid (codeN_0 (l.drop k))
      generalize codeN (l.drop k) (szN (l.drop k)) = cc at *
      generalize szN (l.drop k) = ss at *
      have hk9 : (k : Int) + (mm : Int) ≤ 1000 := by omega
      rcases (by omega : ss = 0 ∨ 0 < ss) with hs | hs
      case' inl =>
        have e1 : decide ((0 : Int) < (ss : Int)) = false := decide_eq_false (by omega)
        have HBB := hid (show decide (0 < ss) = false from decide_eq_false (by omega))
        rw [HBB.out] at HST
      case' inr =>
        have e1 : decide ((0 : Int) < (ss : Int)) = true := decide_eq_true (by omega)
        have HBB := hid (show decide (0 < ss) = true from decide_eq_true hs)
        rw [HBB.out] at HST
      all_goals
        clear hlt hs
        go_upto_region 5 with (go_at_call 106; refine (HF.out _).mono ?_; rintro e w' ⟨rfl, q, rfl⟩)
        refine at_world (fun w => w.ownsRow W.heap.size 151 3 u3 rs.length (rcells rs) ∧ Below W.heap.size W w) ⟨own_keep HO.out (below_drewN1 wr _), HB.out.trans ((below_drewN1 wr _).mono HB.out.size)⟩ ?_
        rintro w2 ⟨ho2, hb2⟩
        have HO2 := hid ho2
        have HB2 := hid hb2
        clear ho2 hb2 HO HB HF HCZ
        have hrk2 : rs.length + 1 ≤ k + mm := by omega
        have hr1 : rs.length + 1 ≤ 1001 := by omega
        go_wp2_with (first
          | (go_at_call 107; refine (HZ.out _).mono ?_; rintro e w' ⟨rfl, rfl⟩)
          | (at_builtin; refine wpList_append_1 (W := W) rfl (.tmp 18) (.tmp 27) 148 rfl W.heap.size 151 Try.underlying148 info_rune rfl (by omega) rfl HO2.out rfl rfl (by simp; first | exact ⟨rfl, rfl, rfl⟩ | rfl) ?c1 ?c2 HB2.out.size HB2.out ?_))
        case c1 => unfold maxLen; omega
        case c2 => omega
        intro v' w' h2 h3 h4
        have HO3 := hid h2
        clear h2
        go_wp2
        go_roundw
        case rel => exact ⟨k + mm, rs ++ [(k, cc, decide (0 < ss))], by omega, by go_num, by rw [Hid, List.append_assoc, HBB.out, ← HR.out, HST.out]; rfl, by rw [List.length_append]; exact hrk2, by rw [Hid, List.length_append, rcells_append]; exact HO3.out, h3⟩
        case measure => simp [intOf]; omega
    · obtain rfl : k = l.length := by omega
      have hge : ((str l).size : Int) ≤ ((l.length : Nat) : Int) := by rw [HSZ.out]; omega
      have HE := hid (rns_end l l.length (Nat.le_refl _))
      go_wp2
      go_ret
      have hr := HR.out
      rw [HE.out, List.append_nil] at hr
      have hO := HO.out
      rw [hr] at hO
      obtain ⟨A9, c9, rfl, _⟩ := Sl.of_own hO
      exact ⟨A9, c9, rfl, hO, HB.out⟩
end Go.Proofs.Ytdphdodjidbngaa

namespace Go.Proofs.Ytdphdodjidbngaa
open Go.RowKit
set_option linter.unusedVariables false
set_option linter.unusedSimpArgs false

theorem nameR_bad (rs : List Rn) (k : Nat) (hk : k < rs.length) (h : okR rs[k] = false) : nameR rs = false := by
  have : rs.all okR = false := by
    rw [Bool.eq_false_iff]
    intro h2
    rw [List.all_eq_true] at h2
    have := h2 _ (List.getElem_mem hk)
    rw [h] at this
    cases this
  rw [nameR.eq_def, this, Bool.false_and]
theorem nameR_long (rs : List Rn) (h : 16 < rs.length) : nameR rs = false := by
  rw [nameR.eq_def, decide_eq_false (show ¬ rs.length ≤ 16 by omega), Bool.and_false, Bool.false_and, Bool.and_false]
theorem nameR_ok (rs : List Rn) (h0 : 0 < rs.length) (h : rs.length ≤ 16) (ho : ∀ j (hj : j < rs.length), okR rs[j] = true) : nameR rs = decide (57 < (rs[0]).2.1) := by
  have : rs.all okR = true := by
    rw [List.all_eq_true]
    intro r hr
    obtain ⟨j, hj, rfl⟩ := List.getElem_of_mem hr
    exact ho j hj
  cases rs with
  | nil => exact absurd h0 (by simp)
  | cons r rs => rw [nameR, this, decide_eq_true h0, decide_eq_true h]; rfl
theorem Sl.rune {w : World} {b off len cap : Nat} {l : List Rn} (h : Sl w 3 (some ⟨b, off, none⟩) len cap (rcells l)) (k : Nat) (hk : k < l.length) :
    w.cell? ⟨b, off + k * 3 + 1, none⟩ = some (.int .i64 (l[k].2.1 : Nat)) ∧ w.cell? ⟨b, off + k * 3 + 2, none⟩ = some (.bool l[k].2.2) := by
  have hl := rcells_length l
  obtain ⟨b', off', ha, hc⟩ := h.2.2.2 (by omega)
  cases ha
  obtain ⟨g1, g2⟩ := rcells_get l k hk
  exact ⟨by rw [Nat.add_assoc, hc _ (by omega), g1], by rw [Nat.add_assoc, hc _ (by omega), g2]⟩
theorem Sl.addr3 {w : World} {size : Nat} {A : Option Addr} {len cap : Nat} {xs : List Value} (h : Sl w size A len cap xs) (h0 : 0 < xs.length) : ∃ b off, A = some ⟨b, off, none⟩ := by
  obtain ⟨b, off, h1, _⟩ := h.2.2.2 h0
  exact ⟨b, off, h1⟩

end Go.Proofs.Ytdphdodjidbngaa

namespace Go.Proofs.Ytdphdodjidbngaa
open Go.RowKit Go.Sort
set_option linter.unusedVariables false
set_option linter.unusedSimpArgs false

def low (b : UInt8) : UInt8 := if 65 ≤ b.toNat ∧ b.toNat ≤ 90 then b + 32 else b
theorem low_cap (b : UInt8) (h : 65 ≤ b.toNat ∧ b.toNat ≤ 90) : ((low b).toNat : Int) = (b.toNat : Int) + 32 := by
  rw [low, if_pos h, UInt8.toNat_add]
  have : (32 : UInt8).toNat = 32 := rfl
  rw [this]
  omega
theorem low_not (b : UInt8) (h : ¬ (65 ≤ b.toNat ∧ b.toNat ≤ 90)) : ((low b).toNat : Int) = (b.toNat : Int) := by rw [low, if_neg h]
theorem take_low (l : List UInt8) (k : Nat) (hk : k < l.length) : (l.take (k + 1)).map low = (l.take k).map low ++ [low (l.getD k 0)] := by
  rw [List.take_add_one, List.getElem?_eq_getElem hk, List.getD_eq_getElem?_getD, List.getElem?_eq_getElem hk, Option.toList_some, List.map_append]
  rfl
theorem convSg {w : World} {a : Option Addr} {n cap : Nat} {l : List UInt8} (h : IsBytes w a n cap l) : (convert 85 9 (.slice a n cap)).run Try.prog w = .ok (.string (str l)) w :=
  conv_str (P := Try.prog) (src := 85) (dst := 9) Try.underlying85 Try.underlying5 Try.underlying9 h
theorem conv_one (b : UInt8) (x : Int) (hx : ((b.toNat : Nat) : Int) = x) (w : World) : (convert 85 9 (.slice (some ⟨w.heap.size, 0, none⟩) 1 1)).run Try.prog (w.alloc (.cells #[.int .u8 x] 5)) = .ok (.string (str [b])) (w.alloc (.cells #[.int .u8 x] 5)) := by
  subst hx
  exact convSg (l := [b]) (Sl.lit w 5 1 1 #[.int .u8 (b.toNat : Int)] rfl (by unfold maxLen; omega))

end Go.Proofs.Ytdphdodjidbngaa

namespace Go.Proofs.Ytdphdodjidbngaa
open Go.RowKit Go.Sort
set_option linter.unusedVariables false
set_option linter.unusedSimpArgs false

/-- Block G holds these bytes, that a conversion has made. -/
def BRow (w : World) (G c : Nat) (l : List UInt8) : Prop := ∃ cs : Array Value, w.heap[G]? = some (.cells cs 5 (cs.size, cs.size + 1)) ∧ l.length ≤ cs.size ∧ l.length ≤ c ∧ c ≤ maxLen ∧ ∀ i, i < l.length → cs[i]? = some (.int .u8 ((l.getD i 0).toNat : Int))
theorem BRow.cell {w : World} {G c : Nat} {l : List UInt8} (h : BRow w G c l) (i : Nat) (hi : i < l.length) : w.cell? ⟨G, i, none⟩ = some (.int .u8 ((l.getD i 0).toNat : Int)) ∧ w.frozen? ⟨G, i, none⟩ = false := by
  obtain ⟨cs, h1, h2, h3, h4, h5⟩ := h
  refine ⟨by rw [cell_of_row w G i cs _ _ h1, h5 i hi], ?_⟩
  simp only [World.frozen?, h1]
  rw [Bool.and_eq_false_iff]
  exact .inl (decide_eq_false (by omega))
theorem BRow.bytes {w : World} {G c : Nat} {l : List UInt8} (h : BRow w G c l) : IsBytes w (some ⟨G, 0, none⟩) l.length c l := by
  obtain ⟨cs, h1, h2, h3, h4, h5⟩ := h
  refine ⟨by rw [bcells_length, Nat.mul_one], h3, h4, fun _ => ⟨G, 0, rfl, fun i hi => ?_⟩⟩
  rw [bcells_length] at hi
  rw [cell_of_row w G (0 + i) cs _ _ h1, Nat.zero_add, h5 i hi]
  simp [bcells, hi]
theorem BRow.below {w w' : World} {G c : Nat} {l : List UInt8} (h : BRow w G c l) (hb : Below w.heap.size w w') : BRow w' G c l := by
  obtain ⟨cs, h1, h2⟩ := h
  exact ⟨cs, keep0 h1 hb, h2⟩
theorem BRow.set {w : World} {G c : Nat} {l : List UInt8} (h : BRow w G c l) (i : Nat) (d : UInt8) (hi : i < l.length) : BRow (w.setCell ⟨G, i, none⟩ (.int .u8 (d.toNat : Int))) G c (l.set i d) := by
  obtain ⟨cs, h1, h2, h3, h4, h5⟩ := h
  refine ⟨cs.setIfInBounds i (.int .u8 (d.toNat : Int)), ?_, by simpa using h2, by simpa using h3, h4, fun j hj => ?_⟩
  · simp [World.setCell, Array.getElem?_modify, h1]
  · rw [List.length_set] at hj
    rw [Array.getElem?_setIfInBounds, List.getD_eq_getElem?_getD, List.getElem?_set]
    by_cases e : i = j
    · subst e
      rw [if_pos rfl, if_pos (by omega), if_pos rfl, if_pos hi]
      rfl
    · rw [if_neg e, if_neg e, h5 j hj, List.getD_eq_getElem?_getD]
theorem bytes_brow (W : World) (s : ByteArray) (hs : s.size ≤ 100000) : ∃ w' c, (convert 9 85 (.string s)).run Try.prog W = .ok (.slice (some ⟨W.heap.size, 0, none⟩) s.size c) w' ∧ BRow w' W.heap.size c s.data.toList ∧ Below W.heap.size W w' ∧ W.heap.size < w'.heap.size := by
  have hsz : s.data.toList.length = s.size := by rw [Array.length_toList]; rfl
  refine ⟨_, _, run_bytes_of_string (P := Try.prog) W 9 85 5 s Try.underlying9 Try.underlying85 Try.underlying5, ⟨bytesRow s (grownCap W s.size 0 5), ?_, ?_, ?_, ?_, fun i hi => ?_⟩, ?_, ?_⟩
  · have := heap_alloc_new W.drew (.cells (bytesRow s (grownCap W s.size 0 5)) 5 ((bytesRow s (grownCap W s.size 0 5)).size, (bytesRow s (grownCap W s.size 0 5)).size + 1))
    simpa using this
  · rw [hsz]
    have : ∀ i, i < s.size → i < (bytesRow s (grownCap W s.size 0 5)).size := fun i hi => by
      have h1 := bytesRow_at s (grownCap W s.size 0 5) i hi
      exact (Array.getElem?_eq_some_iff.1 h1).1
    rcases Nat.eq_zero_or_pos s.size with h0 | h0
    · omega
    · have := this (s.size - 1) (by omega); omega
  · rw [hsz]; exact grownCap_ge W s.size 0 5
  · exact grownCap_le_maxLen W s.size 0 5 (by unfold maxLen; omega)
  · rw [hsz] at hi
    rw [bytesRow_at s _ i hi, List.getD_eq_getElem?_getD, List.getElem?_eq_getElem (by rw [hsz]; exact hi)]
    simp
  · exact Below.trans (⟨rfl, rfl, rfl, Nat.le_refl _, fun _ _ => rfl⟩ : Below W.heap.size W W.drew) ((Below.refl W.heap.size W.drew).alloc (Nat.le_refl W.heap.size) _)
  · simp

end Go.Proofs.Ytdphdodjidbngaa

namespace Go.Proofs.Ytdphdodjidbngaa
open Go.RowKit Go.Sort
set_option linter.unusedVariables false
set_option linter.unusedSimpArgs false

/-- Folded up to a place. -/
def mix (l : List UInt8) (k : Nat) : List UInt8 := (l.take k).map low ++ l.drop k
theorem mix_len (l : List UInt8) (k : Nat) : (mix l k).length = l.length := by
  rw [mix, List.length_append, List.length_map, List.length_take, List.length_drop]; omega
theorem mix_get (l : List UInt8) (k : Nat) (hk : k < l.length) : (mix l k).getD k 0 = l.getD k 0 := by
  rw [mix, List.getD_eq_getElem?_getD, List.getElem?_append_right (by rw [List.length_map, List.length_take]; omega), List.length_map, List.length_take, List.getElem?_drop, show k + (k - min k l.length) = k by omega, List.getD_eq_getElem?_getD]
theorem mix_set (l : List UInt8) (k : Nat) (hk : k < l.length) : (mix l k).set k (low (l.getD k 0)) = mix l (k + 1) := by
  have h1 : ((l.take k).map low).length = k := by rw [List.length_map, List.length_take]; omega
  rw [mix, mix, take_low l k hk, List.set_append_right _ _ (by omega), h1, Nat.sub_self, List.drop_eq_getElem_cons hk, List.set_cons_zero, List.append_assoc]
  rfl
theorem mix_same (l : List UInt8) (k : Nat) (hk : k < l.length) (h : low (l.getD k 0) = l.getD k 0) : mix l (k + 1) = mix l k := by
  rw [mix, mix, take_low l k hk, h, List.drop_eq_getElem_cons hk, List.append_assoc, List.getD_eq_getElem?_getD, List.getElem?_eq_getElem hk]
  rfl
theorem mix_0 (l : List UInt8) : mix l 0 = l := by simp [mix]
theorem mix_all (l : List UInt8) : mix l l.length = l.map low := by simp [mix]

end Go.Proofs.Ytdphdodjidbngaa

namespace Go.Proofs.Ytdphdodjidbngaa
open Go.RowKit
set_option linter.unusedVariables false
set_option linter.unusedSimpArgs false

theorem gN_step (n : Nat) (r : Rn) (rs : List Rn) : gN n (r :: rs) = if ¬ LetP (r.2.1 : Int) ∨ (n = 0 ∧ DigP (r.2.1 : Int)) ∨ n = 16 then false else gN (n + 1) rs := rfl

end Go.Proofs.Ytdphdodjidbngaa

namespace Go.Proofs.Ytdphdodjidbngaa
open Go.RowKit Go.Sort
set_option linter.unusedVariables false
set_option linter.unusedSimpArgs false

set_option maxRecDepth 20000 in
theorem count_is (l : List UInt8) (hl : l.length ≤ 1000) (w : World) : Calls Try.prog 52 #[.string (str l)] w fun e w' => e = .returned (.int .i64 ((rns l 0).length : Nat)) ∧ Below w.heap.size w w' := by
  have HSZ := hid (str_size l)
  have hn : (rns l 0).length ≤ 1000 := by have := rns_le l 0; omega
  generalize hs : str l = s at *
  have HS := hid hs
  clear hs
  go_enter Try.func52, Try.ntmps52
  go_wp2
  go_loopw [3] (fun n w' => ∃ (pos c : Nat), w' = w.iter s pos ∧ n = .int .i64 (c : Int) ∧ Hid (c + (rns l pos).length = (rns l 0).length)) (fun _ w' => s.size - w'.iterPos w.heap.size)
  case atStart => exact ⟨0, 0, rfl, rfl, Nat.zero_add _⟩
  case round =>
    obtain ⟨pos, c, rfl, rfl, HG⟩ := hrel
    have hc : c ≤ 1000 := by have := HG.out; omega
    by_cases hp : pos < s.size
    · have hpl : pos < l.length := by have := HSZ.out; omega
      have hdc : Utf8.decode s pos = (codeN (l.drop pos) (szN (l.drop pos)), max (szN (l.drop pos)) 1) := by
        rw [← HS.out, decode_drop, dec_sz _ (by rw [List.length_drop]; omega)]
      have hnx : ∀ ty, (Instr.next (.pointer (some ⟨w.heap.size, 0, none⟩)) true ty).run Try.prog (w.iter s pos) = .ok (.tuple #[.bool true, .int .i64 (pos : Int), .int .i32 ((codeN (l.drop pos) (szN (l.drop pos)) : Nat) : Int)]) (w.iter s (pos + max (szN (l.drop pos)) 1)) := fun ty => by
        rw [run_next_any w s pos ty hp, hdc]
      have hwd : 1 ≤ max (szN (l.drop pos)) 1 := szN_1 _
      have hst := rns_step l pos hpl
      have HG2 : Hid (c + 1 + (rns l (pos + max (szN (l.drop pos)) 1)).length = (rns l 0).length) := hid (by
        have h1 := HG.out
        rw [hst, List.length_cons] at h1
        omega)
      clear hdc hst HG
      generalize max (szN (l.drop pos)) 1 = mm at *
      generalize codeN (l.drop pos) (szN (l.drop pos)) = cc at *
      go_wp2
      refine ⟨⟨_, c + 1, rfl, by go_num, HG2.out⟩, ?_⟩
      rw [World.iterPos_iter, World.iterPos_iter]
      omega
    · have hnx : ∀ ty, (Instr.next (.pointer (some ⟨w.heap.size, 0, none⟩)) true ty).run Try.prog (w.iter s pos) = _ := fun ty => run_next_end w s pos ty hp
      have HE := hid (show (rns l 0).length = c by have h1 := HG.out; rw [rns_end l pos (by have := HSZ.out; omega)] at h1; exact h1.symm)
      clear HG
      go_wp2
      go_ret
      exact ⟨by rw [HE.out]; rfl, (Below.refl _ _).alloc (Nat.le_refl _) _⟩

theorem ex_count : (rns [103, 114, 195, 182, 195, 159, 101] 0).length = 5 := by kernel_rfl
theorem ex_name : gN 0 (rns [103, 114, 195, 182, 195, 159, 101] 0) = true := by kernel_rfl
theorem ex_name2 : gN 0 (rns [50, 97] 0) = false := by kernel_rfl

theorem s_word : str [103, 114, 195, 182, 195, 159, 101] = ⟨#[103, 114, 195, 182, 195, 159, 101]⟩ := rfl
theorem s_two : str [50, 97] = ⟨#[50, 97]⟩ := rfl
theorem ct_word (w : World) : Calls Try.prog 52 #[.string ⟨#[103, 114, 195, 182, 195, 159, 101]⟩] w fun e w' => e = .returned (.int .i64 5) ∧ Below w.heap.size w w' := by
  have h := count_is [103, 114, 195, 182, 195, 159, 101] (by simp) w
  rw [ex_count, s_word] at h
  exact h
end Go.Proofs.Ytdphdodjidbngaa
