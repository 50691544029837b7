/- Admit: maths. -/
import Derived.Test.YthohedadmfbahaaDoorQAdV
import Derived.Test.YthohedadmfbahaaDoorQAdU
import Derived.Test.YthohedadmfbahaaDoorQAdI
namespace Go.Proofs.YthohedadmfbahaaDoor
open Go.RowKit
set_option linter.unusedVariables false
set_option linter.unusedSimpArgs false

abbrev Wk := Int × Int × Nat
def wkc (x : Wk) : List Value := [.int .i64 x.1, .int .i64 x.2.1, .int .u64 (x.2.2 : Nat)]
def atW (ws : List Wk) (i : Nat) : Nat := (ws.getD i (0, 0, 0)).2.2
def hvU (ws : List Wk) (a : Int) : Nat → Nat
  | 0 => 0
  | k + 1 => if hasS (atW ws k) a then withS (hvU ws a k) (k : Nat) else hvU ws a k
theorem hvU_lt (ws : List Wk) (a : Int) : ∀ n, hvU ws a n < 18446744073709551616
  | 0 => by simp [hvU]
  | k + 1 => by
    rw [hvU]
    split
    · exact withS_lt _ _ (hvU_lt ws a k)
    · exact hvU_lt ws a k
theorem hvU_bit (ws : List Wk) (a : Int) (i : Nat) : ∀ n, n ≤ 64 → (hvU ws a n).testBit i = (decide (i < n) && hasS (atW ws i) a)
  | 0, _ => by simp [hvU]
  | k + 1, hn => by
    have ih := hvU_bit ws a i k (by omega)
    rw [hvU]
    by_cases hi : i = k
    · subst hi
      by_cases h : hasS (atW ws i) a = true
      · rw [if_pos h, withS, Nat.testBit_or, ih, bitN_bit, h]
        simp; omega
      · rw [if_neg h, ih]
        simp at h
        simp [h]
    · have e : decide (i < k + 1) = decide (i < k) := by rw [decide_eq_decide]; omega
      rw [e]
      split
      · rw [withS, Nat.testBit_or, ih, bitN_bit, decide_eq_false (p := ((i : Int) = (k : Nat))) (by omega)]
        simp
      · exact ih
theorem valS_bit (r : Int → Nat) (at' : Nat → Nat) (n : Nat) (hn : n ≤ 64) (h : ∀ a i, 0 ≤ a → a < 16 → i < n → (r a).testBit i = hasS (at' i) a) : ∀ (t : Nt), t.wf → ∀ i, i < n → (valS r t).testBit i = t.holds (at' i)
  | .yes, _, i, hi => by
    have := Nat.testBit_two_pow_sub_one 64 i
    rw [valS, show (18446744073709551615 : Nat) = 2 ^ 64 - 1 by decide, this]
    simp [Nt.holds]; omega
  | .attr a, hw, i, hi => h a i hw.1 hw.2 hi
  | .not t, hw, i, hi => by
    have h1 := Nat.testBit_two_pow_sub_one 64 i
    have ih := valS_bit r at' n hn h t hw i hi
    rw [valS, Nat.testBit_xor, ih, show (18446744073709551615 : Nat) = 2 ^ 64 - 1 by decide, h1, Nt.holds, decide_eq_true (show i < 64 by omega)]
    simp
  | .pair op a b, hw, i, hi => by
    have iha := valS_bit r at' n hn h a hw.2.1 i hi
    have ihb := valS_bit r at' n hn h b hw.2.2 i hi
    rw [valS, Nt.holds]
    split
    · rw [Nat.testBit_and, iha, ihb]
    · rw [Nat.testBit_or, iha, ihb]
theorem valL_lt {r : Int → Nat} (hr : ∀ n, r n < 18446744073709551616) (l : List (Int × Int)) : valL r l < 18446744073709551616 := by
  unfold valL
  split
  · split
    · exact valS_lt hr _
    · decide
  · decide
theorem valL_bit (r : Int → Nat) (at' : Nat → Nat) (n : Nat) (hn : n ≤ 64) (h : ∀ a i, 0 ≤ a → a < 16 → i < n → (r a).testBit i = hasS (at' i) a) (l : List (Int × Int)) (i : Nat) (hi : i < n) : (valL r l).testBit i = sayN l (at' i) := by
  unfold valL sayN
  by_cases hc : chkN l = 0
  · rw [if_pos hc, if_pos hc]
    obtain ⟨t, hw, _, _, _, hr⟩ := chkN_zero hc
    rw [hr]
    exact valS_bit r at' n hn h t hw i hi
  · rw [if_neg hc, if_neg hc]
    simp
theorem ext64 {a b : Nat} (ha : a < 18446744073709551616) (hb : b < 18446744073709551616) (h : ∀ i, i < 64 → a.testBit i = b.testBit i) : a = b := by
  apply Nat.eq_of_testBit_eq
  intro i
  by_cases hi : i < 64
  · exact h i hi
  · rw [bit_high ha (by omega), bit_high hb (by omega)]
/-- Which workers a need admits. -/
def wkS (l : List (Int × Int)) (ws : List Wk) : Nat := valL (fun a => hvU (ws.take 64) a (ws.take 64).length) l &&& belowS ((ws.take 64).length : Nat)
def rwU (l : List (Int × Int)) (ws : List Wk) : Nat → List Int
  | 0 => []
  | k + 1 => rwU l ws k ++ if sayN l (atW ws k) then [(k : Int)] else []
theorem rwU_len (l : List (Int × Int)) (ws : List Wk) : ∀ n, (rwU l ws n).length ≤ n
  | 0 => by simp [rwU]
  | k + 1 => by
    have := rwU_len l ws k
    rw [rwU, List.length_append]
    split <;> simp <;> omega
theorem rwU_mem (l : List (Int × Int)) (ws : List Wk) (x : Int) : ∀ n, x ∈ rwU l ws n ↔ ∃ i : Nat, i < n ∧ x = (i : Int) ∧ sayN l (atW ws i) = true
  | 0 => by simp [rwU]
  | k + 1 => by
    rw [rwU, List.mem_append, rwU_mem l ws x k]
    constructor
    · rintro (⟨i, h1, h2, h3⟩ | h)
      · exact ⟨i, by omega, h2, h3⟩
      · split at h
        · rename_i hs
          rw [List.mem_singleton] at h
          exact ⟨k, by omega, h, hs⟩
        · simp at h
    · rintro ⟨i, h1, h2, h3⟩
      by_cases hik : i = k
      · subst hik
        exact .inr (by rw [if_pos h3, h2]; simp)
      · exact .inl ⟨i, by omega, h2, h3⟩
theorem belowS_bit (n i : Nat) : (belowS (n : Int)).testBit i = (decide (i < 64) && decide (i < n)) := by
  rw [← below_eq, ofL_bit]
  have e : ((i : Int) ∈ upto (n : Int) 64) ↔ (i < 64 ∧ i < n) := by rw [mem_upto]; omega
  simp only [e]
  by_cases h : i < 64 <;> simp [h]
theorem bit_of {i : Nat} {P : Prop} [Decidable P] {b : Bool} (h : P ↔ b = true) : decide P = b := by
  cases b <;> simp_all
theorem wkS_lt (l : List (Int × Int)) (ws : List Wk) : wkS l ws < 18446744073709551616 := Nat.and_lt_two_pow (n := 64) _ (belowS_lt _)
theorem wkS_bit (l : List (Int × Int)) (ws : List Wk) (i : Nat) (hi : i < 64) : (wkS l ws).testBit i = (decide (i < ws.length) && sayN l (atW ws i)) := by
  unfold wkS
  rw [Nat.testBit_and, belowS_bit, decide_eq_true hi, Bool.true_and, List.length_take]
  by_cases hl : i < ws.length
  · have hm : i < min 64 ws.length := by omega
    rw [decide_eq_true hl, decide_eq_true hm, Bool.and_true, Bool.true_and]
    have := valL_bit (fun a => hvU (ws.take 64) a (min 64 ws.length)) (atW (ws.take 64)) (min 64 ws.length) (by omega) (fun a i _ _ hi => by rw [hvU_bit _ _ _ _ (by omega), decide_eq_true hi, Bool.true_and]) l i hm
    rw [this]
    have e : atW (ws.take 64) i = atW ws i := by
      unfold atW
      rw [List.getD_eq_getElem?_getD, List.getD_eq_getElem?_getD, List.getElem?_take, if_pos hi]
    rw [e]
  · rw [decide_eq_false hl, decide_eq_false (show ¬ i < min 64 ws.length by omega)]
    simp
theorem wkS_eq (l : List (Int × Int)) (ws : List Wk) : ofL (rwU l ws ws.length) = wkS l ws := by
  refine ext64 (ofL_lt _) (wkS_lt l ws) fun i hi => ?_
  rw [wkS_bit l ws i hi, ofL_bit, decide_eq_true hi, Bool.true_and]
  refine bit_of (i := i) ?_
  rw [rwU_mem]
  simp only [Bool.and_eq_true, decide_eq_true_eq]
  constructor
  · rintro ⟨j, h1, h2, h3⟩
    obtain rfl : j = i := by omega
    exact ⟨h1, h3⟩
  · rintro ⟨h1, h2⟩
    exact ⟨i, h1, rfl, h2⟩
theorem of_elems (s : Nat) (hs : s < 18446744073709551616) : ofL (elems s) = s := by
  refine ext64 (ofL_lt _) hs fun i hi => ?_
  rw [ofL_bit, decide_eq_true hi, Bool.true_and]
  refine bit_of (i := i) ?_
  rw [mem_elems]
  simp
  omega
/-- Which workers any of the needs admits. -/
def anyS (ls : List (List (Int × Int))) (ws : List Wk) : Nat → Nat
  | 0 => 0
  | k + 1 => anyS ls ws k ||| wkS (ls.getD k []) ws
theorem anyS_lt (ls : List (List (Int × Int))) (ws : List Wk) : ∀ k, anyS ls ws k < 18446744073709551616
  | 0 => by simp [anyS]
  | k + 1 => Nat.or_lt_two_pow (n := 64) (anyS_lt ls ws k) (wkS_lt _ _)
def ranU (ls : List (List (Int × Int))) (ws : List Wk) : Nat → List Int
  | 0 => []
  | k + 1 => ranU ls ws k ++ elems (wkS (ls.getD k []) ws)
theorem ranU_len (ls : List (List (Int × Int))) (ws : List Wk) : ∀ k, (ranU ls ws k).length ≤ k * 64
  | 0 => by simp [ranU]
  | k + 1 => by
    have := ranU_len ls ws k
    have h2 := elemsU_len (wkS (ls.getD k []) ws) 64
    rw [ranU, List.length_append, elems_def]
    omega
theorem anyS_eq (ls : List (List (Int × Int))) (ws : List Wk) : ∀ k, ofL (ranU ls ws k) = anyS ls ws k
  | 0 => ofL_nil
  | k + 1 => by rw [ranU, ofL_append, anyS_eq ls ws k, of_elems _ (wkS_lt _ _), anyS]
end Go.Proofs.YthohedadmfbahaaDoor
