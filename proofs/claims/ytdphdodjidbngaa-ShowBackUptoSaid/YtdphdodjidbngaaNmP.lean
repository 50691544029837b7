/- Sets of the numbers from 0 to 63, as natural numbers: the plain facts. -/
import Derived.Test.YtdphdodjidbngaaGaP
import Derived.Test.YtdphdodjidbngaaChecked
import Derived.Deep.Cut
import Derived.Outline
import Derived.Lib.MinMax
namespace Go.Proofs.Ytdphdodjidbngaa

def bitN (k : Int) : Nat := if 0 ≤ k ∧ k < 64 then 2 ^ k.toNat else 0
def ofU (l : List Int) : Nat → Nat
  | 0 => 0
  | n + 1 => ofU l n + if (n : Int) ∈ l then 2 ^ n else 0
def ofL (l : List Int) : Nat := ofU l 64
def elemsU (s : Nat) : Nat → List Int
  | 0 => []
  | n + 1 => elemsU s n ++ if s.testBit n then [(n : Int)] else []
def elems (s : Nat) : List Int := elemsU s 64
def hasS (s : Nat) (k : Int) : Bool := decide (0 ≤ k ∧ k < 64) && s.testBit k.toNat
def withS (s : Nat) (k : Int) : Nat := s ||| bitN k
def lessS (s : Nat) (k : Int) : Nat := s &&& (18446744073709551615 - bitN k)
def belowS (k : Int) : Nat := if k ≤ 0 then 0 else if 64 ≤ k then 18446744073709551615 else 2 ^ k.toNat - 1

theorem two_pow_lt64 {k : Nat} (h : k < 64) : 2 ^ k < 18446744073709551616 := by
  have : 2 ^ k < 2 ^ 64 := Nat.pow_lt_pow_right (by omega) h
  simpa using this
theorem bitN_lt (k : Int) : bitN k < 18446744073709551616 := by
  unfold bitN; split
  · exact two_pow_lt64 (by omega)
  · omega
theorem ofU_lt (l : List Int) : ∀ n, ofU l n < 2 ^ n
  | 0 => by simp [ofU]
  | n + 1 => by
    have := ofU_lt l n
    unfold ofU
    rw [Nat.pow_succ]
    split <;> omega
theorem ofU_bit (l : List Int) : ∀ n i, (ofU l n).testBit i = (decide (i < n) && decide ((i : Int) ∈ l))
  | 0, i => by simp [ofU]
  | n + 1, i => by
    have hl := ofU_lt l n
    have ih := ofU_bit l n i
    unfold ofU
    by_cases hm : (n : Int) ∈ l
    · rw [if_pos hm, Nat.add_comm, show 2 ^ n = 2 ^ n * 1 by omega, Nat.testBit_two_pow_mul_add 1 hl i]
      by_cases h : i < n
      · rw [if_pos h, ih]; simp [h, show i < n + 1 by omega]
      · rw [if_neg h]
        rcases Nat.lt_or_ge n i with h2 | h2
        · have h1 : Nat.testBit 1 (i - n) = false := by
            rw [show (1 : Nat) = 2 ^ 0 from rfl, Nat.testBit_two_pow]
            exact decide_eq_false (by omega)
          rw [h1]
          simp [show ¬ i < n + 1 by omega]
        · have : i = n := by omega
          subst this
          simp [hm]
    · rw [if_neg hm, Nat.add_zero, ih]
      by_cases h : i < n
      · simp [h, show i < n + 1 by omega]
      · by_cases h2 : i = n
        · subst h2; simp [hm]
        · simp [h, show ¬ i < n + 1 by omega]
theorem ofL_lt (l : List Int) : ofL l < 18446744073709551616 := by have := ofU_lt l 64; simpa [ofL] using this
theorem ofL_bit (l : List Int) (i : Nat) : (ofL l).testBit i = (decide (i < 64) && decide ((i : Int) ∈ l)) := ofU_bit l 64 i
theorem bitN_bit (k : Int) (i : Nat) : (bitN k).testBit i = (decide (i < 64) && decide ((i : Int) = k)) := by
  unfold bitN
  split
  · rw [Nat.testBit_two_pow]
    by_cases h : k.toNat = i
    · simp [h]; omega
    · simp [h]; omega
  · rw [Nat.zero_testBit]
    symm
    simp
    omega
theorem mem_elemsU (s : Nat) (k : Int) : ∀ n, k ∈ elemsU s n ↔ (0 ≤ k ∧ k < n ∧ s.testBit k.toNat = true)
  | 0 => by simp [elemsU]; omega
  | n + 1 => by
    unfold elemsU
    rw [List.mem_append, mem_elemsU s k n]
    by_cases h : s.testBit n = true
    · rw [if_pos h, List.mem_singleton]
      constructor
      · rintro (⟨h1, h2, h3⟩ | rfl)
        · exact ⟨h1, by omega, h3⟩
        · exact ⟨by omega, by omega, by simpa using h⟩
      · rintro ⟨h1, h2, h3⟩
        by_cases h4 : k = n
        · exact .inr h4
        · exact .inl ⟨h1, by omega, h3⟩
    · rw [if_neg h]
      constructor
      · rintro (⟨h1, h2, h3⟩ | h5)
        · exact ⟨h1, by omega, h3⟩
        · simp at h5
      · rintro ⟨h1, h2, h3⟩
        refine .inl ⟨h1, ?_, h3⟩
        rcases Nat.lt_or_ge k.toNat n with h4 | h4
        · omega
        · have : k.toNat = n := by omega
          rw [this] at h3
          exact absurd h3 h
theorem mem_elems (s : Nat) (k : Int) : k ∈ elems s ↔ (0 ≤ k ∧ k < 64 ∧ s.testBit k.toNat = true) := by
  have := mem_elemsU s k 64
  simpa [elems] using this
theorem bit_high {s i : Nat} (hs : s < 18446744073709551616) (h : 64 ≤ i) : s.testBit i = false :=
  Nat.testBit_lt_two_pow (Nat.lt_of_lt_of_le hs (by have : 2 ^ 64 ≤ 2 ^ i := Nat.pow_le_pow_right (by omega) h
                                                    simpa using this))
theorem with_eq (s : Nat) (k : Int) (hs : s < 18446744073709551616) : ofL (elems s ++ [k]) = withS s k := by
  apply Nat.eq_of_testBit_eq
  intro i
  rw [ofL_bit, withS, Nat.testBit_or, bitN_bit]
  by_cases h : i < 64
  · rw [Bool.eq_iff_iff]
    simp [h, mem_elems, show (i : Int) < 64 by omega]
  · rw [bit_high hs (by omega)]; simp [h]
theorem less_eq (s : Nat) (k : Int) (hs : s < 18446744073709551616) : ofL ((elems s).filter (· != k)) = lessS s k := by
  apply Nat.eq_of_testBit_eq
  intro i
  have e : 18446744073709551615 - bitN k = 2 ^ 64 - (bitN k + 1) := by simp only [Nat.reducePow]; omega
  rw [ofL_bit, lessS, Nat.testBit_and, e, Nat.testBit_two_pow_sub_succ (by simpa using bitN_lt k), bitN_bit]
  by_cases h : i < 64
  · rw [Bool.eq_iff_iff]
    simp [h, mem_elems, show (i : Int) < 64 by omega]
  · rw [bit_high hs (by omega)]; simp [h]
def upto (k : Int) : Nat → List Int
  | 0 => []
  | n + 1 => upto k n ++ if (n : Int) < k then [(n : Int)] else []
theorem mem_upto (k x : Int) : ∀ n, x ∈ upto k n ↔ (0 ≤ x ∧ x < n ∧ x < k)
  | 0 => by simp [upto]; omega
  | n + 1 => by
    unfold upto
    rw [List.mem_append, mem_upto k x n]
    by_cases h : (n : Int) < k
    · rw [if_pos h, List.mem_singleton]; omega
    · rw [if_neg h]; simp; omega
theorem below_eq (k : Int) : ofL (upto k 64) = belowS k := by
  apply Nat.eq_of_testBit_eq
  intro i
  rw [ofL_bit, belowS]
  split
  · rw [Nat.zero_testBit]; simp [mem_upto]; omega
  · split
    · rw [show 18446744073709551615 = 2 ^ 64 - 1 from rfl, Nat.testBit_two_pow_sub_one, Bool.eq_iff_iff]; simp [mem_upto]; omega
    · rw [Nat.testBit_two_pow_sub_one, Bool.eq_iff_iff]; simp [mem_upto]; omega
theorem belowS_lt (k : Int) : belowS k < 18446744073709551616 := by rw [← below_eq]; exact ofL_lt _
theorem withS_lt (s : Nat) (k : Int) (hs : s < 18446744073709551616) : withS s k < 18446744073709551616 := by rw [← with_eq s k hs]; exact ofL_lt _
theorem lessS_lt (s : Nat) (k : Int) (hs : s < 18446744073709551616) : lessS s k < 18446744073709551616 := by rw [← less_eq s k hs]; exact ofL_lt _
/-- The set that a loop over the list makes. -/
def foldS (l : List Int) : Nat → Nat
  | 0 => 0
  | n + 1 => withS (foldS l n) (l.getD n 0)
theorem foldS_eq (l : List Int) : ∀ n, n ≤ l.length → foldS l n = ofL (l.take n)
  | 0, _ => by
    apply Nat.eq_of_testBit_eq; intro i; rw [ofL_bit]; simp [foldS]
  | n + 1, h => by
    unfold foldS
    rw [foldS_eq l n (by omega)]
    apply Nat.eq_of_testBit_eq
    intro i
    rw [withS, Nat.testBit_or, ofL_bit, ofL_bit, bitN_bit, List.take_succ_eq_append_getElem (by omega), Bool.eq_iff_iff]
    simp [-List.take_append_getElem, List.getD_eq_getElem?_getD, List.getElem?_eq_getElem (show n < l.length by omega)]
    constructor
    · rintro (⟨h1, h2⟩ | ⟨h1, h2⟩)
      · exact ⟨h1, .inl h2⟩
      · exact ⟨h1, .inr h2⟩
    · rintro ⟨h1, h2 | h2⟩
      · exact .inl ⟨h1, h2⟩
      · exact .inr ⟨h1, h2⟩
theorem has_eq (s : Nat) (k : Int) : (s &&& bitN k != 0) = hasS s k := by
  unfold hasS bitN
  by_cases h : 0 ≤ k ∧ k < 64
  · rw [if_pos h, nat_bit, Nat.testBit_eq_decide_div_mod_eq]
    have := Nat.two_pow_pos k.toNat
    rcases Nat.mod_two_eq_zero_or_one (s / 2 ^ k.toNat) with h2 | h2
    · rw [h2]; simp
    · rw [h2]; simp [h]
  · rw [if_neg h]; simp [h]
theorem elems_def (s : Nat) : elems s = elemsU s 64 := rfl
attribute [irreducible] elems
end Go.Proofs.Ytdphdodjidbngaa

namespace Go.Proofs.Ytdphdodjidbngaa
open Go.RowKit
set_option linter.unusedVariables false

theorem ret_u64 {a b : Int} (h : a = b) : Ending.returned (.int .u64 a) = .returned (.int .u64 b) := by rw [h]
theorem ret_i64 {a b : Int} (h : a = b) : Ending.returned (.int .i64 a) = .returned (.int .i64 b) := by rw [h]
theorem ret_bool {a b : Bool} (h : a = b) : Ending.returned (.bool a) = .returned (.bool b) := by rw [h]
theorem wrap_u64_in (x : Int) (h0 : 0 ≤ x) (h1 : x < 18446744073709551616) : IntKind.u64.wrap x = x := by
  simp [IntKind.wrap, IntKind.bits, IntKind.signed]
  omega
theorem wrap_pow (n : Nat) (h : n < 64) : IntKind.u64.wrap (2 ^ n) = ((2 ^ n : Nat) : Int) := by
  have := two_pow_lt64 h
  rw [show ((2 : Int) ^ n) = ((2 ^ n : Nat) : Int) by simp]
  generalize 2 ^ n = x at *
  exact wrap_u64_in _ (by omega) (by omega)
end Go.Proofs.Ytdphdodjidbngaa

namespace Go.Proofs.Ytdphdodjidbngaa
open Go.RowKit
set_option linter.unusedVariables false
set_option linter.unusedSimpArgs false

def p2 (n : Nat) : Nat := 2 ^ n
theorem p2_lt {n : Nat} (h : n < 64) : p2 n < 18446744073709551616 := two_pow_lt64 h
theorem bitN_p2 {n : Nat} (h : n < 64) : bitN (n : Int) = p2 n := by unfold bitN; rw [if_pos (by omega)]; simp [p2]
end Go.Proofs.Ytdphdodjidbngaa

namespace Go.Proofs.Ytdphdodjidbngaa
open Go.RowKit
set_option linter.unusedVariables false

/-- Where a text first stands in a list. -/
def placeJ (l : List (List UInt8)) (s : List UInt8) : Int := match l.findIdx? (fun x => x == s) with | some i => (i : Int) | none => -1
theorem placeJ_yes {l : List (List UInt8)} {s : List UInt8} {k : Nat} (hk : k < l.length) (h : ∀ j (hj : j < l.length), j < k → l[j] ≠ s) (hy : l[k] = s) : placeJ l s = (k : Int) := by
  have : l.findIdx? (fun x => x == s) = some k := by
    rw [List.findIdx?_eq_some_iff_getElem]
    exact ⟨hk, by simp [hy], fun j hj => by simpa using h j (by omega) hj⟩
  rw [placeJ, this]
theorem placeJ_no {l : List (List UInt8)} {s : List UInt8} (h : ∀ j (hj : j < l.length), l[j] ≠ s) : placeJ l s = -1 := by
  have : l.findIdx? (fun x => x == s) = none := by
    rw [List.findIdx?_eq_none_iff]
    intro x hx
    obtain ⟨j, hj, rfl⟩ := List.getElem_of_mem hx
    simpa using h j hj
  rw [placeJ, this]
theorem placeJ_range (l : List (List UInt8)) (s : List UInt8) : -1 ≤ placeJ l s ∧ placeJ l s < (l.length : Int) := by
  unfold placeJ
  cases h : l.findIdx? (fun x => x == s) with
  | none => simp; omega
  | some k =>
    obtain ⟨hk, _, _⟩ := List.findIdx?_eq_some_iff_getElem.1 h
    simp
    omega
attribute [irreducible] placeJ

/-- The set of the names, and what is wrong. -/
def setS (l ns : List (List UInt8)) : Nat := ns.foldl (fun s x => withS s (placeJ l x)) 0
def okN (l : List (List UInt8)) (x : List UInt8) : Bool := decide (0 ≤ placeJ l x) && decide (placeJ l x < 64)
def setOut (l ns : List (List UInt8)) : Nat × Int × Int := match ns.findIdx? (fun x => !okN l x) with | some i => (0, (i : Int), 5) | none => (setS l ns, -1, 0)
theorem setOut_bad {l ns : List (List UInt8)} {k : Nat} (hk : k < ns.length) (h : ∀ j (hj : j < ns.length), j < k → okN l ns[j] = true) (hy : okN l ns[k] = false) : setOut l ns = (0, (k : Int), 5) := by
  have : ns.findIdx? (fun x => !okN l x) = some k := by
    rw [List.findIdx?_eq_some_iff_getElem]
    exact ⟨hk, by simp [hy], fun j hj => by simp [h j (by omega) hj]⟩
  rw [setOut, this]
theorem setOut_end {l ns : List (List UInt8)} (h : ∀ j (hj : j < ns.length), okN l ns[j] = true) : setOut l ns = (setS l ns, -1, 0) := by
  have : ns.findIdx? (fun x => !okN l x) = none := by
    rw [List.findIdx?_eq_none_iff]
    intro x hx
    obtain ⟨j, hj, rfl⟩ := List.getElem_of_mem hx
    simp [h j hj]
  rw [setOut, this]
theorem setS_zero (l ns : List (List UInt8)) : setS l (ns.take 0) = 0 := by simp [setS]
theorem setS_snoc (l ns : List (List UInt8)) (x : List UInt8) : setS l (ns ++ [x]) = withS (setS l ns) (placeJ l x) := by simp [setS]
theorem setS_next (l ns : List (List UInt8)) (k : Nat) (hk : k < ns.length) : setS l (ns.take (k + 1)) = withS (setS l (ns.take k)) (placeJ l ns[k]) := by
  have e : ns.take (k + 1) = ns.take k ++ [ns[k]] := by rw [List.take_add_one, List.getElem?_eq_getElem hk]; rfl
  rw [e, setS_snoc]
theorem setS_lt (l : List (List UInt8)) : ∀ ns, setS l ns < 18446744073709551616 := by
  intro ns
  suffices h : ∀ (ns : List (List UInt8)) (s : Nat), s < 18446744073709551616 → ns.foldl (fun s x => withS s (placeJ l x)) s < 18446744073709551616 from h ns 0 (by omega)
  intro ns
  induction ns with
  | nil => intro s h; exact h
  | cons x ns ih => intro s h; exact ih _ (withS_lt s _ h)
attribute [irreducible] setOut setS

/-- A place that is not yet in a set is added to it. -/
theorem with_add (s n : Nat) (h : s.testBit n = false) : s ||| 2 ^ n = s + 2 ^ n := by
  have h1 : s / 2 ^ n % 2 = 0 := by
    rw [Nat.testBit_eq_decide_div_mod_eq] at h
    simp at h
    omega
  have h2 : s = 2 ^ (n + 1) * (s / 2 ^ (n + 1)) + s % 2 ^ n := by
    have e1 := Nat.div_add_mod s (2 ^ n)
    have e2 : s / 2 ^ (n + 1) = s / 2 ^ n / 2 := by rw [Nat.pow_succ, Nat.div_div_eq_div_mul]
    have e3 : 2 ^ (n + 1) * (s / 2 ^ n / 2) = 2 ^ n * (2 * (s / 2 ^ n / 2)) := by rw [Nat.pow_succ, Nat.mul_assoc]
    rw [e2, e3, show 2 * (s / 2 ^ n / 2) = s / 2 ^ n by omega]
    exact e1.symm
  have h3 : s % 2 ^ n < 2 ^ n := Nat.mod_lt _ (Nat.two_pow_pos n)
  generalize s % 2 ^ n = r at *
  generalize s / 2 ^ (n + 1) = q at *
  subst h2
  have h4 : r < 2 ^ (n + 1) := by rw [Nat.pow_succ]; omega
  have h5 : 2 ^ n + r < 2 ^ (n + 1) := by rw [Nat.pow_succ]; omega
  have h6 : 2 ^ n + r = 2 ^ n ||| r := by have := Nat.two_pow_add_eq_or_of_lt h3 1; simpa using this
  rw [Nat.add_assoc, Nat.add_comm r, Nat.two_pow_add_eq_or_of_lt h4, Nat.two_pow_add_eq_or_of_lt h5, h6, Nat.or_assoc, Nat.or_comm r]

/-- The names that a set tells, of the first k of a list. -/
def tellN (l : List (List UInt8)) (s : Nat) : Nat → List (List UInt8)
  | 0 => []
  | k + 1 => tellN l s k ++ (if hasS s (k : Int) then [l.getD k []] else [])
def tellS (l : List (List UInt8)) (s : Nat) : List (List UInt8) := tellN l s l.length
theorem tellN_yes (l : List (List UInt8)) (s k : Nat) (hk : k < l.length) (h : hasS s (k : Int) = true) : tellN l s (k + 1) = tellN l s k ++ [l[k]] := by
  rw [tellN, if_pos h, List.getD_eq_getElem?_getD, List.getElem?_eq_getElem hk]
  rfl
theorem tellN_no (l : List (List UInt8)) (s k : Nat) (h : hasS s (k : Int) = false) : tellN l s (k + 1) = tellN l s k := by
  rw [tellN, h]
  simp
theorem tellN_len (l : List (List UInt8)) (s : Nat) : ∀ k, (tellN l s k).length ≤ k
  | 0 => by simp [tellN]
  | k + 1 => by
    have := tellN_len l s k
    rw [tellN, List.length_append]
    split <;> simp <;> omega
theorem tellN_high (l : List (List UInt8)) (s : Nat) : ∀ k, 64 ≤ k → tellN l s k = tellN l s 64
  | 0, h => by omega
  | k + 1, h => by
    by_cases h2 : 64 ≤ k
    · rw [tellN_no, tellN_high l s k h2]
      unfold hasS
      rw [decide_eq_false (by omega), Bool.false_and]
    · rw [show k + 1 = 64 by omega]
theorem tellS_min (l : List (List UInt8)) (s : Nat) : tellN l s (min l.length 64) = tellS l s := by
  unfold tellS
  by_cases h : l.length ≤ 64
  · rw [Nat.min_eq_left h]
  · rw [Nat.min_eq_right (by omega), tellN_high l s l.length (by omega)]
theorem hasS_div (s n : Nat) (h : n < 64) : hasS s (n : Int) = decide (s / 2 ^ n % 2 = 1) := by
  unfold hasS
  rw [decide_eq_true (by omega), Bool.true_and, Int.toNat_natCast, Nat.testBit_eq_decide_div_mod_eq]

/-- A table whose names stand once each. -/
def Once (l : List (List UInt8)) : Prop := ∀ i (hi : i < l.length), placeJ l l[i] = (i : Int)
theorem tellN_ok {l : List (List UInt8)} (h : Once l) (h16 : l.length ≤ 16) (s : Nat) : ∀ k, k ≤ l.length → (∀ x ∈ tellN l s k, okN l x = true) ∧ ∀ i, (setS l (tellN l s k)).testBit i = (decide (i < k) && hasS s (i : Int))
  | 0, _ => ⟨by simp [tellN], fun i => by simp [tellN, setS]⟩
  | k + 1, hk => by
    obtain ⟨h1, h2⟩ := tellN_ok h h16 s k (by omega)
    have hp := h k (by omega)
    cases hb : hasS s (k : Int) with
    | false =>
      rw [tellN_no _ _ _ hb]
      refine ⟨h1, fun i => ?_⟩
      rw [h2 i]
      by_cases hi : i = k
      · subst hi; simp [hb]
      · congr 1; rw [Bool.eq_iff_iff]; simp; omega
    | true =>
      rw [tellN_yes _ _ _ (by omega) hb]
      refine ⟨fun x hx => ?_, fun i => ?_⟩
      · rw [List.mem_append] at hx
        rcases hx with hx | hx
        · exact h1 x hx
        · simp only [List.mem_singleton] at hx
          subst hx
          unfold okN
          rw [hp]
          simp
          omega
      · rw [setS_snoc, hp, withS, Nat.testBit_or, h2 i, bitN_bit]
        by_cases hi : i = k
        · subst hi
          rw [hb]
          simp
          omega
        · have e1 : decide ((i : Int) = (k : Int)) = false := decide_eq_false (by omega)
          rw [e1, Bool.and_false, Bool.or_false]
          congr 1; rw [Bool.eq_iff_iff]; simp; omega
theorem Once.told {l : List (List UInt8)} (h : Once l) (h16 : l.length ≤ 16) (s : Nat) : setOut l (tellS l s) = (setS l (tellS l s), -1, 0) ∧ ∀ i : Nat, i < 64 → hasS (setS l (tellS l s)) (i : Int) = (hasS s (i : Int) && decide (i < l.length)) := by
  obtain ⟨h1, h2⟩ := tellN_ok h h16 s l.length (Nat.le_refl _)
  refine ⟨setOut_end fun j hj => h1 _ (List.getElem_mem hj), fun i hi => ?_⟩
  have h3 := h2 i
  rw [hasS, decide_eq_true (by omega), Bool.true_and, Int.toNat_natCast]
  rw [tellS, h3, Bool.and_comm]
end Go.Proofs.Ytdphdodjidbngaa

namespace Go.Proofs.Ytdphdodjidbngaa
open Go.RowKit
set_option linter.unusedVariables false
set_option linter.unusedSimpArgs false

theorem scells_at {W : World} {A : Option Addr} {len cap : Nat} {l : List (List UInt8)} (h : Sl W 1 A len cap (scells l)) (k : Nat) (hk : k < l.length) : ∃ b off, A = some ⟨b, off, none⟩ ∧ W.cell? ⟨b, off + k, none⟩ = some (.string (str l[k])) := by
  obtain ⟨b, off, rfl, hc⟩ := Sl.at h k (by rw [scells_length]; exact hk)
  have e1 : (scells l)[k]'(by rw [scells_length]; exact hk) = .string (str (l[k]'hk)) := by simp [scells]
  rw [e1] at hc
  exact ⟨b, off, rfl, hc⟩

set_option maxRecDepth 20000 in
theorem place1_any (x y : List UInt8) (B : Nat) (W : World) (hB : W.cell? ⟨B, 0, none⟩ = some (.string (str y))) :
    Calls Try.prog 174 #[.string (str x), .pointer (some ⟨B, 0, none⟩)] W fun e w' => e = .returned (.bool (x == y)) ∧ W = w' := by
  by_cases h : x = y
  · subst h
    have hx : (x == x) = true := by simp
    rw [hx]
    clear hx
    generalize str x = s at *
    have hne : (s.toList == s.toList) = true := by simp
    go_enter Try.func174, Try.ntmps174
    go_wp2
    go_ret
    exact ⟨rfl, rfl⟩
  · have hz := str_ne h
    have hz2 : ((str x).toList == (str y).toList) = false := by simpa using hz
    have hx : (x == y) = false := by simpa using h
    rw [hx]
    clear h hx
    generalize str x = s at *
    generalize str y = s2 at *
    go_enter Try.func174, Try.ntmps174
    go_wp2
    go_ret
    exact ⟨rfl, rfl⟩

set_option maxRecDepth 20000 in
theorem pidx_any (A : Option Addr) (len cap : Nat) (l : List (List UInt8)) (B : Nat) (y : List UInt8) (W : World) (h : Sl W 1 A len cap (scells l)) (hB : W.cell? ⟨B, 0, none⟩ = some (.string (str y))) :
    Calls Try.prog 142 #[.slice A len cap, .func (.func 174) #[] #[.pointer (some ⟨B, 0, none⟩)]] W fun e w' => e = .returned (.int .i64 (placeJ l y)) ∧ W = w' := by
  obtain rfl : len = l.length := by have := h.1; rw [scells_length] at this; omega
  have HA := hid h
  have HC := hid (fun x => place1_any x y B W hB)
  have hm : l.length ≤ 9223372036854775807 := by have h1 := h.2.1; have h2 := h.2.2.1; unfold maxLen at h2; omega
  have HY := hid (fun k (hk : k < l.length) h hy => placeJ_yes (s := y) hk h hy)
  have HN := hid (fun h => placeJ_no (l := l) (s := y) h)
  clear h hB
  go_enter Try.func142, Try.ntmps142
  go_wp2
  go_loop [8] (fun i => ∃ k : Nat, k ≤ l.length ∧ i = .int .i64 (k : Int) ∧ Hid (∀ j (hj : j < l.length), j < k → l[j] ≠ y)) (fun i => l.length - (intOf i).toNat)
  case atStart => exact ⟨0, by omega, rfl, fun j hj h => absurd h (by omega)⟩
  case round =>
    obtain ⟨k, hk, rfl, HT⟩ := hrel
    by_cases hlt : k < l.length
    · have hlt2 : (k : Int) < (l.length : Int) := by omega
      obtain ⟨b, off, rfl, c1⟩ := scells_at HA.out k hlt
      have HC2 := hid (HC.out l[k])
      have HY2 := hid (HY.out k hlt HT.out)
      generalize hx : l[k] = x at c1 HC2 HY2
      have HXX := hid hx
      clear hx
      generalize str x = s at c1 HC2
      go_wp2_with fail
      refine HC2.out.mono ?_
      rintro e w2 ⟨rfl, rfl⟩
      clear HC2 c1
      by_cases hxy : x = y
      · have hd : (x == y) = true := by simpa using hxy
        have HE := hid (HY2.out hxy)
        go_wp2
        go_ret
        exact ⟨by rw [HE.out]; rfl, rfl⟩
      · have hd : (x == y) = false := by simpa using hxy
        have HT2 : Hid (∀ j (hj : j < l.length), j < k + 1 → l[j] ≠ y) := hid (fun j hj hjk => by
          by_cases hjk2 : j < k
          · exact HT.out j hj hjk2
          · obtain rfl : j = k := by omega
            rw [HXX.out]; exact hxy)
        clear hxy
        go_wp2
        go_round
        case rel => exact ⟨k + 1, by omega, by go_num, HT2.out⟩
        case measure => simp [intOf]; omega
    · have hge : ¬ (k : Int) < (l.length : Int) := by omega
      have HE := hid (HN.out fun j hj => HT.out j hj (by omega))
      go_wp2
      go_ret
      exact ⟨by rw [HE.out]; rfl, rfl⟩

set_option maxRecDepth 20000 in
theorem place_any (A : Option Addr) (len cap : Nat) (l : List (List UInt8)) (y : List UInt8) (W : World) (h : Sl W 1 A len cap (scells l)) :
    Calls Try.prog 171 #[.slice A len cap, .string (str y)] W fun e w' => e = .returned (.int .i64 (placeJ l y)) ∧ Below W.heap.size W w' := by
  have hb0 : Below W.heap.size W (W.alloc (.cells #[.string (str y)] 9)) := (Below.refl _ _).alloc (Nat.le_refl _) _
  have HI := hid (pidx_any A len cap l W.heap.size y _ (h.below hb0) (by have := heap_alloc_new W (.cells #[.string (str y)] 9); rw [cell_of_row _ _ 0 _ _ _ this]; rfl))
  clear h hb0
  go_enter Try.func171, Try.ntmps171
  go_wp2_with fail
  refine HI.out.mono ?_
  rintro e w2 ⟨rfl, rfl⟩
  go_wp2
  go_ret
  exact ⟨rfl, (Below.refl _ _).alloc (Nat.le_refl _) _⟩

set_option maxRecDepth 20000 in
theorem rplace_any (A : Option Addr) (len cap : Nat) (l : List (List UInt8)) (y : List UInt8) (W : World) (h : Sl W 1 A len cap (scells l)) :
    Calls Try.prog 17 #[.slice A len cap, .string (str y)] W fun e w' => e = .returned (.int .i64 (placeJ l y)) ∧ W = w' := by
  obtain rfl : len = l.length := by have := h.1; rw [scells_length] at this; omega
  have HA := hid h
  have hm : l.length ≤ 9223372036854775807 := by have h1 := h.2.1; have h2 := h.2.2.1; unfold maxLen at h2; omega
  have HY := hid (fun k (hk : k < l.length) h hy => placeJ_yes (s := y) hk h hy)
  have HN := hid (fun h => placeJ_no (l := l) (s := y) h)
  clear h
  have HZ := hid (fun x => @str_ne x y)
  generalize hs : str y = s at HZ
  have HS := hid hs
  clear hs
  go_enter Try.func17, Try.ntmps17
  go_wp2
  go_loop [5] (fun i => ∃ k : Nat, k ≤ l.length ∧ i = .int .i64 (k : Int) ∧ Hid (∀ j (hj : j < l.length), j < k → l[j] ≠ y)) (fun i => l.length - (intOf i).toNat)
  case atStart => exact ⟨0, by omega, rfl, fun j hj h => absurd h (by omega)⟩
  case round =>
    obtain ⟨k, hk, rfl, HT⟩ := hrel
    by_cases hlt : k < l.length
    · have hlt2 : (k : Int) < (l.length : Int) := by omega
      obtain ⟨b, off, rfl, c1⟩ := scells_at HA.out k hlt
      have HY2 := hid (HY.out k hlt HT.out)
      generalize hx : l[k] = x at c1 HY2
      have HXX := hid hx
      clear hx
      by_cases hxy : x = y
      · have HE := hid (HY2.out hxy)
        have e2 : str x = s := by rw [hxy, HS.out]
        rw [e2] at c1
        clear e2 hxy HY2
        have hne : (s.toList == s.toList) = true := by simp
        go_wp2
        go_ret
        exact ⟨by rw [HE.out]; rfl, rfl⟩
      · have hz := HZ.out x hxy
        have hz2 : ((str x).toList == s.toList) = false := by simpa using hz
        have HT2 : Hid (∀ j (hj : j < l.length), j < k + 1 → l[j] ≠ y) := hid (fun j hj hjk => by
          by_cases hjk2 : j < k
          · exact HT.out j hj hjk2
          · obtain rfl : j = k := by omega
            rw [HXX.out]; exact hxy)
        clear hxy HY2
        generalize str x = s2 at c1 hz hz2
        go_wp2
        go_round
        case rel => exact ⟨k + 1, by omega, by go_num, HT2.out⟩
        case measure => simp [intOf]; omega
    · have hge : ¬ (k : Int) < (l.length : Int) := by omega
      have HE := hid (HN.out fun j hj => HT.out j hj (by omega))
      go_wp2
      go_ret
      exact ⟨by rw [HE.out]; rfl, rfl⟩
end Go.Proofs.Ytdphdodjidbngaa
