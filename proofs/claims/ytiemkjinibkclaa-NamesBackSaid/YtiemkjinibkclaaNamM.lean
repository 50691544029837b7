/- Tables of names: what the document says of them, in mathematics. -/
import Derived.Test.YtiemkjinibkclaaFlockM
import Derived.Test.YtiemkjinibkclaaText
namespace Go.Proofs.Ytiemkjinibkclaa
open Go.RowKit
set_option linter.unusedVariables false

/-- Where a text first stands in a list. -/
def placeJ (l : List (List UInt8)) (s : List UInt8) : Int := match l.findIdx? (fun x => x == s) with | some i => (i : Int) | none => -1
theorem placeJ_yes {l : List (List UInt8)} {s : List UInt8} {k : Nat} (hk : k < l.length) (h : ∀ j (hj : j < l.length), j < k → l[j] ≠ s) (hy : l[k] = s) : placeJ l s = (k : Int) := by
  have : l.findIdx? (fun x => x == s) = some k := by
    rw [List.findIdx?_eq_some_iff_getElem]
    exact ⟨hk, by simp [hy], fun j hj => by simpa using h j (by omega) hj⟩
  rw [placeJ, this]
theorem placeJ_no {l : List (List UInt8)} {s : List UInt8} (h : ∀ j (hj : j < l.length), l[j] ≠ s) : placeJ l s = -1 := by
  have : l.findIdx? (fun x => x == s) = none := by
    rw [List.findIdx?_eq_none_iff]
    intro x hx
    obtain ⟨j, hj, rfl⟩ := List.getElem_of_mem hx
    simpa using h j hj
  rw [placeJ, this]
theorem placeJ_range (l : List (List UInt8)) (s : List UInt8) : -1 ≤ placeJ l s ∧ placeJ l s < (l.length : Int) := by
  unfold placeJ
  cases h : l.findIdx? (fun x => x == s) with
  | none => simp; omega
  | some k =>
    obtain ⟨hk, _, _⟩ := List.findIdx?_eq_some_iff_getElem.1 h
    simp
    omega
attribute [irreducible] placeJ

/-- The set of the names, and what is wrong. -/
def setS (l ns : List (List UInt8)) : Nat := ns.foldl (fun s x => withS s (placeJ l x)) 0
def okN (l : List (List UInt8)) (x : List UInt8) : Bool := decide (0 ≤ placeJ l x) && decide (placeJ l x < 64)
def setOut (l ns : List (List UInt8)) : Nat × Int × Int := match ns.findIdx? (fun x => !okN l x) with | some i => (0, (i : Int), 5) | none => (setS l ns, -1, 0)
theorem setOut_bad {l ns : List (List UInt8)} {k : Nat} (hk : k < ns.length) (h : ∀ j (hj : j < ns.length), j < k → okN l ns[j] = true) (hy : okN l ns[k] = false) : setOut l ns = (0, (k : Int), 5) := by
  have : ns.findIdx? (fun x => !okN l x) = some k := by
    rw [List.findIdx?_eq_some_iff_getElem]
    exact ⟨hk, by simp [hy], fun j hj => by simp [h j (by omega) hj]⟩
  rw [setOut, this]
theorem setOut_end {l ns : List (List UInt8)} (h : ∀ j (hj : j < ns.length), okN l ns[j] = true) : setOut l ns = (setS l ns, -1, 0) := by
  have : ns.findIdx? (fun x => !okN l x) = none := by
    rw [List.findIdx?_eq_none_iff]
    intro x hx
    obtain ⟨j, hj, rfl⟩ := List.getElem_of_mem hx
    simp [h j hj]
  rw [setOut, this]
theorem setS_zero (l ns : List (List UInt8)) : setS l (ns.take 0) = 0 := by simp [setS]
theorem setS_snoc (l ns : List (List UInt8)) (x : List UInt8) : setS l (ns ++ [x]) = withS (setS l ns) (placeJ l x) := by simp [setS]
theorem setS_next (l ns : List (List UInt8)) (k : Nat) (hk : k < ns.length) : setS l (ns.take (k + 1)) = withS (setS l (ns.take k)) (placeJ l ns[k]) := by
  have e : ns.take (k + 1) = ns.take k ++ [ns[k]] := by rw [List.take_add_one, List.getElem?_eq_getElem hk]; rfl
  rw [e, setS_snoc]
theorem setS_lt (l : List (List UInt8)) : ∀ ns, setS l ns < 18446744073709551616 := by
  intro ns
  suffices h : ∀ (ns : List (List UInt8)) (s : Nat), s < 18446744073709551616 → ns.foldl (fun s x => withS s (placeJ l x)) s < 18446744073709551616 from h ns 0 (by omega)
  intro ns
  induction ns with
  | nil => intro s h; exact h
  | cons x ns ih => intro s h; exact ih _ (withS_lt s _ h)
attribute [irreducible] setOut setS

/-- A place that is not yet in a set is added to it. -/
theorem with_add (s n : Nat) (h : s.testBit n = false) : s ||| 2 ^ n = s + 2 ^ n := by
  have h1 : s / 2 ^ n % 2 = 0 := by
    rw [Nat.testBit_eq_decide_div_mod_eq] at h
    simp at h
    omega
  have h2 : s = 2 ^ (n + 1) * (s / 2 ^ (n + 1)) + s % 2 ^ n := by
    have e1 := Nat.div_add_mod s (2 ^ n)
    have e2 : s / 2 ^ (n + 1) = s / 2 ^ n / 2 := by rw [Nat.pow_succ, Nat.div_div_eq_div_mul]
    have e3 : 2 ^ (n + 1) * (s / 2 ^ n / 2) = 2 ^ n * (2 * (s / 2 ^ n / 2)) := by rw [Nat.pow_succ, Nat.mul_assoc]
    rw [e2, e3, show 2 * (s / 2 ^ n / 2) = s / 2 ^ n by omega]
    exact e1.symm
  have h3 : s % 2 ^ n < 2 ^ n := Nat.mod_lt _ (Nat.two_pow_pos n)
  generalize s % 2 ^ n = r at *
  generalize s / 2 ^ (n + 1) = q at *
  subst h2
  have h4 : r < 2 ^ (n + 1) := by rw [Nat.pow_succ]; omega
  have h5 : 2 ^ n + r < 2 ^ (n + 1) := by rw [Nat.pow_succ]; omega
  have h6 : 2 ^ n + r = 2 ^ n ||| r := by have := Nat.two_pow_add_eq_or_of_lt h3 1; simpa using this
  rw [Nat.add_assoc, Nat.add_comm r, Nat.two_pow_add_eq_or_of_lt h4, Nat.two_pow_add_eq_or_of_lt h5, h6, Nat.or_assoc, Nat.or_comm r]

/-- The names that a set tells, of the first k of a list. -/
def tellN (l : List (List UInt8)) (s : Nat) : Nat → List (List UInt8)
  | 0 => []
  | k + 1 => tellN l s k ++ (if hasS s (k : Int) then [l.getD k []] else [])
def tellS (l : List (List UInt8)) (s : Nat) : List (List UInt8) := tellN l s l.length
theorem tellN_yes (l : List (List UInt8)) (s k : Nat) (hk : k < l.length) (h : hasS s (k : Int) = true) : tellN l s (k + 1) = tellN l s k ++ [l[k]] := by
  rw [tellN, if_pos h, List.getD_eq_getElem?_getD, List.getElem?_eq_getElem hk]
  rfl
theorem tellN_no (l : List (List UInt8)) (s k : Nat) (h : hasS s (k : Int) = false) : tellN l s (k + 1) = tellN l s k := by
  rw [tellN, h]
  simp
theorem tellN_len (l : List (List UInt8)) (s : Nat) : ∀ k, (tellN l s k).length ≤ k
  | 0 => by simp [tellN]
  | k + 1 => by
    have := tellN_len l s k
    rw [tellN, List.length_append]
    split <;> simp <;> omega
theorem tellN_high (l : List (List UInt8)) (s : Nat) : ∀ k, 64 ≤ k → tellN l s k = tellN l s 64
  | 0, h => by omega
  | k + 1, h => by
    by_cases h2 : 64 ≤ k
    · rw [tellN_no, tellN_high l s k h2]
      unfold hasS
      rw [decide_eq_false (by omega), Bool.false_and]
    · rw [show k + 1 = 64 by omega]
theorem tellS_min (l : List (List UInt8)) (s : Nat) : tellN l s (min l.length 64) = tellS l s := by
  unfold tellS
  by_cases h : l.length ≤ 64
  · rw [Nat.min_eq_left h]
  · rw [Nat.min_eq_right (by omega), tellN_high l s l.length (by omega)]
theorem hasS_div (s n : Nat) (h : n < 64) : hasS s (n : Int) = decide (s / 2 ^ n % 2 = 1) := by
  unfold hasS
  rw [decide_eq_true (by omega), Bool.true_and, Int.toNat_natCast, Nat.testBit_eq_decide_div_mod_eq]

/-- A table whose names stand once each. -/
def Once (l : List (List UInt8)) : Prop := ∀ i (hi : i < l.length), placeJ l l[i] = (i : Int)
theorem tellN_ok {l : List (List UInt8)} (h : Once l) (h16 : l.length ≤ 16) (s : Nat) : ∀ k, k ≤ l.length → (∀ x ∈ tellN l s k, okN l x = true) ∧ ∀ i, (setS l (tellN l s k)).testBit i = (decide (i < k) && hasS s (i : Int))
  | 0, _ => ⟨by simp [tellN], fun i => by simp [tellN, setS]⟩
  | k + 1, hk => by
    obtain ⟨h1, h2⟩ := tellN_ok h h16 s k (by omega)
    have hp := h k (by omega)
    cases hb : hasS s (k : Int) with
    | false =>
      rw [tellN_no _ _ _ hb]
      refine ⟨h1, fun i => ?_⟩
      rw [h2 i]
      by_cases hi : i = k
      · subst hi; simp [hb]
      · congr 1; rw [Bool.eq_iff_iff]; simp; omega
    | true =>
      rw [tellN_yes _ _ _ (by omega) hb]
      refine ⟨fun x hx => ?_, fun i => ?_⟩
      · rw [List.mem_append] at hx
        rcases hx with hx | hx
        · exact h1 x hx
        · simp only [List.mem_singleton] at hx
          subst hx
          unfold okN
          rw [hp]
          simp
          omega
      · rw [setS_snoc, hp, withS, Nat.testBit_or, h2 i, bitN_bit]
        by_cases hi : i = k
        · subst hi
          rw [hb]
          simp
          omega
        · have e1 : decide ((i : Int) = (k : Int)) = false := decide_eq_false (by omega)
          rw [e1, Bool.and_false, Bool.or_false]
          congr 1; rw [Bool.eq_iff_iff]; simp; omega
theorem Once.told {l : List (List UInt8)} (h : Once l) (h16 : l.length ≤ 16) (s : Nat) : setOut l (tellS l s) = (setS l (tellS l s), -1, 0) ∧ ∀ i : Nat, i < 64 → hasS (setS l (tellS l s)) (i : Int) = (hasS s (i : Int) && decide (i < l.length)) := by
  obtain ⟨h1, h2⟩ := tellN_ok h h16 s l.length (Nat.le_refl _)
  refine ⟨setOut_end fun j hj => h1 _ (List.getElem_mem hj), fun i hi => ?_⟩
  have h3 := h2 i
  rw [hasS, decide_eq_true (by omega), Bool.true_and, Int.toNat_natCast]
  rw [tellS, h3, Bool.and_comm]
end Go.Proofs.Ytiemkjinibkclaa
