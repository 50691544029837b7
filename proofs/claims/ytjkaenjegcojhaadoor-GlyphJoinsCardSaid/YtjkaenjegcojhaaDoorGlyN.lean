/- The runes of a text: plain; what a name is. -/
import Derived.Test.YtjkaenjegcojhaaDoorGlyC
namespace Go.Proofs.YtjkaenjegcojhaaDoor
open Go.RowKit

theorem szN_1 (l : List UInt8) : 1 ≤ max (szN l) 1 := Nat.le_max_right _ _
/-- A rune: where, its number, whether it is one. -/
abbrev Rn := Nat × Nat × Bool
/-- The runes of a text from a place on. -/
def rnF : Nat → List UInt8 → Nat → List Rn
  | 0, _, _ => []
  | f + 1, l, i => if i < l.length then (i, codeN (l.drop i) (szN (l.drop i)), decide (0 < szN (l.drop i))) :: rnF f l (i + max (szN (l.drop i)) 1) else []
def rns (l : List UInt8) (i : Nat) : List Rn := rnF (l.length - i) l i
theorem rnF_more (l : List UInt8) : ∀ (f i : Nat), l.length - i ≤ f → rnF f l i = rns l i
  | 0, i, h => by
    have e : l.length - i = 0 := by omega
    rw [rns, e]
  | f + 1, i, h => by
    by_cases hi : i < l.length
    · obtain ⟨m, hm⟩ : ∃ m, l.length - i = m + 1 := ⟨l.length - i - 1, by omega⟩
      have h1 := szN_1 (l.drop i)
      rw [rns, hm, rnF, rnF, if_pos hi, if_pos hi, rnF_more l f _ (by omega), rnF_more l m _ (by omega)]
    · have e : l.length - i = 0 := by omega
      rw [rns, e, show rnF 0 l i = [] from rfl, rnF, if_neg hi]
theorem rns_step (l : List UInt8) (i : Nat) (h : i < l.length) : rns l i = (i, codeN (l.drop i) (szN (l.drop i)), decide (0 < szN (l.drop i))) :: rns l (i + max (szN (l.drop i)) 1) := by
  obtain ⟨m, hm⟩ : ∃ m, l.length - i = m + 1 := ⟨l.length - i - 1, by omega⟩
  have h1 := szN_1 (l.drop i)
  rw [rns, hm, rnF, if_pos h, rnF_more l m _ (by omega)]
theorem rns_end (l : List UInt8) (i : Nat) (h : l.length ≤ i) : rns l i = [] := by
  have e : l.length - i = 0 := by omega
  rw [rns, e]; rfl
theorem rns_len (l : List UInt8) : ∀ (f i : Nat), (rnF f l i).length ≤ f
  | 0, i => Nat.le_refl _
  | f + 1, i => by
    rw [rnF]
    split
    · have := rns_len l f (i + max (szN (l.drop i)) 1)
      rw [List.length_cons]; omega
    · exact Nat.zero_le _
theorem rns_le (l : List UInt8) (i : Nat) : (rns l i).length ≤ l.length - i := rns_len l _ i
/-- A rune that a name may have. -/
def okR (r : Rn) : Bool := r.2.2 && decide (LetP (r.2.1 : Int))
theorem let_wrong : ¬ LetP 65533 := by unfold LetP; omega
/-- Whether the number alone is a letter's says it too: a wrong byte's number is none. -/
theorem okR_let (l : List UInt8) (i : Nat) : okR (i, codeN (l.drop i) (szN (l.drop i)), decide (0 < szN (l.drop i))) = decide (LetP (codeN (l.drop i) (szN (l.drop i)) : Int)) := by
  unfold okR
  by_cases h : 0 < szN (l.drop i)
  · simp [h]
  · have e : szN (l.drop i) = 0 := by omega
    rw [e, codeN_0]
    have := let_wrong
    simp [this]
def nameR (rs : List Rn) : Bool := rs.all okR && (decide (0 < rs.length) && decide (rs.length ≤ 16) && (match rs with | [] => false | r :: _ => decide (57 < r.2.1)))
/-- As the package counts. -/
def gN : Nat → List Rn → Bool
  | n, [] => decide (0 < n)
  | n, r :: rs => if ¬ LetP (r.2.1 : Int) ∨ (n = 0 ∧ DigP (r.2.1 : Int)) ∨ n = 16 then false else gN (n + 1) rs
theorem gN_more : ∀ (rs : List Rn) (n : Nat), 0 < n → n ≤ 16 → (∀ r ∈ rs, okR r = decide (LetP (r.2.1 : Int))) → gN n rs = (rs.all okR && decide (n + rs.length ≤ 16))
  | [], n, h, h16, _ => by simp [gN, h, h16]
  | r :: rs, n, h, h16, ho => by
    have h1 := ho r (List.mem_cons_self ..)
    rw [gN, List.all_cons, h1]
    by_cases hl : LetP (r.2.1 : Int)
    · by_cases h6 : n = 16
      · rw [if_pos (.inr (.inr h6)), decide_eq_false (show ¬ n + (r :: rs).length ≤ 16 by rw [List.length_cons]; omega), Bool.and_false]
      · rw [if_neg (by rintro (h9 | h9 | h9); exact h9 hl; omega; exact h6 h9), gN_more rs (n + 1) (by omega) (by omega) (fun q hq => ho q (List.mem_cons_of_mem _ hq)), decide_eq_true hl, Bool.true_and, List.length_cons, show n + 1 + rs.length = n + (rs.length + 1) by omega]
    · rw [if_pos (.inl hl), decide_eq_false hl]; rfl
theorem gN_name (rs : List Rn) (ho : ∀ r ∈ rs, okR r = decide (LetP (r.2.1 : Int))) : gN 0 rs = nameR rs := by
  cases rs with
  | nil => rfl
  | cons r rs =>
    have h1 := ho r (List.mem_cons_self ..)
    rw [gN, nameR, List.all_cons, h1]
    by_cases hl : LetP (r.2.1 : Int)
    · by_cases hd : DigP (r.2.1 : Int)
      · rw [if_pos (.inr (.inl ⟨rfl, hd⟩))]
        have : ¬ 57 < r.2.1 := by unfold DigP at hd; omega
        simp [this]
      · rw [if_neg (by rintro (h9 | h9 | h9); exact h9 hl; exact hd h9.2; omega), gN_more rs 1 (by omega) (by omega) (fun q hq => ho q (List.mem_cons_of_mem _ hq)), decide_eq_true hl, Bool.true_and]
        have h57 : 57 < r.2.1 := by unfold DigP at hd; unfold LetP at hl; omega
        simp [h57, Nat.add_comm]
    · rw [if_pos (.inl hl), decide_eq_false hl]; rfl
theorem rnF_ok (l : List UInt8) : ∀ (f i : Nat), ∀ r ∈ rnF f l i, okR r = decide (LetP (r.2.1 : Int))
  | 0, i, r, h => by simp [rnF] at h
  | f + 1, i, r, h => by
    rw [rnF] at h
    split at h
    · rw [List.mem_cons] at h
      rcases h with rfl | h
      · exact okR_let l i
      · exact rnF_ok l f _ r h
    · cases h
theorem name_eq (l : List UInt8) : gN 0 (rns l 0) = nameR (rns l 0) := gN_name _ (rnF_ok l _ _)
/-- The cells of runes. -/
def rcells (rs : List Rn) : List Value := rs.flatMap fun r => [.int .i64 (r.1 : Nat), .int .i64 (r.2.1 : Nat), .bool r.2.2]
theorem rcells_length (rs : List Rn) : (rcells rs).length = rs.length * 3 := by
  induction rs with
  | nil => rfl
  | cons r rs ih => rw [show rcells (r :: rs) = .int .i64 (r.1 : Nat) :: .int .i64 (r.2.1 : Nat) :: .bool r.2.2 :: rcells rs from rfl]; simp only [List.length_cons, ih]; omega
theorem rcells_one (rs : List Rn) : ∀ u ∈ rcells rs, u.oneCell' = true := by
  induction rs with
  | nil => simp [rcells]
  | cons r rs ih =>
    intro u hu
    rw [show rcells (r :: rs) = .int .i64 (r.1 : Nat) :: .int .i64 (r.2.1 : Nat) :: .bool r.2.2 :: rcells rs from rfl, List.mem_cons, List.mem_cons, List.mem_cons] at hu
    rcases hu with rfl | rfl | rfl | hu
    · rfl
    · rfl
    · rfl
    · exact ih u hu
theorem rcells_append (a b : List Rn) : rcells (a ++ b) = rcells a ++ rcells b := by simp [rcells]
theorem rcells_get : ∀ (l : List Rn) (k : Nat) (h : k < l.length), (rcells l)[k * 3 + 1]? = some (.int .i64 (l[k].2.1 : Nat)) ∧ (rcells l)[k * 3 + 2]? = some (.bool l[k].2.2)
  | r :: l, 0, _ => ⟨rfl, rfl⟩
  | r :: l, k + 1, h => by
    have ih := rcells_get l k (by simpa using h)
    rw [show rcells (r :: l) = .int .i64 (r.1 : Nat) :: .int .i64 (r.2.1 : Nat) :: .bool r.2.2 :: rcells l from rfl, show (k + 1) * 3 + 1 = k * 3 + 1 + 1 + 1 + 1 by omega, show (k + 1) * 3 + 2 = k * 3 + 2 + 1 + 1 + 1 by omega]
    simpa using ih
end Go.Proofs.YtjkaenjegcojhaaDoor
