/- The words of a text: plain. -/
import Derived.Test.YtnjfcdmnedmldaaLexM
import Derived.Test.YtnjfcdmnedmldaaGlyN
namespace Go.Proofs.Ytnjfcdmnedmldaa
open Go.RowKit
set_option linter.unusedVariables false
set_option linter.unusedSimpArgs false

def SigP (c : Int) : Prop := c = 40 ∨ c = 41 ∨ c = 33 ∨ c = 38 ∨ c = 124 ∨ c = 42
instance (c : Int) : Decidable (SigP c) := by unfold SigP; infer_instance
/-- A word: its text and its place. -/
abbrev Wd := List UInt8 × Nat
/-- More text for the last word. -/
def addL : List Wd → List UInt8 → List Wd
  | [], _ => []
  | [w], t => [(w.1 ++ t, w.2)]
  | w :: v :: ws, t => w :: addL (v :: ws) t
theorem addL_snoc : ∀ (ws : List Wd) (w : Wd) (t : List UInt8), addL (ws ++ [w]) t = ws ++ [(w.1 ++ t, w.2)]
  | [], w, t => rfl
  | [v], w, t => rfl
  | v :: u :: ws, w, t => by
    have := addL_snoc (u :: ws) w t
    simp only [List.cons_append, addL] at this ⊢
    rw [this]
/-- The bytes of a rune. -/
def bytesR (l : List UInt8) (p : Nat) : List UInt8 := (l.drop p).take (szN (l.drop p))
/-- The words, the place, the answer. -/
def lexF (l : List UInt8) : List Wd → Bool → Nat → List Rn → List Wd × Nat × Nat
  | ws, _, _, [] => (ws, 0, 0)
  | ws, run, at', r :: rs =>
    if LetP (r.2.1 : Int) then lexF l (addL (if run = true then ws else ws ++ [([], at')]) (bytesR l r.1)) true (at' + 1) rs
    else if SigP (r.2.1 : Int) then lexF l (ws ++ [([UInt8.ofNat r.2.1], at')]) false (at' + 1) rs
    else if r.2.1 = 32 then lexF l ws false (at' + 1) rs
    else ([], at', 3)
theorem lexF_let (l : List UInt8) (ws : List Wd) (run : Bool) (k : Nat) (r : Rn) (rs : List Rn) (h : LetP (r.2.1 : Int)) : lexF l ws run k (r :: rs) = lexF l (addL (if run = true then ws else ws ++ [([], k)]) (bytesR l r.1)) true (k + 1) rs := by rw [lexF, if_pos h]
theorem lexF_sig (l : List UInt8) (ws : List Wd) (run : Bool) (k : Nat) (r : Rn) (rs : List Rn) (h : ¬ LetP (r.2.1 : Int)) (h2 : SigP (r.2.1 : Int)) : lexF l ws run k (r :: rs) = lexF l (ws ++ [([UInt8.ofNat r.2.1], k)]) false (k + 1) rs := by rw [lexF, if_neg h, if_pos h2]
theorem lexF_blank (l : List UInt8) (ws : List Wd) (run : Bool) (k : Nat) (r : Rn) (rs : List Rn) (h3 : r.2.1 = 32) : lexF l ws run k (r :: rs) = lexF l ws false (k + 1) rs := by
  rw [lexF, if_neg (by unfold LetP; omega), if_neg (by unfold SigP; omega), if_pos h3]
theorem lexF_bad (l : List UInt8) (ws : List Wd) (run : Bool) (k : Nat) (r : Rn) (rs : List Rn) (h : ¬ LetP (r.2.1 : Int)) (h2 : ¬ SigP (r.2.1 : Int)) (h3 : r.2.1 ≠ 32) : lexF l ws run k (r :: rs) = ([], k, 3) := by rw [lexF, if_neg h, if_neg h2, if_neg h3]
/-- Behind a word's end it is all one whether one ran. -/
theorem lexF_run (l : List UInt8) (ws : List Wd) (k : Nat) (rs : List Rn) (h : ∀ r rs', rs = r :: rs' → ¬ LetP (r.2.1 : Int)) : lexF l ws true k rs = lexF l ws false k rs := by
  cases rs with
  | nil => rfl
  | cons r rs => rw [lexF, lexF, if_neg (h r rs rfl), if_neg (h r rs rfl)]
/-- Where the first of some runes stands. -/
def hdP (l : List UInt8) : List Rn → Nat
  | [] => l.length
  | r :: _ => r.1
theorem hd_pos (l : List UInt8) (p : Nat) (hp : p ≤ l.length) : hdP l (rns l p) = p := by
  by_cases h : p < l.length
  · rw [rns_step l p h]; rfl
  · rw [rns_end l p (by omega)]
    show l.length = p
    omega
theorem step_le (l : List UInt8) (p : Nat) (h : p < l.length) : p + max (szN (l.drop p)) 1 ≤ l.length := by
  have h1 := (szN_le (l.drop p) (by rw [List.length_drop]; omega)).1
  rw [List.length_drop] at h1
  omega
/-- What is left of the runes from the k-th on. -/
theorem drop_rns (l : List UInt8) : ∀ k, ∃ p, p ≤ l.length ∧ (rns l 0).drop k = rns l p
  | 0 => ⟨0, by omega, rfl⟩
  | k + 1 => by
    obtain ⟨p, hp, h⟩ := drop_rns l k
    have e : (rns l 0).drop (k + 1) = ((rns l 0).drop k).drop 1 := by rw [List.drop_drop]
    by_cases hlt : p < l.length
    · refine ⟨p + max (szN (l.drop p)) 1, step_le l p hlt, ?_⟩
      rw [e, h, rns_step l p hlt]
      rfl
    · refine ⟨l.length, Nat.le_refl _, ?_⟩
      rw [e, h, rns_end l p (by omega), rns_end l l.length (by omega)]
      rfl
theorem drop_step (l : List UInt8) (k p : Nat) (hlt : p < l.length) (h : (rns l 0).drop k = rns l p) : (rns l 0).drop (k + 1) = rns l (p + max (szN (l.drop p)) 1) := by
  have e : (rns l 0).drop (k + 1) = ((rns l 0).drop k).drop 1 := by rw [List.drop_drop]
  rw [e, h, rns_step l p hlt]
  rfl
/-- A letter is whole. -/
theorem let_whole (l : List UInt8) (p : Nat) (h : LetP (codeN (l.drop p) (szN (l.drop p)) : Int)) : 0 < szN (l.drop p) := by
  rcases Nat.eq_zero_or_pos (szN (l.drop p)) with e | e
  · rw [e, codeN_0] at h
    exact absurd h let_wrong
  · exact e
/-- A word's text, and one letter more. -/
theorem seg_step (l : List UInt8) (q p : Nat) (hq : q ≤ p) (h : LetP (codeN (l.drop p) (szN (l.drop p)) : Int)) : (l.drop q).take (p - q) ++ bytesR l p = (l.drop q).take (p + max (szN (l.drop p)) 1 - q) := by
  have h1 := let_whole l p h
  rw [Nat.max_eq_left (by omega), bytesR, show p + szN (l.drop p) - q = (p - q) + szN (l.drop p) by omega, List.take_add, List.drop_drop, show q + (p - q) = p by omega]
/-- The document's inner loop: a word that began at place i, byte q, grows by the k-th rune. -/
theorem lexF_grow (l : List UInt8) (ws : List Wd) (i k q p : Nat) (hp : p < l.length) (hq : q ≤ p) (h : LetP (codeN (l.drop p) (szN (l.drop p)) : Int)) :
    lexF l (ws ++ [((l.drop q).take (p - q), i)]) true k (rns l p) = lexF l (ws ++ [((l.drop q).take (p + max (szN (l.drop p)) 1 - q), i)]) true (k + 1) (rns l (p + max (szN (l.drop p)) 1)) := by
  rw [rns_step l p hp, lexF_let l _ true k _ _ h, if_pos rfl, addL_snoc, seg_step l q p hq h]
theorem lexF_first (l : List UInt8) (ws : List Wd) (i p : Nat) (hp : p < l.length) (h : LetP (codeN (l.drop p) (szN (l.drop p)) : Int)) :
    lexF l ws false i (rns l p) = lexF l (ws ++ [((l.drop p).take (p + max (szN (l.drop p)) 1 - p), i)]) true (i + 1) (rns l (p + max (szN (l.drop p)) 1)) := by
  rw [rns_step l p hp, lexF_let l _ false i _ _ h, if_neg (by simp), addL_snoc]
  have := seg_step l p p (Nat.le_refl _) h
  rw [Nat.sub_self, List.take_zero, List.nil_append] at this
  rw [List.nil_append, this]
/-- The cells of words. -/
def wcells (ws : List Wd) : List Value := ws.flatMap fun w => [.string (str w.1), .int .i64 (w.2 : Nat)]
theorem wcells_cons (w : Wd) (ws : List Wd) : wcells (w :: ws) = .string (str w.1) :: .int .i64 (w.2 : Nat) :: wcells ws := rfl
theorem wcells_length (ws : List Wd) : (wcells ws).length = ws.length * 2 := by
  induction ws with
  | nil => rfl
  | cons w ws ih => rw [wcells_cons]; simp only [List.length_cons, ih]; omega
theorem wcells_append (a b : List Wd) : wcells (a ++ b) = wcells a ++ wcells b := by simp [wcells]
theorem wcells_one (ws : List Wd) : ∀ u ∈ wcells ws, u.oneCell' = true := by
  induction ws with
  | nil => simp [wcells]
  | cons w ws ih =>
    intro u hu
    rw [wcells_cons, List.mem_cons, List.mem_cons] at hu
    rcases hu with rfl | rfl | hu
    · rfl
    · rfl
    · exact ih u hu
theorem wcells_get : ∀ (l : List Wd) (k : Nat) (h : k < l.length), (wcells l)[k * 2]? = some (.string (str l[k].1)) ∧ (wcells l)[k * 2 + 1]? = some (.int .i64 (l[k].2 : Nat))
  | w :: l, 0, _ => ⟨rfl, rfl⟩
  | w :: l, k + 1, h => by
    have ih := wcells_get l k (by simpa using h)
    rw [wcells_cons, show (k + 1) * 2 + 1 = k * 2 + 1 + 1 + 1 by omega, show (k + 1) * 2 = k * 2 + 1 + 1 by omega]
    simpa using ih
/-- The last word's text is set. -/
theorem wcells_add (ws : List Wd) (w : Wd) (t : List UInt8) : (wcells (ws ++ [w])).set (ws.length * 2) (.string (str (w.1 ++ t))) = wcells (addL (ws ++ [w]) t) := by
  rw [addL_snoc, wcells_append, wcells_append, List.set_append_right _ _ (by rw [wcells_length]; omega), wcells_length, Nat.sub_self]
  rfl
end Go.Proofs.Ytnjfcdmnedmldaa
