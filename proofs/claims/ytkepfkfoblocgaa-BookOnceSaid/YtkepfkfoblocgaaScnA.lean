/- scan: the records of bytes: plain; rows of records. -/
import Derived.Test.YtkepfkfoblocgaaRecN
import Derived.Test.YtkepfkfoblocgaaFrmI
import Derived.Test.YtkepfkfoblocgaaKeep
namespace Go.Proofs.Ytkepfkfoblocgaa
open Go.RowKit
set_option linter.unusedVariables false

/-- Do bytes begin with a record's frame? -/
def okR (l : List UInt8) : Prop := (cutS l).2.2 = 0 ∧ qk (cutS l).1 = 0
instance (l : List UInt8) : Decidable (okR l) := by unfold okR; infer_instance
/-- The frames that bytes begin with. -/
def recF : Nat → List UInt8 → List Rc × Nat
  | 0, _ => ([], 0)
  | f + 1, l => if okR l then (pr (cutS l).1 :: (recF f (l.drop (cutS l).2.1)).1, (cutS l).2.1 + (recF f (l.drop (cutS l).2.1)).2) else ([], 0)
def recS (l : List UInt8) : List Rc × Nat := recF (l.length + 1) l
theorem recF_fuel : ∀ f g l, l.length < f → l.length < g → recF f l = recF g l
  | f + 1, g + 1, l, h1, h2 => by
    unfold recF
    by_cases h : okR l
    · have := cutS_used l h.1
      rw [if_pos h, if_pos h, recF_fuel f g _ (by rw [List.length_drop]; omega) (by rw [List.length_drop]; omega)]
    · rw [if_neg h, if_neg h]
  | 0, _, _, h1, _ => absurd h1 (by omega)
  | _ + 1, 0, _, _, h2 => absurd h2 (by omega)
theorem recS_step (l : List UInt8) (h : okR l) : recS l = (pr (cutS l).1 :: (recS (l.drop (cutS l).2.1)).1, (cutS l).2.1 + (recS (l.drop (cutS l).2.1)).2) := by
  have := cutS_used l h.1
  rw [recS, recF, if_pos h, recS, recF_fuel l.length ((l.drop (cutS l).2.1).length + 1) _ (by rw [List.length_drop]; omega) (by omega)]
theorem recS_stop (l : List UInt8) (h : ¬ okR l) : recS l = ([], 0) := by rw [recS, recF, if_neg h]
attribute [irreducible] recS
theorem recS_le : ∀ n l, l.length ≤ n → (recS l).2 ≤ l.length ∧ (recS l).1.length ≤ (recS l).2
  | n, l, hn => by
    by_cases h : okR l
    · have := cutS_used l h.1
      cases n with
      | zero => omega
      | succ n =>
        have ih := recS_le n (l.drop (cutS l).2.1) (by rw [List.length_drop]; omega)
        rw [recS_step l h]
        simp only [List.length_cons, List.length_drop] at *
        omega
    · rw [recS_stop l h]; simp
/-- What a walk of All holds at a loop's head. -/
def RecAt (l : List UInt8) (acc : List Rc) (g : Nat) : Prop := acc ++ (recS (l.drop g)).1 = (recS l).1 ∧ g + (recS (l.drop g)).2 = (recS l).2 ∧ g ≤ l.length ∧ acc.length ≤ g
theorem RecAt.start (l : List UInt8) : RecAt l [] 0 := ⟨by simp, by simp, Nat.zero_le _, Nat.zero_le _⟩
theorem RecAt.next {l : List UInt8} {acc : List Rc} {g : Nat} (h : RecAt l acc g) (h2 : okR (l.drop g)) : RecAt l (acc ++ [pr (cutS (l.drop g)).1]) (g + (cutS (l.drop g)).2.1) := by
  obtain ⟨h3, h4, h5, h6⟩ := h
  have hu := cutS_used _ h2.1
  rw [recS_step _ h2] at h3 h4
  simp only [List.drop_drop, List.length_drop] at h3 h4 hu
  refine ⟨by rw [← h3]; simp, by omega, by omega, by simp; omega⟩
theorem RecAt.stop {l : List UInt8} {acc : List Rc} {g : Nat} (h : RecAt l acc g) (h2 : ¬ okR (l.drop g)) : recS l = (acc, g) := by
  obtain ⟨h3, h4, _, _⟩ := h
  rw [recS_stop _ h2] at h3 h4
  simp only [List.append_nil, Nat.add_zero] at h3 h4
  rw [h3, h4]

/-- An element of a row: a record, and where its texts lie. -/
abbrev El := Rc × Option Addr × Nat
def ecells (l : List El) : List Value := (l.map fun e => (rcc e.1 e.2.1 e.2.2).toList).flatten
theorem ecells_snoc (l : List El) (e : El) : ecells (l ++ [e]) = ecells l ++ (rcc e.1 e.2.1 e.2.2).toList := by simp [ecells]
theorem ecells_length (l : List El) : (ecells l).length = l.length * 7 := by
  induction l with
  | nil => rfl
  | cons e l ih =>
    have h : ecells (e :: l) = (rcc e.1 e.2.1 e.2.2).toList ++ ecells l := by simp [ecells]
    rw [h, List.length_append, ih]
    simp [rcc]; omega
/-- A row of records of the call's own. -/
def RowR (w : World) (B : Nat) (v : Value) (els : List El) : Prop := w.ownsRow B 45 7 v els.length (ecells els) ∧ ∀ e ∈ els, OwnS w B e.2.1 e.2.2 e.1.ns
theorem RowR.nil (w : World) (B : Nat) : RowR w B (.slice none 0 0) [] := ⟨World.ownsRow_nil _ _ _ _, by simp⟩
theorem RowR.keep {w w' : World} {B : Nat} {v : Value} {els : List El} (h : RowR w B v els) (hb : Below w.heap.size w w') : RowR w' B v els := ⟨own_keep h.1 hb, fun e he => (h.2 e he).keep hb⟩
theorem OwnS.mono {w : World} {B B' : Nat} {A : Option Addr} {c : Nat} {l : List (List UInt8)} (h : OwnS w B A c l) (hb : B' ≤ B) : OwnS w B' A c l := ⟨own_mono h.1 hb, h.2⟩
theorem RowR.push {w w' : World} {B c : Nat} {v v' : Value} {els : List El} {x : Rc} {A : Option Addr} (h : RowR w B v els) (hs : OwnS w B A c x.ns) (h2 : w'.ownsRow B 45 7 v' (els.length + 1) (ecells els ++ (rcc x A c).toList))
    (hk : ∀ g, B ≤ g → g < w.heap.size → v.ownBlock ≠ some g → w'.heap[g]? = w.heap[g]?) : RowR w' B v' (els ++ [(x, A, c)]) := by
  refine ⟨?_, fun e he => ?_⟩
  · rw [ecells_snoc, List.length_append]
    exact h2
  · rcases List.mem_append.1 he with he | he
    · exact ⟨own_other (h.2 e he).1 h.1 (by decide) hk, (h.2 e he).2⟩
    · obtain rfl : e = (x, A, c) := by simpa using he
      exact ⟨own_other hs.1 h.1 (by decide) hk, hs.2⟩
theorem info_rec : (Try.prog.info? 45).map (fun i => (i.zero, i.size, i.bytes)) = some (some (.agg #[.int .i64 0, .int .i64 0, .int .i64 0, .int .i64 0, .int .i64 0, .int .i64 0, .slice none 0 0]), 7, 72) := by kernel_rfl
end Go.Proofs.Ytkepfkfoblocgaa
