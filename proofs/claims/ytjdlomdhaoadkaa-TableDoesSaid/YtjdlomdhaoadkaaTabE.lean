/- Table: what the two copies of slices.Insert leave. -/
import Derived.Test.YtjdlomdhaoadkaaTabD
import Derived.Test.YtjdlomdhaoadkaaCopyN
import Derived.Test.YtjdlomdhaoadkaaSlice
namespace Go.Proofs.Ytjdlomdhaoadkaa
open Go.RowKit
set_option linter.unusedVariables false
set_option linter.unusedSimpArgs false

theorem r3_len (x : Tr) : (r3 x).length = 3 := rfl
theorem g3_len (l : List Tr) : (gcells r3 l).length = l.length * 3 := gcells_length r3_len l
theorem g3_drop : ∀ (l : List Tr) (k : Nat), (gcells r3 l).drop (k * 3) = gcells r3 (l.drop k)
  | l, 0 => by simp
  | [], k + 1 => by simp [gcells]
  | x :: l, k + 1 => by
    rw [List.drop_succ_cons, gcells_cons, ← g3_drop l k, show (k + 1) * 3 = (r3 x).length + k * 3 by rw [r3_len, Nat.succ_mul]; omega, List.drop_length_add_append]
theorem g3_take : ∀ (l : List Tr) (k : Nat), (gcells r3 l).take (k * 3) = gcells r3 (l.take k)
  | l, 0 => by simp [gcells]
  | [], k + 1 => by simp [gcells]
  | x :: l, k + 1 => by
    rw [List.take_succ_cons, gcells_cons, gcells_cons, ← g3_take l k, show (k + 1) * 3 = (r3 x).length + k * 3 by rw [r3_len, Nat.succ_mul]; omega, List.take_length_add_append]
/-- Block g is a row of rows. -/
def RB (w : World) (g cap : Nat) (cur : Array Value) : Prop := w.heap[g]? = some (.cells cur 51 (0, 0)) ∧ cur.size = cap * 3
theorem RB.cell {w : World} {g cap : Nat} {cur : Array Value} (h : RB w g cap cur) (i : Nat) : w.cell? ⟨g, i, none⟩ = cur.toList[i]? := by
  rw [cell_of_row _ _ _ _ _ _ h.1]
  simp
theorem copy_rb {w : World} {g cap : Nat} {cur : Array Value} (h : RB w g cap cur) (o n dc : Nat) (b s sl sc : Nat) (ys : List Tr) (ty : TypeId) (hn : ys.length = Nat.min sl n) (hfit : (o + ys.length) ≤ cap)
    (hsrc : ∀ j v, (gcells r3 ys)[j]? = some v → w.cell? ⟨b, s * 3 + j, none⟩ = some v) :
    ∃ w' cur', (Builtin.copy_ #[25, 25] ty #[.slice (some ⟨g, o * 3, none⟩) n dc, .slice (some ⟨b, s * 3, none⟩) sl sc]).run Try.prog w = .ok (goInt ((ys.length : Nat) : Int)) w' ∧ RB w' g cap cur' ∧ cur'.toList = cur.toList.take (o * 3) ++ gcells r3 ys ++ cur.toList.drop (o * 3 + ys.length * 3) ∧ (∀ j, j ≠ g → w'.heap[j]? = w.heap[j]?) ∧ Below g w w' := by
  have hlen := g3_len ys
  have hcur := h.2
  have hrun := run_copy_rowN (P := Try.prog) w 25 25 ty 51 g (o * 3) n dc 3 ⟨b, s * 3, none⟩ sl sc cur _ (gcells r3 ys) Try.underlying25 (by kernel_rfl) h.1 (by rw [hlen, hn]) (fun j v hj => by
    rw [add_none]
    exact hsrc j v hj) (by rw [hlen, hcur]; omega) (gcells_r3_one ys)
  rw [← hn, hlen] at hrun
  refine ⟨_, _, hrun, ⟨setRow_heap w g cur _ _ _ h.1, ?_⟩, by simp, fun j hj => setRow_other w g j _ hj, below_setRow (Below.refl _ _) (Nat.le_refl _) _⟩
  simp only [List.size_toArray, List.length_append, List.length_take, List.length_drop, Array.length_toList, hlen, hcur]
  omega
theorem ins_mid (l : List Tr) (x : Tr) (k : Nat) : gcells r3 (l.take k ++ x :: l.drop k) = (gcells r3 l).take (k * 3) ++ r3 x ++ (gcells r3 l).drop (k * 3) := by
  rw [gcells_append, gcells_cons, g3_take, g3_drop, List.append_assoc]
/-- In place. -/
theorem put_shift {l : List Tr} {x : Tr} {k : Nat} (hk : k < l.length) {c0 c1 c2 : List Value} (h0 : c0.take (l.length * 3) = gcells r3 l) (hl : l.length * 3 + 3 ≤ c0.length)
    (h1 : c1 = c0.take ((k + 1) * 3) ++ gcells r3 (l.drop k) ++ c0.drop ((k + 1) * 3 + (l.drop k).length * 3)) (h2 : c2 = c1.take (k * 3) ++ gcells r3 [x] ++ c1.drop (k * 3 + [x].length * 3)) :
    c2.take ((l.length + 1) * 3) = gcells r3 (l.take k ++ x :: l.drop k) := by
  have e1 : c1.take (k * 3) = (gcells r3 l).take (k * 3) := by
    rw [h1, List.append_assoc, List.take_append_of_le_length (by rw [List.length_take]; omega), List.take_take, Nat.min_eq_left (by omega), ← h0, List.take_take, Nat.min_eq_left (by omega)]
  have e2 : c1.drop (k * 3 + [x].length * 3) = gcells r3 (l.drop k) ++ c0.drop ((k + 1) * 3 + (l.drop k).length * 3) := by
    rw [h1, List.append_assoc]
    have : (c0.take ((k + 1) * 3)).length = k * 3 + [x].length * 3 := by rw [List.length_take]; simp; omega
    rw [← this, List.drop_left]
  rw [h2, e1, e2, ins_mid, ← g3_drop, show gcells r3 [x] = r3 x by simp [gcells]]
  have hlen : ((gcells r3 l).take (k * 3) ++ r3 x ++ (gcells r3 l).drop (k * 3)).length = (l.length + 1) * 3 := by
    simp only [List.length_append, List.length_take, List.length_drop, g3_len, r3_len]
    omega
  rw [← List.append_assoc, ← hlen, List.take_left]
/-- In a new row. -/
theorem put_grow {l : List Tr} {x : Tr} {k : Nat} (hk : k < l.length) {c0 c1 c2 : List Value} (h0 : c0.take (k * 3) = (gcells r3 l).take (k * 3)) (hl : l.length * 3 + 3 ≤ c0.length)
    (h1 : c1 = c0.take (k * 3) ++ gcells r3 [x] ++ c0.drop (k * 3 + [x].length * 3)) (h2 : c2 = c1.take ((k + 1) * 3) ++ gcells r3 (l.drop k) ++ c1.drop ((k + 1) * 3 + (l.drop k).length * 3)) :
    c2.take ((l.length + 1) * 3) = gcells r3 (l.take k ++ x :: l.drop k) := by
  have hx : gcells r3 [x] = r3 x := by simp [gcells]
  have e1 : c1.take ((k + 1) * 3) = (gcells r3 l).take (k * 3) ++ r3 x := by
    have : (c0.take (k * 3) ++ gcells r3 [x]).length = (k + 1) * 3 := by rw [List.length_append, List.length_take, g3_len]; simp; omega
    rw [h1, ← this, List.take_left, h0, hx]
  rw [h2, e1, ins_mid, ← g3_drop]
  have hlen : ((gcells r3 l).take (k * 3) ++ r3 x ++ (gcells r3 l).drop (k * 3)).length = (l.length + 1) * 3 := by
    simp only [List.length_append, List.length_take, List.length_drop, g3_len, r3_len]
    omega
  rw [← hlen, List.take_left]
end Go.Proofs.Ytjdlomdhaoadkaa
