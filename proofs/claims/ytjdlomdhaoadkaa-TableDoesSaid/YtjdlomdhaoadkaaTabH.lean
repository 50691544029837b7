/- Table: Insert whole; Set: contracts. -/
import Derived.Test.YtjdlomdhaoadkaaTabG
namespace Go.Proofs.Ytjdlomdhaoadkaa
open Go.RowKit
set_option linter.unusedVariables false
set_option linter.unusedSimpArgs false

theorem insert_any (base vb cap k : Nat) (A : Option Addr) (l : List Tr) (x : Tr) (W : World) (ho : W.ownsRow base 51 3 (.slice A l.length cap) l.length (gcells r3 l)) (hb : base ≤ W.heap.size) (hv : W.heap[vb]? = some (.cells #[.int .i64 x.1, .int .i64 x.2.1, .int .i64 x.2.2] 51 (0, 0))) (hne : ∀ g, A = some ⟨g, 0, none⟩ → vb ≠ g) (hk : k ≤ l.length) (hl : l.length ≤ 1000) :
    Calls Try.prog 26 #[.slice A l.length cap, .int .i64 (k : Int), .slice (some ⟨vb, 0, none⟩) 1 1] W fun e w' => ∃ v, e = .returned v ∧ w'.ownsRow base 51 3 v (l.length + 1) (gcells r3 (l.take k ++ x :: l.drop k)) ∧ Below base W w' := by
  by_cases hkl : k = l.length
  · subst hkl
    rw [List.take_length, List.drop_length]
    refine insert_end base A cap vb l x W ho hb ⟨rfl, Nat.le_refl _, by unfold maxLen; omega, fun _ => ⟨vb, 0, rfl, fun i hi => ?_⟩⟩ hl
    rw [cell_of_row _ _ _ _ _ _ hv]
    simp [gcells, r3]
  · rcases ho.2 with ⟨h', h''⟩ | ⟨g, cap', cur, h', hgb, hg, hnc, hcm, hcs, ht⟩
    · omega
    · simp only [Value.slice.injEq, true_and] at h'
      obtain ⟨rfl, rfl⟩ := h'
      by_cases hroom : l.length + 1 ≤ cap
      · exact insert_shift base g cap vb k cur l x W ⟨hg, hcs⟩ hgb ht hroom hcm hv (hne g rfl) (by omega) hl
      · exact insert_grow base g cap vb k cur l x W ⟨hg, hcs⟩ hb ht hnc (by omega) hv (by omega) hl
def posF (c d : Int) : List Tr → Nat
  | [] => 0
  | x :: l => if cmpR x c d < 0 then posF c d l + 1 else 0
theorem pos_eq (c d : Int) : ∀ (l : List Tr) (k : Nat), PosR l c d k → k = posF c d l
  | [], k, h => by have := h.1; simp at this; simp [posF, this]
  | x :: l, k, h => by
    rw [posF]
    by_cases hx : cmpR x c d < 0
    · rw [if_pos hx]
      match k, h with
      | 0, h => exact absurd hx (h.2.2 0 (by simp) (Nat.le_refl _))
      | k + 1, h =>
        rw [← pos_eq c d l k ⟨by have := h.1; simp at this; omega, fun j hj hjk => h.2.1 (j + 1) (by simpa using hj) (by omega), fun j hj hjk => h.2.2 (j + 1) (by simpa using hj) (by omega)⟩]
    · rw [if_neg hx]
      match k, h with
      | 0, h => rfl
      | k + 1, h => exact absurd (h.2.1 0 (by simp) (by omega)) hx
def setK (l : List Tr) (c d s : Int) (k : Nat) : List Tr := if fndB l c d k then l.set k ((l.getD k tz).1, (l.getD k tz).2.1, s) else l.take k ++ (c, d, s) :: l.drop k
def setOk (l : List Tr) (c d s : Int) : Bool := if chkB l then permB (stF c d l) s else false
def setT (l : List Tr) (c d s : Int) : List Tr := if setOk l c d s then setK l c d s (posF c d l) else l
theorem g3_set (l : List Tr) (k : Nat) (hk : k < l.length) (s : Int) : (gcells r3 l).set (k * 3 + 2) (.int .i64 s) = gcells r3 (l.set k (l[k].1, l[k].2.1, s)) := by
  induction l generalizing k with
  | nil => simp at hk
  | cons x l ih =>
    match k with
    | 0 => simp [gcells, r3]
    | k + 1 =>
      have hk2 : k < l.length := by simpa using hk
      rw [List.set_cons_succ, gcells_cons, gcells_cons, List.getElem_cons_succ, ← ih k hk2]
      rw [show (k + 1) * 3 + 2 = k * 3 + 2 + 1 + 1 + 1 by omega]
      rfl
end Go.Proofs.Ytjdlomdhaoadkaa
