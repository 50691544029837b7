/- A row of the call's own, stored into element by element. -/
import Derived.Test.YtdphdodjidbngaaRd
namespace Go.Proofs.Ytdphdodjidbngaa
open Go.RowKit

/-- Block g is a row of one-cell elements, whose first cells are xs. -/
def Row (w : World) (g e cap : Nat) (xs : List Value) : Prop := ∃ cur : Array Value, w.heap[g]? = some (.cells cur e (0, 0)) ∧ cur.size = cap ∧ xs.length ≤ cap ∧ cap ≤ maxLen ∧ cur.toList.take xs.length = xs

theorem Row.of_own {w : World} {base e n : Nat} {v : Value} {xs : List Value} (h : w.ownsRow base e 1 v n xs) : xs.length = n ∧ ((v = .slice none 0 0 ∧ n = 0) ∨ ∃ g cap, v = .slice (some ⟨g, 0, none⟩) n cap ∧ base ≤ g ∧ n ≤ cap ∧ cap ≤ maxLen ∧ Row w g e cap xs) := by
  have h1 := h.1
  refine ⟨by omega, ?_⟩
  rcases h.2 with ⟨rfl, rfl⟩ | ⟨g, cap, cur, rfl, hb, hg, hnc, hcm, hcs, ht⟩
  · exact .inl ⟨rfl, rfl⟩
  · refine .inr ⟨g, cap, rfl, hb, hnc, hcm, cur, hg, by omega, by omega, hcm, ?_⟩
    rw [Nat.mul_one] at ht h1
    rw [h1]; exact ht
theorem Row.own {w : World} {base g e cap : Nat} {xs : List Value} (h : Row w g e cap xs) (hb : base ≤ g) : w.ownsRow base e 1 (.slice (some ⟨g, 0, none⟩) xs.length cap) xs.length xs := by
  obtain ⟨cur, h1, h2, h3, h4, h5⟩ := h
  exact ⟨by omega, .inr ⟨g, cap, cur, rfl, hb, h1, h3, h4, by omega, by rw [Nat.mul_one]; exact h5⟩⟩
theorem Row.cell {w : World} {g e cap : Nat} {xs : List Value} (h : Row w g e cap xs) (i : Nat) (hi : i < xs.length) : w.cell? ⟨g, i, none⟩ = some xs[i] ∧ w.frozen? ⟨g, i, none⟩ = false := by
  obtain ⟨cur, h1, h2, h3, h4, h5⟩ := h
  refine ⟨?_, frozen_of_row w g i cur e h1⟩
  rw [cell_of_row w g i cur e (0, 0) h1]
  have : (cur.toList.take xs.length)[i]? = some xs[i] := by rw [h5, List.getElem?_eq_getElem hi]
  rw [List.getElem?_take, if_pos hi] at this
  simpa using this
theorem Row.set {w : World} {g e cap : Nat} {xs : List Value} (h : Row w g e cap xs) (i : Nat) (v : Value) : Row (w.setCell ⟨g, i, none⟩ v) g e cap (xs.set i v) := by
  obtain ⟨cur, h1, h2, h3, h4, h5⟩ := h
  refine ⟨_, heap_setCell_same w g i cur e v h1, by simpa using h2, by simpa using h3, h4, ?_⟩
  simp only [List.length_set, Array.toList_setIfInBounds]
  rw [List.take_set, h5]
theorem Row.block {w w' : World} {g e cap : Nat} {xs : List Value} (h : Row w g e cap xs) (hb : w'.heap[g]? = w.heap[g]?) : Row w' g e cap xs := by
  obtain ⟨cur, h1, h2⟩ := h
  exact ⟨cur, hb.trans h1, h2⟩
theorem Row.lt {w : World} {g e cap : Nat} {xs : List Value} (h : Row w g e cap xs) : g < w.heap.size := by
  obtain ⟨cur, h1, _⟩ := h
  exact lt_of_block h1
theorem Row.below {w w' : World} {g e cap : Nat} {xs : List Value} (h : Row w g e cap xs) (hb : Below w.heap.size w w') : Row w' g e cap xs := h.block (hb.block g h.lt)
theorem Row.sl {w : World} {g e cap : Nat} {xs : List Value} (h : Row w g e cap xs) : Sl w 1 (some ⟨g, 0, none⟩) xs.length cap xs := by
  obtain ⟨a, c, h1, h2⟩ := Sl.of_own (h.own (Nat.zero_le _))
  cases h1
  exact h2
theorem own_mono {w : World} {base b' e s n : Nat} {v : Value} {xs : List Value} (h : w.ownsRow base e s v n xs) (hb : b' ≤ base) : w.ownsRow b' e s v n xs := by
  refine ⟨h.1, ?_⟩
  rcases h.2 with h2 | ⟨g, cap, cur, h3, h4, h5⟩
  · exact .inl h2
  · exact .inr ⟨g, cap, cur, h3, Nat.le_trans hb h4, h5⟩
theorem own_block {w w' : World} {base e s n : Nat} {v : Value} {xs : List Value} (h : w.ownsRow base e s v n xs) (hb : ∀ g o, base ≤ g → w.heap[g]? = some o → w'.heap[g]? = some o) : w'.ownsRow base e s v n xs := by
  refine ⟨h.1, ?_⟩
  rcases h.2 with h2 | ⟨g, cap, cur, h3, h4, h5, h6⟩
  · exact .inl h2
  · exact .inr ⟨g, cap, cur, h3, h4, hb g _ h4 h5, h6⟩
theorem own_setOld {w : World} {base e s n : Nat} {v : Value} {xs : List Value} (h : w.ownsRow base e s v n xs) (p : Addr) (u : Value) (hp : p.block < base) : (w.setCell p u).ownsRow base e s v n xs :=
  own_block h fun _ _ hg ho => (Below.heap_setCell _ _ _ _ (by omega)).trans ho
theorem own_keep {w w' : World} {base e s n : Nat} {v : Value} {xs : List Value} (h : w.ownsRow base e s v n xs) (hb : Below w.heap.size w w') : w'.ownsRow base e s v n xs :=
  own_block h fun _ _ _ ho => keep0 ho hb
theorem sl_own {w : World} {base e s n : Nat} {A : Option Addr} {c : Nat} {xs : List Value} (h : w.ownsRow base e s (.slice A n c) n xs) : Sl w s A n c xs := by
  obtain ⟨a, c', h1, h2⟩ := Sl.of_own h
  cases h1
  exact h2
end Go.Proofs.Ytdphdodjidbngaa

