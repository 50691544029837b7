/- A row of the call's own, opened. -/
import Derived.Test.YtdphdodjidbngaaStep
namespace Go.Proofs.Ytdphdodjidbngaa
open Go.RowKit
set_option linter.unusedVariables false
set_option linter.unusedSimpArgs false

/-- A row of the call's own (any cells an element): where it lies, its cells, a store into it. -/
theorem own_open {w : World} {base e s n : Nat} {v : Value} {xs : List Value} (h : w.ownsRow base e s v n xs) (h0 : 0 < n) (hs : 0 < s) : ∃ g cap, v = .slice (some ⟨g, 0, none⟩) n cap ∧ base ≤ g ∧ n ≤ cap ∧ cap ≤ maxLen ∧
    (∀ i (hi : i < xs.length), w.cell? ⟨g, i, none⟩ = some xs[i] ∧ w.frozen? ⟨g, i, none⟩ = false) ∧
    (∀ i u, (w.setCell ⟨g, i, none⟩ u).ownsRow base e s v n (xs.set i u)) ∧ g < w.heap.size := by
  obtain ⟨hx, h2⟩ := h
  rcases h2 with ⟨rfl, rfl⟩ | ⟨g, cap, cur, rfl, hb, hg, hnc, hcm, hcs, ht⟩
  · omega
  · have hlen : xs.length ≤ cur.size := by
      rw [hx, hcs]
      exact Nat.mul_le_mul_right _ hnc
    refine ⟨g, cap, rfl, hb, hnc, hcm, fun i hi => ⟨?_, frozen_of_row w g i cur e hg⟩, fun i u => ⟨by rw [List.length_set]; exact hx, .inr ⟨g, cap, _, rfl, hb, heap_setCell_same w g i cur e u hg, hnc, hcm, by simpa using hcs, ?_⟩⟩, lt_of_block hg⟩
    · rw [cell_of_row w g i cur e (0, 0) hg]
      have h9 := congrArg (fun q => q[i]?) ht
      simp only [List.getElem?_take, List.getElem?_eq_getElem hi] at h9
      rw [if_pos (by omega)] at h9
      simpa using h9
    · simp only [Array.toList_setIfInBounds]
      rw [List.take_set, ht]
end Go.Proofs.Ytdphdodjidbngaa

