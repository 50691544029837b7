/- Find of both: contracts. -/
import Derived.Test.YtkepfkfoblocgaaGreatQBtB
namespace Go.Proofs.YtkepfkfoblocgaaGreat
open Go.RowKit Go.Sort
set_option linter.unusedVariables false
set_option linter.unusedSimpArgs false

/-- What Find answers. -/
def findB (b : List En) (job : Int) : En := match plB b job with | some k => b.getD k ⟨0, 0, 0, [], [], []⟩ | none => ⟨0, 0, 0, [], [], []⟩
def FindR (W : World) (f : En) (ok : Bool) (e : Ending) (w' : World) : Prop :=
  ∃ y : Ee, e = .returned (.tuple #[.agg (ecE y), .bool ok]) ∧ y.1 = f ∧ InE w' y ∧ RowKit.Below W.heap.size W w'
theorem FindR.mk {W : World} {f : En} {ok : Bool} {e : Ending} {w' : World} (y : Ee) (h1 : e = .returned (.tuple #[.agg (ecE y), .bool ok])) (h2 : y.1 = f) (h3 : InE w' y) (h4 : RowKit.Below W.heap.size W w') : FindR W f ok e w' := ⟨y, h1, h2, h3, h4⟩
theorem zeroE (w : World) : InE w (⟨0, 0, 0, [], [], []⟩, ⟨none, 0, none, 0, none, 0⟩) := ⟨⟨Sl.nil _ _ _ _ (Nat.zero_le _), fun s hs => by cases hs⟩, Sl.nil _ _ _ _ (Nat.zero_le _), Sl.nil _ _ _ _ (Nat.zero_le _)⟩
def putZ6 (w : World) (g : Nat) (v0 v1 v2 v3 v4 v5 : Value) : World := (((((w.setCell ⟨g, 0, none⟩ v0).setCell ⟨g, 1, none⟩ v1).setCell ⟨g, 2, none⟩ v2).setCell ⟨g, 3, none⟩ v3).setCell ⟨g, 4, none⟩ v4).setCell ⟨g, 5, none⟩ v5
theorem putZ6_heap {w : World} {g t : Nat} {x0 x1 x2 x3 x4 x5 : Value} (h : w.heap[g]? = some (.cells #[x0, x1, x2, x3, x4, x5] t (0, 0))) (v0 v1 v2 v3 v4 v5 : Value) : (putZ6 w g v0 v1 v2 v3 v4 v5).heap[g]? = some (.cells #[v0, v1, v2, v3, v4, v5] t (0, 0)) := by
  have e0 := heap_setCell_same w g 0 _ _ v0 h
  have e1 := heap_setCell_same _ g 1 _ _ v1 e0
  have e2 := heap_setCell_same _ g 2 _ _ v2 e1
  have e3 := heap_setCell_same _ g 3 _ _ v3 e2
  have e4 := heap_setCell_same _ g 4 _ _ v4 e3
  have e5 := heap_setCell_same _ g 5 _ _ v5 e4
  exact e5
theorem putZ6_below {n : Nat} {W w : World} {g : Nat} (h : RowKit.Below n W w) (hg : n ≤ g) (v0 v1 v2 v3 v4 v5 : Value) : RowKit.Below n W (putZ6 w g v0 v1 v2 v3 v4 v5) :=
  (((((h.setCell (p := ⟨g, 0, none⟩) hg v0).setCell (p := ⟨g, 1, none⟩) hg v1).setCell (p := ⟨g, 2, none⟩) hg v2).setCell (p := ⟨g, 3, none⟩) hg v3).setCell (p := ⟨g, 4, none⟩) hg v4).setCell (p := ⟨g, 5, none⟩) hg v5

end Go.Proofs.YtkepfkfoblocgaaGreat
