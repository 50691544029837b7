/- flock.Each as an iterator, and its callers. -/
import Derived.RangeFuncNested
import Derived.RangeFuncBound
import Derived.RangeFuncCalls
import Derived.RangeFuncLeaves
import Derived.RangeFuncBox
import Derived.Shelf.Abstract
import Derived.Shelf.RegionOpen
import Derived.WalkKit
import Derived.OwnWalkIn
import Derived.TacticsInMore
import Derived.LoopNIn
import Derived.LoopIn
import Derived.Maps.AppendAt
import Derived.Test.YthohedadmfbahaaDoorQAdU
namespace Go.Proofs.YthohedadmfbahaaDoor
open Go.RowKit Go.Shelf
set_option linter.unusedVariables false
set_option linter.unusedSimpArgs false

attribute [local go_sem] Oper.semAt_some

theorem elemsU_pre (s : Nat) : ∀ n m, n ≤ m → elemsU s n <+: elemsU s m := by
  intro n m h
  obtain ⟨d, rfl⟩ : ∃ d, m = n + d := ⟨m - n, by omega⟩
  clear h
  induction d with
  | zero => exact List.prefix_refl _
  | succ d ih => exact ih.trans ⟨_, rfl⟩

/-- The box stays as it is. -/
def KeepsBox (B : Nat) (W W' : World) : Prop := ∀ t v, Boxed W B t v → Boxed W' B t v
theorem keepsBox_t {B : Nat} {X Y Z : World} (h : KeepsBox B X Y) (k : KeepsBox B Y Z) : KeepsBox B X Z := fun t v hv => k t v (h t v hv)
theorem keepsBox_b {B n : Nat} (W : World) (l : Nat) (o o' : Obj) (_ : n ≤ l) (h : W.heap[l]? = some o) (hc : o.isCells = false) (_ : o.isWalk = false) : KeepsBox B W (W.putObj l o') := fun t v hv =>
  hv.kept (grownBy_putObj' W l o') (fun e => by
    obtain rfl : B = l := by simpa using e
    rw [show W.heap[B]? = _ from hv] at h; cases h; cases hc)

theorem keepsBox_of {B : Nat} {X Y : World} {t : TypeId} {v : Value} (h : Boxed X B t v) (k : Boxed Y B t v) : KeepsBox B X Y := fun t' v' h' => by
  have e := (show X.heap[B]? = _ from h).symm.trans h'
  simp at e
  obtain ⟨rfl, rfl⟩ := e
  exact k

end Go.Proofs.YthohedadmfbahaaDoor
