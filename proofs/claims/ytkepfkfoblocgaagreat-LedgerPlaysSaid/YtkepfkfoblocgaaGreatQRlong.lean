/- Records are too long: contracts. -/
import Derived.Test.YtkepfkfoblocgaaGreatScP
import Derived.Test.YtkepfkfoblocgaaGreatQStrL
import Derived.Test.YtkepfkfoblocgaaGreatRcP
namespace Go.Proofs.YtkepfkfoblocgaaGreat
open Go.RowKit
set_option linter.unusedVariables false
set_option linter.unusedSimpArgs false

set_option maxRecDepth 20000 in
set_option maxHeartbeats 4000000 in
theorem r17long_any (x : Rc) (A : Option Addr) (c : Nat) (W : World) (hx : TxAt W A c x.ns) : Calls Tryz.prog 25 #[.agg (rcc x A c)] W fun e w' => e = .returned (.bool (longB x.ns 20 300)) ∧ RowKit.Below W.heap.size W w' := by
  have hb0 : RowKit.Below W.heap.size W (W.alloc (.cells (rcc x A c) 46)) := (Below.refl _ _).alloc (Nat.le_refl _) _
  have HL := hid (long_any A x.ns.length c x.ns 20 300 _ (hx.below hb0).1 hx.2)
  have hll := hx.len
  have HB := hid hb0
  clear hx hb0
  obtain ⟨k, j, t, w, s, e, ns⟩ := x
  simp only [rcc] at *
  go_enter Tryz.func25, Tryz.ntmps25
  go_wp2_with fail
  refine HL.out.mono ?_
  rintro x w2 ⟨rfl, rfl⟩
  go_wp2
  go_ret
  exact ⟨rfl, HB.out⟩
def longE (l : List Rc) (most : Int) : Bool := l.any (fun x => longB x.ns 20 300) || decide (most < (l.length : Int))
end Go.Proofs.YtkepfkfoblocgaaGreat
