/- A world that differs from another one in a single block, and in new ones. -/
import Derived.Test.YtdphdodjidbngaaBase
namespace Go.Proofs.Ytdphdodjidbngaa
open Go.RowKit
set_option linter.unusedVariables false
set_option linter.unusedSimpArgs false

/-- w' is w, but for new blocks and what lies in block B. -/
structure Only (B : Nat) (w w' : World) : Prop where
  size : w.heap.size ≤ w'.heap.size
  keep : ∀ g, g ≠ B → g < w.heap.size → w'.heap[g]? = w.heap[g]?
  below : ∀ base, base ≤ B → base ≤ w.heap.size → Below base w w'
theorem Only.refl (B : Nat) (w : World) : Only B w w := ⟨Nat.le_refl _, fun _ _ _ => rfl, fun _ _ _ => Below.refl _ _⟩
theorem Only.of_below {B : Nat} {w w' : World} (h : Below w.heap.size w w') : Only B w w' := ⟨h.size, fun g _ hg => h.block g hg, fun base _ hb => h.mono hb⟩
theorem Only.set {B : Nat} {w w' : World} (h : Only B w w') (i : Nat) (v : Value) : Only B w (w'.setCell ⟨B, i, none⟩ v) :=
  ⟨by have := h.size; simpa [World.setCell] using this, fun g hg hl => (Below.heap_setCell _ _ _ _ hg).trans (h.keep g hg hl), fun base h1 h2 => (h.below base h1 h2).setCell h1 v⟩
theorem Only.trans {B : Nat} {w w' w2 : World} (h : Only B w w') (k : Only B w' w2) : Only B w w2 :=
  ⟨Nat.le_trans h.size k.size, fun g hg hl => (k.keep g hg (Nat.lt_of_lt_of_le hl h.size)).trans (h.keep g hg hl), fun base h1 h2 => (h.below base h1 h2).trans (k.below base h1 (Nat.le_trans h2 h.size))⟩
theorem Only.block {B g : Nat} {w w' : World} {o : Obj} (h : Only B w w') (hg : w.heap[g]? = some o) (hne : g ≠ B) : w'.heap[g]? = some o := (h.keep g hne (lt_of_block hg)).trans hg

theorem Only.grow {B : Nat} {w w' w2 : World} (h : Only B w w') (hb : Below w.heap.size w' w2) : Only B w w2 :=
  ⟨Nat.le_trans h.size hb.size, fun g hg hl => (hb.block g hl).trans (h.keep g hg hl), fun base h1 h2 => (h.below base h1 h2).trans (hb.mono h2)⟩
end Go.Proofs.Ytdphdodjidbngaa

