/- event.possible, event.after, event.Step at Accepted: contracts. -/
import Derived.Test.YtgakobolhmdnnaaGreatQSpB
namespace Go.Proofs.YtgakobolhmdnnaaGreat
open Go.RowKit Go.Sort
set_option linter.unusedVariables false
set_option linter.unusedSimpArgs false

theorem own_rep {w : World} {N n T b : Nat} {z : Value} {xs : List Value} (h : w.heap[N]? = some (.cells (Array.replicate n z) T (0, 0))) (hb : b ≤ N) (hm : n ≤ maxLen) (hx : xs = List.replicate n z) : w.ownsRow b T 1 (.slice (some ⟨N, 0, none⟩) n n) n xs := by
  subst hx
  exact ⟨by simp, .inr ⟨N, n, _, rfl, hb, h, Nat.le_refl _, hm, by simp, by simp⟩⟩
theorem sl_blk6 {w : World} {N t : Nat} {x0 x1 x2 x3 x4 x5 : Value} (h : w.heap[N]? = some (.cells #[x0, x1, x2, x3, x4, x5] t (0, 0))) : Sl w 6 (some ⟨N, 0, none⟩) 1 1 [x0, x1, x2, x3, x4, x5] :=
  ⟨rfl, Nat.le_refl _, by unfold maxLen; omega, fun _ => ⟨N, 0, rfl, fun i hi => by rw [Nat.zero_add, cell_of_row w N i _ t (0, 0) h]; simp⟩⟩
/-- The entry of a job that is accepted. -/
def newE (j : Int) (ns : List (List UInt8)) : En := ⟨j, 0, 1, ns, List.replicate ns.length 0, List.replicate ns.length false⟩

end Go.Proofs.YtgakobolhmdnnaaGreat
