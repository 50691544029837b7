/- PortPlays, of what came in. -/
import Derived.Test.YtdphdodjidbngaaGreatQPvR
namespace Go.Proofs.YtdphdodjidbngaaGreat
open Go.RowKit Go.Sort
set_option linter.unusedVariables false
set_option linter.unusedSimpArgs false

theorem portPlays_rd (A : Option Addr) (cap : Nat) (l : List Ap) (a : Array Value) (w : World) (hA : Sl w 10 A l.length cap (gcells apl l)) (hok : ∀ x ∈ l, ApO2 x) (hr : Rd Tryz.prog w 22 a.toList) :
    Calls Tryz.prog 3 #[.agg a, .slice A l.length cap] w fun e w' => e = .returned (.bool true) ∧ Below w.heap.size w w' := by
  obtain ⟨xs, hx⟩ := Rd.array_ints Tryz.underlying22 Tryz.underlying3 (by kernel_rfl) (by kernel_rfl) hr
  obtain ⟨n0, n1, n2, rfl, -⟩ := ints3 hx
  exact portPlays_law A cap l n0 n1 n2 w hA hok
end Go.Proofs.YtdphdodjidbngaaGreat

