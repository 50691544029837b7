/- SeenTakes whole. -/
import Derived.Test.YtaeonkggilgjpabSeenK
import Derived.Test.YtaeonkggilgjpabRd
namespace Go.Proofs.Ytaeonkggilgjpab
open Go.RowKit

theorem seenTakes_any (m p l : Int) (cs : Array Value) (W : World) (wl : (Lit.int .i64 l).wf = true) (w1 : Rd Try.prog W 24 cs.toList) :
    Calls Try.prog 3 #[.agg #[.int .i64 m, .int .i64 p, .int .i64 l], .agg cs] W fun e w' => e = .returned (.bool true) ∧ Below W.heap.size W w' := by
  obtain ⟨xs, hx⟩ := Rd.array_ints Try.underlying24 Try.underlying3 (by kernel_rfl) (by kernel_rfl) w1
  obtain ⟨a, b, c, rfl, h1, h2, h3⟩ := ints3 hx
  have hl := wf_i64 wl
  have hc := wf_i64 h3
  by_cases h : l < 0
  · exact seenTakes_neg m p l a b c W h
  · exact seenTakes_pos m p l a b c W (by omega) hl.2 hc.2 hc.1
end Go.Proofs.Ytaeonkggilgjpab
