/- A struct's array that came in. -/
import Derived.Test.YtkepfkfoblocgaaGreatGaP
namespace Go.Proofs.YtkepfkfoblocgaaGreat
open Go.RowKit
theorem okWide_array' {P : Program} {W : World} {r : Reach} {base : Nat} {t : TypeId} {v : Value} {n : Nat} {e : TypeId} (ht : P.underlying t = some (.array n e)) (h : Value.okWide P W r base t v) : ∃ cs, v = .agg cs ∧ cs.size = P.cellsOf t := by
  simp only [Value.okWide, ht] at h
  obtain ⟨cs, h1, h2, _⟩ := h
  exact ⟨cs, h1, h2⟩
end Go.Proofs.YtkepfkfoblocgaaGreat
