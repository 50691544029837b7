/- The document's book: One, Same: contracts. -/
import Derived.Test.YthohedadmfbahaaDoorQSpA
import Derived.Deep.CutRange
import Derived.Test.YthohedadmfbahaaDoorQSame06
import Derived.Test.YthohedadmfbahaaDoorGaP
namespace Go.Proofs.YthohedadmfbahaaDoor
open Go.RowKit Go.Sort
set_option linter.unusedVariables false
set_option linter.unusedSimpArgs false

instance : DecidableEq En := fun a b => decidable_of_iff (a.id = b.id ∧ a.sc = b.sc ∧ a.ep = b.ep ∧ a.ns = b.ns ∧ a.bd = b.bd ∧ a.dn = b.dn) (by cases a; cases b; simp)
theorem dn_eq {l m : List Bool} (hl : l.length = m.length) (h : ∀ j, j < l.length → l.getD j false = m.getD j false) : l = m := by
  apply List.ext_getElem hl
  intro i h1 h2
  have := h i h1
  simpa [List.getD, h1, h2] using this

end Go.Proofs.YthohedadmfbahaaDoor
