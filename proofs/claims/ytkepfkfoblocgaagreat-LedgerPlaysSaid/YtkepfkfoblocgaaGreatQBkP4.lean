/- The law's grows: contract. -/
import Derived.Test.YtkepfkfoblocgaaGreatQBkP3
import Derived.Test.YtkepfkfoblocgaaGreatQStrC
import Derived.Deep.CutRange
namespace Go.Proofs.YtkepfkfoblocgaaGreat
open Go.RowKit Go.Sort
set_option linter.unusedVariables false
set_option linter.unusedSimpArgs false

end Go.Proofs.YtkepfkfoblocgaaGreat
