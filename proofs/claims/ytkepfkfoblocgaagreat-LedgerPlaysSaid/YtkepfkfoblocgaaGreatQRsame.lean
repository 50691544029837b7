/- Records alike; records that come in: contracts. -/
import Derived.Test.YtkepfkfoblocgaaGreatRcP
import Derived.Test.YtkepfkfoblocgaaGreatQStrC
import Derived.Test.YtkepfkfoblocgaaGreatScP
import Derived.BigQuiet
import Derived.Lib.QuietBelow
namespace Go.Proofs.YtkepfkfoblocgaaGreat
open Go.RowKit Go.Sort
set_option linter.unusedVariables false
set_option linter.unusedSimpArgs false

instance : Inhabited Rc := ⟨⟨0, 0, 0, 0, 0, 0, []⟩⟩
def sameR (x y : Rc) : Bool := x.k == y.k && x.j == y.j && x.t == y.t && x.w == y.w && x.s == y.s && x.e == y.e && x.ns == y.ns
end Go.Proofs.YtkepfkfoblocgaaGreat
