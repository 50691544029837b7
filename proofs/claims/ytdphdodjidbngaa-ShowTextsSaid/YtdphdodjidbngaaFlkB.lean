/- The document's sets of numbers, as contracts. -/
import Derived.Test.YtdphdodjidbngaaFlkA
import Derived.Test.YtdphdodjidbngaaIcell
import Derived.Lib.QuietBelow
namespace Go.Proofs.Ytdphdodjidbngaa
open Go.RowKit
set_option linter.unusedVariables false
set_option linter.unusedSimpArgs false

end Go.Proofs.Ytdphdodjidbngaa

