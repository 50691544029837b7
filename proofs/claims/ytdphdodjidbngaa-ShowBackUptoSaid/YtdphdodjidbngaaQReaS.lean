/- The document's reader of needs: One; the whole. -/
import Derived.Test.YtdphdodjidbngaaQReaR
namespace Go.Proofs.Ytdphdodjidbngaa
open Go.RowKit
set_option linter.unusedVariables false
set_option linter.unusedSimpArgs false

end Go.Proofs.Ytdphdodjidbngaa
