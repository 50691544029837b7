/- Two slices of int compared: the reference's Same. -/
import Derived.Test.YthohedadmfbahaaDoorGaP
import Derived.Deep.QuietTactic
import Derived.BigQuiet
namespace Go.Proofs.YthohedadmfbahaaDoor
open Go.RowKit
set_option linter.unusedVariables false

end Go.Proofs.YthohedadmfbahaaDoor
