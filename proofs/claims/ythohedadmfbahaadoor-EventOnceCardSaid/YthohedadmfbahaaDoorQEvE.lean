/- The document's Running, Accept of layer 39: contracts. -/
import Derived.Test.YthohedadmfbahaaDoorEvP
import Derived.Test.YthohedadmfbahaaDoorQJbE
import Derived.Deep.RegionHeld3
import Derived.ChangeKeysEq
namespace Go.Proofs.YthohedadmfbahaaDoor
open Go.RowKit Go.Sort
set_option linter.unusedVariables false
set_option linter.unusedSimpArgs false

end Go.Proofs.YthohedadmfbahaaDoor
