/- The document's Accept of layer 39: contract. -/
import Derived.Test.YthohedadmfbahaaDoorQEvE
namespace Go.Proofs.YthohedadmfbahaaDoor
open Go.RowKit Go.Sort
set_option linter.unusedVariables false
set_option linter.unusedSimpArgs false

end Go.Proofs.YthohedadmfbahaaDoor
