/- Declarations. -/
import Derived.Deep.RegionWith
import Derived.Test.YtahnbigkdfmpbaaDoorPDim
import Derived.Test.YtahnbigkdfmpbaaDoorPRow
namespace Go.Proofs.YtahnbigkdfmpbaaDoor
open Go.RowKit
set_option linter.unusedVariables false
set_option linter.unusedSimpArgs false

end Go.Proofs.YtahnbigkdfmpbaaDoor
