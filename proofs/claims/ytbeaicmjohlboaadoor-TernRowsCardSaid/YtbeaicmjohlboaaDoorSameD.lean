/- Whether two circuits are the same: the contract of the statements' helper. -/
import Derived.Test.YtbeaicmjohlboaaDoorSame3
import Derived.Test.YtbeaicmjohlboaaDoorSizes
import Derived.Deep.DeepCutAuto
import Derived.Deep.RegionWith
namespace Go.Proofs.YtbeaicmjohlboaaDoor
open Go.RowKit

end Go.Proofs.YtbeaicmjohlboaaDoor

namespace Go.Proofs.YtbeaicmjohlboaaDoor
open Go.RowKit

end Go.Proofs.YtbeaicmjohlboaaDoor
