/- The document's own look at what is defined: it answers what the program's answers. -/
import Derived.Test.YtbeaicmjohlboaaDoorRfA
import Derived.Deep.RegionHeld3
import Derived.Deep.RegionWith
import Derived.StillTailTactics
namespace Go.Proofs.YtbeaicmjohlboaaDoor
open Go.RowKit

end Go.Proofs.YtbeaicmjohlboaaDoor

namespace Go.Proofs.YtbeaicmjohlboaaDoor
open Go.RowKit

end Go.Proofs.YtbeaicmjohlboaaDoor
