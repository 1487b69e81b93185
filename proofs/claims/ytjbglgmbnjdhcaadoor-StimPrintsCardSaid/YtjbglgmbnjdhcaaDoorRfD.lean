/- The document's own look at what is defined: it answers what the program's answers. -/
import Derived.Test.YtjbglgmbnjdhcaaDoorRfA
import Derived.Deep.RegionHeld3
import Derived.Deep.RegionWith
import Derived.StillTailTactics
namespace Go.Proofs.YtjbglgmbnjdhcaaDoor
open Go.RowKit

end Go.Proofs.YtjbglgmbnjdhcaaDoor

namespace Go.Proofs.YtjbglgmbnjdhcaaDoor
open Go.RowKit

end Go.Proofs.YtjbglgmbnjdhcaaDoor
