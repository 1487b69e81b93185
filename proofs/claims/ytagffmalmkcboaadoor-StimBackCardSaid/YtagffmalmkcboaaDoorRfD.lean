/- The document's own look at what is defined: it answers what the program's answers. -/
import Derived.Test.YtagffmalmkcboaaDoorRfA
import Derived.Deep.RegionHeld3
import Derived.Deep.RegionWith
import Derived.StillTailTactics
namespace Go.Proofs.YtagffmalmkcboaaDoor
open Go.RowKit

end Go.Proofs.YtagffmalmkcboaaDoor

namespace Go.Proofs.YtagffmalmkcboaaDoor
open Go.RowKit

end Go.Proofs.YtagffmalmkcboaaDoor
