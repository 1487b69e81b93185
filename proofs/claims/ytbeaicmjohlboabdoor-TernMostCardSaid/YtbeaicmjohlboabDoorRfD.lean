/- The document's own look at what is defined: it answers what the program's answers. -/
import Derived.Test.YtbeaicmjohlboabDoorRfA
import Derived.Deep.RegionHeld3
import Derived.Deep.RegionWith
import Derived.StillTailTactics
namespace Go.Proofs.YtbeaicmjohlboabDoor
open Go.RowKit

end Go.Proofs.YtbeaicmjohlboabDoor

namespace Go.Proofs.YtbeaicmjohlboabDoor
open Go.RowKit

end Go.Proofs.YtbeaicmjohlboabDoor
