/- The document's own look at what is defined: it answers what the program's answers. -/
import Derived.Test.YtbeaicmjohlboabRfA
import Derived.Deep.RegionHeld3
import Derived.Deep.RegionWith
import Derived.StillTailTactics
namespace Go.Proofs.Ytbeaicmjohlboab
open Go.RowKit

end Go.Proofs.Ytbeaicmjohlboab

namespace Go.Proofs.Ytbeaicmjohlboab
open Go.RowKit

end Go.Proofs.Ytbeaicmjohlboab
