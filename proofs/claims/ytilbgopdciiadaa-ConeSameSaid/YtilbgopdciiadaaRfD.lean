/- The document's own look at what is defined: it answers what the program's answers. -/
import Derived.Test.YtilbgopdciiadaaRfA
import Derived.Deep.RegionHeld3
import Derived.Deep.RegionWith
import Derived.StillTailTactics
namespace Go.Proofs.Ytilbgopdciiadaa
open Go.RowKit

end Go.Proofs.Ytilbgopdciiadaa

namespace Go.Proofs.Ytilbgopdciiadaa
open Go.RowKit

end Go.Proofs.Ytilbgopdciiadaa
