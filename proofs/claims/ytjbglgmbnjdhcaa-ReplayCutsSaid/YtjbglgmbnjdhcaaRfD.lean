/- The document's own look at what is defined: it answers what the program's answers. -/
import Derived.Test.YtjbglgmbnjdhcaaRfA
import Derived.Deep.RegionHeld3
import Derived.Deep.RegionWith
import Derived.StillTailTactics
namespace Go.Proofs.Ytjbglgmbnjdhcaa
open Go.RowKit

end Go.Proofs.Ytjbglgmbnjdhcaa

namespace Go.Proofs.Ytjbglgmbnjdhcaa
open Go.RowKit

end Go.Proofs.Ytjbglgmbnjdhcaa
