/- Renumber as plain data, and what memory holds while its lists are written. -/
import Derived.Test.YtjbglgmbnjdhcaaDoorUses
import Derived.Test.YtjbglgmbnjdhcaaDoorTable
import Derived.Laws.EntriesVeiled
import Derived.Deep.LoopGhost
import Derived.Deep.RegionWith
import Derived.Test.YtjbglgmbnjdhcaaDoorRight
import Derived.Test.YtjbglgmbnjdhcaaDoorCopy
namespace Go.Proofs.YtjbglgmbnjdhcaaDoor
open Go.RowKit

end Go.Proofs.YtjbglgmbnjdhcaaDoor

namespace Go.Proofs.YtjbglgmbnjdhcaaDoor
open Go.RowKit

end Go.Proofs.YtjbglgmbnjdhcaaDoor

namespace Go.Proofs.YtjbglgmbnjdhcaaDoor
open Go.RowKit

end Go.Proofs.YtjbglgmbnjdhcaaDoor

namespace Go.Proofs.YtjbglgmbnjdhcaaDoor
open Go.RowKit

end Go.Proofs.YtjbglgmbnjdhcaaDoor
