/- Renumber as plain data, and what memory holds while its lists are written. -/
import Derived.Test.YtjbglgmbnjdhcaaDoorUses
import Derived.Test.YtjbglgmbnjdhcaaDoorTable
import Derived.Laws.EntriesVeiled
import Derived.Deep.LoopGhost
import Derived.Deep.RegionWith
import Derived.Test.YtjbglgmbnjdhcaaDoorRight
import Derived.Test.YtjbglgmbnjdhcaaDoorCopy
namespace Go.Proofs.YtjbglgmbnjdhcaaDoor
open Go.RowKit

/-- So many variables get the next new literals. -/
def numF (ls : List Int) (st : Int × List Int) : Int × List Int := ls.foldl (fun s l => (s.1 + 2, s.2.set (l / 2).toNat (s.1 + 2))) st
/-- The map of a circuit's variables, by the gates' order. -/
def newM (C : Circ) (gs : List Int) : List Int := (numF (C.inputs ++ C.latches.map (·.1) ++ gs.map (fun g => (C.ands.getD g.toNat (0, 0, 0)).1)) (0, List.replicate (C.max.toNat + 1) 0)).2
end Go.Proofs.YtjbglgmbnjdhcaaDoor

namespace Go.Proofs.YtjbglgmbnjdhcaaDoor
open Go.RowKit

end Go.Proofs.YtjbglgmbnjdhcaaDoor

namespace Go.Proofs.YtjbglgmbnjdhcaaDoor
open Go.RowKit

end Go.Proofs.YtjbglgmbnjdhcaaDoor

namespace Go.Proofs.YtjbglgmbnjdhcaaDoor
open Go.RowKit

/-- A literal by the map. -/
def mvF (M : List Int) (l : Int) : Int := M.getD (l / 2).toNat 0 + l % 2
end Go.Proofs.YtjbglgmbnjdhcaaDoor
