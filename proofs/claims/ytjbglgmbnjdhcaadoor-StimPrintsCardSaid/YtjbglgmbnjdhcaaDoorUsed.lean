/- The contract of checkUsed: the literals that are used. -/
import Derived.Test.YtjbglgmbnjdhcaaDoorDefd
import Derived.Test.YtjbglgmbnjdhcaaDoorSizes
import Derived.Laws.Tables
import Derived.Deep.RegionWith
namespace Go.Proofs.YtjbglgmbnjdhcaaDoor
open Go.RowKit

def gateE (tb : List Bool) (z : Tri) : Int := if useE tb z.2.1 = 0 then useE tb z.2.2 else useE tb z.2.1
def usedL (C : Circ) (tb : List Bool) := firstE (fun z : Tri => useE tb z.2.1) C.latches 0
def usedI (zs : List Int) (tb : List Bool) := firstE (useE tb) zs 0
def usedJ (C : Circ) (tb : List Bool) := firstE (fun zs => (usedI zs tb).2) C.justice 0
def usedA (C : Circ) (tb : List Bool) := firstE (gateE tb) C.ands 0
/-- What is wrong with what is used. -/
def usedR (C : Circ) (tb : List Bool) : Int × Int :=
  thenE (usedL C tb) (thenE (usedI C.outputs tb) (thenE (usedI C.bads tb) (thenE (usedI C.constraints tb) (thenE (usedJ C tb) (thenE (usedI C.fairness tb) (usedA C tb))))))
end Go.Proofs.YtjbglgmbnjdhcaaDoor
