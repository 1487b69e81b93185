/- The contract of firstRound: the first gate that comes round, as the way along all gates says. -/
import Derived.Test.YtjbglgmbnjdhcaaDoorTarjW
import Derived.Laws.EntriesVeiled
namespace Go.Proofs.YtjbglgmbnjdhcaaDoor
open Go.RowKit

def ts0 (n : Nat) : TS := { first := -1, count := 0, met := List.replicate n 0, opn := [] }
/-- The state behind the first k gates. -/
def tsK (uses : List (Int × Int)) (n : Nat) : Nat → TS
  | 0 => ts0 n
  | k + 1 => if (tsK uses n k).met.getD k 0 = 0 then (followF uses n (tsK uses n k) (k : Int)).1 else tsK uses n k
def firstF (uses : List (Int × Int)) : Int := (tsK uses uses.length uses.length).first
end Go.Proofs.YtjbglgmbnjdhcaaDoor
