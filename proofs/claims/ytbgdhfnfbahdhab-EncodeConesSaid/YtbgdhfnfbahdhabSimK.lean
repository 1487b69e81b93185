/- Sim: the contract of a moment: what there is to tell of a step. -/
import Derived.Test.YtbgdhfnfbahdhabSimE
import Derived.Test.YtbgdhfnfbahdhabClone
import Derived.Test.YtbgdhfnfbahdhabOrdW
namespace Go.Proofs.Ytbgdhfnfbahdhab
open Go.RowKit

end Go.Proofs.Ytbgdhfnfbahdhab

namespace Go.Proofs.Ytbgdhfnfbahdhab
open Go.RowKit

abbrev encQ (p : Int × Int) : List Value := [.int .i64 p.1, .int .i64 p.2]
end Go.Proofs.Ytbgdhfnfbahdhab

namespace Go.Proofs.Ytbgdhfnfbahdhab
open Go.RowKit

structure Mom where
  st : List Bool
  holds : Bool
  bads : List Int
  fair : List (Int × Int)
end Go.Proofs.Ytbgdhfnfbahdhab
