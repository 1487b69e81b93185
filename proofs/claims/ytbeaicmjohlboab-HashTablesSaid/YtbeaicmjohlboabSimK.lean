/- Sim: the contract of a moment: what there is to tell of a step. -/
import Derived.Test.YtbeaicmjohlboabSimD
import Derived.Test.YtbeaicmjohlboabClone
import Derived.Test.YtbeaicmjohlboabOrdM
namespace Go.Proofs.Ytbeaicmjohlboab
open Go.RowKit

end Go.Proofs.Ytbeaicmjohlboab

namespace Go.Proofs.Ytbeaicmjohlboab
open Go.RowKit

theorem own_setQ {w : World} {B n k : Nat} {t : TypeId} {v : Value} {xs : List Value} (h : w.ownsRow B t k v n xs) (p : Addr) (u : Value) (hne : ∀ g, v.ownBlock = some g → g ≠ p.block) : (w.setCell p u).ownsRow B t k v n xs :=
  own_of_block h (fun g hv => Below.heap_setCell _ _ _ _ (hne g hv))
end Go.Proofs.Ytbeaicmjohlboab

namespace Go.Proofs.Ytbeaicmjohlboab
open Go.RowKit

structure Mom where
  st : List Bool
  holds : Bool
  bads : List Int
  fair : List (Int × Int)
end Go.Proofs.Ytbeaicmjohlboab
