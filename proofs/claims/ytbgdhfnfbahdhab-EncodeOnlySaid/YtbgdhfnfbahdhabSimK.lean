/- Sim: the contract of a moment: what there is to tell of a step. -/
import Derived.Test.YtbgdhfnfbahdhabSimE
import Derived.Test.YtbgdhfnfbahdhabClone
import Derived.Test.YtbgdhfnfbahdhabOrdW
namespace Go.Proofs.Ytbgdhfnfbahdhab
open Go.RowKit

theorem own_slice1 {w : World} {B n : Nat} {t : TypeId} {v : Value} {xs : List Value} {k : Nat} (h : w.ownsRow B t k v n xs) : ∃ A c, v = .slice A n c := by
  rcases h.2 with ⟨rfl, rfl⟩ | ⟨g, cap, cur, rfl, _⟩
  · exact ⟨_, _, rfl⟩
  · exact ⟨_, _, rfl⟩
end Go.Proofs.Ytbgdhfnfbahdhab

namespace Go.Proofs.Ytbgdhfnfbahdhab
open Go.RowKit

abbrev encQ (p : Int × Int) : List Value := [.int .i64 p.1, .int .i64 p.2]
end Go.Proofs.Ytbgdhfnfbahdhab

namespace Go.Proofs.Ytbgdhfnfbahdhab
open Go.RowKit

structure Mom where
  st : List Bool
  holds : Bool
  bads : List Int
  fair : List (Int × Int)
end Go.Proofs.Ytbgdhfnfbahdhab
