/- Copy's drawn region (ten calls whose answers are new lists): by the rule of webs. -/
import Derived.Test.YtjbglgmbnjdhcaaDoorOrdW
import Derived.Test.YtjbglgmbnjdhcaaDoorClone
import Derived.Test.YtjbglgmbnjdhcaaDoorWesM
import Derived.BigRegion
namespace Go.Proofs.YtjbglgmbnjdhcaaDoor
open Go.RowKit

theorem own_slice_k {w : World} {B n k : Nat} {t : TypeId} {v : Value} {xs : List Value} (h : w.ownsRow B t k v n xs) : ∃ A c, v = .slice A n c := by
  rcases h.2 with ⟨rfl, rfl⟩ | ⟨g, cap, cur, rfl, _⟩
  · exact ⟨_, _, rfl⟩
  · exact ⟨_, _, rfl⟩
end Go.Proofs.YtjbglgmbnjdhcaaDoor
