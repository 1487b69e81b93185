/- Sim: the contracts of the program's calls Values, Next, Holds. -/
import Derived.Test.YtjbglgmbnjdhcaaDoorSimB
import Derived.Test.YtjbglgmbnjdhcaaDoorRfO
namespace Go.Proofs.YtjbglgmbnjdhcaaDoor
open Go.RowKit

end Go.Proofs.YtjbglgmbnjdhcaaDoor

namespace Go.Proofs.YtjbglgmbnjdhcaaDoor
open Go.RowKit

theorem slO_form {w : World} {v : Value} {t : List Bool} (h : RowE 1 encO w v t) : ∃ A n c, v = .slice A n c := by
  obtain ⟨A, c, e, _⟩ := h
  exact ⟨A, _, c, e⟩
end Go.Proofs.YtjbglgmbnjdhcaaDoor
