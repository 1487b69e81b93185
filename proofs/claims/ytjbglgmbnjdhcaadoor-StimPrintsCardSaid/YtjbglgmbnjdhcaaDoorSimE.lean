/- Sim: the contracts of the program's calls Values, Next, Holds. -/
import Derived.Test.YtjbglgmbnjdhcaaDoorSimB
import Derived.Test.YtjbglgmbnjdhcaaDoorRfO
namespace Go.Proofs.YtjbglgmbnjdhcaaDoor
open Go.RowKit

/-- The one order of a right circuit's gates. -/
structure IsOrd (C : Circ) (O : List Int) : Prop where
  g : Greedy (usesC C) O
  l : O.length = C.ands.length
theorem IsOrd.inR {C : Circ} {O : List Int} (h : IsOrd C O) : ∀ x ∈ O, 0 ≤ x ∧ x < (C.ands.length : Int) := fun x hx => by
  have := h.g.inR x hx
  unfold InR at this
  rw [usesC_len] at this
  exact this
end Go.Proofs.YtjbglgmbnjdhcaaDoor

namespace Go.Proofs.YtjbglgmbnjdhcaaDoor
open Go.RowKit

theorem slO_form {w : World} {v : Value} {t : List Bool} (h : RowE 1 encO w v t) : ∃ A n c, v = .slice A n c := by
  obtain ⟨A, c, e, _⟩ := h
  exact ⟨A, _, c, e⟩
end Go.Proofs.YtjbglgmbnjdhcaaDoor
