/- Whether two lists have the same members: the contracts of the statements' helpers and of slices.Equal at each type of member. -/
import Derived.Test.YtbeaicmjohlboabSpan
import Derived.Laws.StructEq
namespace Go.Proofs.Ytbeaicmjohlboab
open Go.RowKit

/-- Are two triples the same; two symbols; two texts? -/
def eqT (a b : Tri) : Bool := a.1 == b.1 && (a.2.1 == b.2.1 && a.2.2 == b.2.2)
theorem eqT_iff {a b : Tri} : eqT a b = true ↔ a = b := by
  obtain ⟨a0, a1, a2⟩ := a; obtain ⟨b0, b1, b2⟩ := b
  simp [eqT]
theorem eqT_no {x0 x1 x2 y0 y1 y2 : Int} (h : eqT (x0, x1, x2) (y0, y1, y2) = false) : ¬ x0 = y0 ∨ (x0 = y0 ∧ ¬ x1 = y1) ∨ (x0 = y0 ∧ x1 = y1 ∧ ¬ x2 = y2) := by
  simp [eqT] at h; by_cases a : x0 = y0 <;> by_cases b : x1 = y1 <;> simp_all
theorem eqT_yes {x0 x1 x2 y0 y1 y2 : Int} (h : eqT (x0, x1, x2) (y0, y1, y2) = true) : x0 = y0 ∧ x1 = y1 ∧ x2 = y2 := by simpa [eqT] using h
end Go.Proofs.Ytbeaicmjohlboab
