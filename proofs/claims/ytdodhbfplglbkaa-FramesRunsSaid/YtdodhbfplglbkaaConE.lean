/- Cone: the contracts of literals: of, all, newLiterals. -/
import Derived.Test.YtdodhbfplglbkaaConC
import Derived.Test.YtdodhbfplglbkaaSimK
import Derived.Test.YtdodhbfplglbkaaRep
namespace Go.Proofs.Ytdodhbfplglbkaa
open Go.RowKit Go.Maps

end Go.Proofs.Ytdodhbfplglbkaa

namespace Go.Proofs.Ytdodhbfplglbkaa
open Go.RowKit Go.Maps

/-- The map of literals in memory. -/
def LitRow (w : World) (g n : Nat) (M : List Int) : Prop := Nums w g M ∧ M.length = n
theorem LitRow.at_ {w : World} {g n : Nat} {M : List Int} (h : LitRow w g n M) {v : Nat} (hv : v < n) : w.cell? ⟨g, v, none⟩ = some (.int .i64 (M.getD v 0)) := by
  obtain ⟨x, hx⟩ : ∃ x, M[v]? = some x := ⟨_, List.getElem?_eq_getElem (by rw [h.2]; exact hv)⟩
  rw [List.getD_eq_getElem?_getD, hx]
  exact h.1.cell hx
def FitM (M : List Int) : Prop := ∀ x ∈ M, -1 ≤ x ∧ x ≤ 900000
theorem FitM.get {M : List Int} (h : FitM M) (v : Nat) : -1 ≤ M.getD v 0 ∧ M.getD v 0 ≤ 900000 := by
  rw [List.getD_eq_getElem?_getD]
  rcases hx : M[v]? with _ | x
  · simp
  · exact h x (List.mem_of_getElem? hx)
end Go.Proofs.Ytdodhbfplglbkaa
