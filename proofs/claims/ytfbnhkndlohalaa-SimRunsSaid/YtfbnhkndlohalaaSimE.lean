/- Sim: the contracts of the program's calls Values, Next, Holds. -/
import Derived.Test.YtfbnhkndlohalaaSimD
namespace Go.Proofs.Ytfbnhkndlohalaa
open Go.RowKit

/-- What is refused of a state and a row. -/
def fitE (C : Circ) (st row : List Bool) : Int := if (checkR C).2 = 0 then (if st.length = C.latches.length ∧ row.length = C.inputs.length then 0 else 4) else (checkR C).2
theorem slO_form {w : World} {v : Value} {t : List Bool} (h : RowE 1 encO w v t) : ∃ A n c, v = .slice A n c := by
  obtain ⟨A, c, e, _⟩ := h
  exact ⟨A, _, c, e⟩
theorem fitE_ok {C : Circ} {st row : List Bool} (h : fitE C st row = 0) : (checkR C).2 = 0 ∧ st.length = C.latches.length ∧ row.length = C.inputs.length := by
  unfold fitE at h
  by_cases h0 : (checkR C).2 = 0
  · rw [if_pos h0] at h
    by_cases h1 : st.length = C.latches.length ∧ row.length = C.inputs.length
    · exact ⟨h0, h1⟩
    · rw [if_neg h1] at h; cases h
  · rw [if_neg h0] at h; exact absurd h h0
theorem fitE_not {C : Circ} {st row : List Bool} (h : (checkR C).2 = 0) (h1 : ¬ (st.length = C.latches.length ∧ row.length = C.inputs.length)) : fitE C st row = 4 := by unfold fitE; rw [if_pos h, if_neg h1]
theorem fitE_bad {C : Circ} {st row : List Bool} (h : (checkR C).2 ≠ 0) : fitE C st row = (checkR C).2 := by unfold fitE; rw [if_neg h]
theorem fitE_yes {C : Circ} {st row : List Bool} (h : (checkR C).2 = 0) (h1 : st.length = C.latches.length) (h2 : row.length = C.inputs.length) : fitE C st row = 0 := by unfold fitE; rw [if_pos h, if_pos ⟨h1, h2⟩]

end Go.Proofs.Ytfbnhkndlohalaa
