/- The walk of SimSteps: for whatever circuit, state and row the statement's Go function answers true, and nothing that was there has turned. -/
import Derived.Test.YtdodhbfplglbkaaSStarts
import Derived.Test.YtdodhbfplglbkaaSimO
namespace Go.Proofs.Ytdodhbfplglbkaa
open Go.RowKit

/-- What is answered, also of what is refused. -/
def valA (C : Circ) (O : List Int) (st row : List Bool) : List Bool := if fitE C st row = 0 then valF C O st row else []
section
variable {w : World} {V : CV} {C : Circ} {sv rv : Value} {st row : List Bool} {O : List Int}
theorem nil_own (w : World) (B : Nat) : w.ownsRow B 4 1 (.slice none 0 0) ([] : List Bool).length (([] : List Bool).map Value.bool) := ⟨rfl, .inl ⟨rfl, rfl⟩⟩
theorem Values_own (h : C.In w V) (ok : C.Ok) (hs : RowE 1 encO w sv st) (hr : RowE 1 encO w rv row) (hO : (checkR C).2 = 0 → IsOrd C O) :
    Calls Try.prog 111 #[V.val C.max, sv, rv] w fun e w' => Below w.heap.size w w' ∧ ∃ v, e = .returned (.tuple #[v, .int .i64 (fitE C st row)]) ∧ w'.ownsRow w.heap.size 4 1 v (valA C O st row).length ((valA C O st row).map Value.bool) := by
  refine (Values_any w V C sv rv st row O h ok hs hr hO).mono ?_
  rintro e w' ⟨hb, v, rfl, hno, hyes⟩
  refine ⟨hb, v, rfl, ?_⟩
  unfold valA
  by_cases h0 : fitE C st row = 0
  · rw [if_pos h0]
    obtain ⟨g, rfl, hg, ht⟩ := hyes h0
    have := tab_ownO ht hg (by rw [valF_len]; have := (right_of (fitE_ok h0).1).m1; unfold maxLen; omega)
    rw [valF_len] at this ⊢
    exact this
  · rw [if_neg h0, hno h0]; exact nil_own _ _
end
end Go.Proofs.Ytdodhbfplglbkaa
