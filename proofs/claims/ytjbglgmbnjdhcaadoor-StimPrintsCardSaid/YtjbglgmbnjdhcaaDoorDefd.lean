/- The contract of checkDefined: what inputs, latches and gates define. -/
import Derived.Test.YtjbglgmbnjdhcaaDoorTable
namespace Go.Proofs.YtjbglgmbnjdhcaaDoor
open Go.RowKit

theorem defAll_len {α : Type} {lit bad : α → Int} : ∀ (xs : List α) (k : Nat) (tb : List Bool), (defAll lit bad xs k tb).2.length = tb.length
  | [], _, _ => rfl
  | x :: r, k, tb => by
    unfold defAll
    split
    · split
      · rw [defAll_len]; exact defT_len _ _
      · exact defT_len _ _
    · rfl

/-- A latch's reset. -/
def resetE (z : Tri) : Int := if z.2.2 ≠ 0 ∧ z.2.2 ≠ 1 ∧ z.2.2 ≠ z.1 then 33 else 0
def defI (C : Circ) (tb : List Bool) := defAll (fun z : Int => z) (fun _ => 0) C.inputs 0 tb
def defL (C : Circ) (tb : List Bool) := defAll (fun z : Tri => z.1) resetE C.latches 0 tb
def defA (C : Circ) (tb : List Bool) := defAll (fun z : Tri => z.1) (fun _ => 0) C.ands 0 tb
/-- What is wrong with what is defined, and the table behind it. -/
def defR (C : Circ) (tb : List Bool) : (Int × Int) × List Bool :=
  if (defI C tb).1.2 = 0 then (if (defL C (defI C tb).2).1.2 = 0 then defA C (defL C (defI C tb).2).2 else defL C (defI C tb).2) else defI C tb
theorem defR_len (C : Circ) (tb : List Bool) : (defR C tb).2.length = tb.length := by
  unfold defR defI defL defA
  split
  · split
    · rw [defAll_len, defAll_len, defAll_len]
    · rw [defAll_len, defAll_len]
  · rw [defAll_len]
end Go.Proofs.YtjbglgmbnjdhcaaDoor
