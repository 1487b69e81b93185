/- The contracts of the table of defined variables: a new one, what is defined, what is used. -/
import Derived.Test.YtjbglgmbnjdhcaaDoorCirc
import Derived.Laws.MakeOwn
namespace Go.Proofs.YtjbglgmbnjdhcaaDoor
open Go.RowKit

theorem defE_bad {tb : List Bool} {l : Int} (h : l < 2 ∨ l % 2 = 1 ∨ (tb.length : Int) ≤ l / 2) : defE tb l = 30 := if_pos h
theorem useE_bad {tb : List Bool} {l : Int} (h : l < 0 ∨ (tb.length : Int) ≤ l / 2) : useE tb l = 30 := if_pos h
/-- Nothing but the variable 0. -/
def tab0 (n : Nat) : List Bool := (List.replicate (n + 1) false).set 0 true
end Go.Proofs.YtjbglgmbnjdhcaaDoor
