/- A statement's argument that is a circuit, with room for one thing more in each list. -/
import Derived.Test.YtjbglgmbnjdhcaaDoorCopyR
import Derived.Test.YtjbglgmbnjdhcaaDoorLift
import Derived.Deep.Grids
import Derived.Deep.Strs
import Derived.ChangeMaps5
namespace Go.Proofs.YtjbglgmbnjdhcaaDoor
open Go.ChangeShapes Go.WideShapes Go.ChangeAt Go.RowKit

section
variable {H : Type} {enc : TypeId × Value → H} {W : World}

theorem int_word {a : Int} (h : (Lit.int .i64 a).wf = true) : I64 a := by simpa [I64, Lit.wf, IntKind.min, IntKind.max, IntKind.signed, IntKind.bits] using h
theorem cell_int {cs : List Value} {n : Nat} {x : DataW H × List MemPlace} (h : DataW.trod enc Tryd.prog W 0 (fun _ => true) true n 3 cs = some x) : ∃ z, cs = encI z ∧ I64 z := by
  obtain ⟨z, h1, _, h3⟩ := DataW.trod_int Tryd.underlying3 h
  exact ⟨z, h1, int_word h3⟩
theorem one_int : Tryd.prog.cellsOf 3 = 1 := by kernel_rfl
end
end Go.Proofs.YtjbglgmbnjdhcaaDoor

namespace Go.Proofs.YtjbglgmbnjdhcaaDoor
open Go.ChangeShapes Go.WideShapes Go.ChangeAt Go.RowKit

section
variable {H : Type} {enc : TypeId × Value → H} {W : World}
end
end Go.Proofs.YtjbglgmbnjdhcaaDoor
