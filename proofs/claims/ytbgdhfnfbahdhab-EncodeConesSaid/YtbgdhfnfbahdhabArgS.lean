/- A statement's arguments that are rows of truths, traces, numbers. -/
import Derived.Test.YtbgdhfnfbahdhabArgR
import Derived.Test.YtbgdhfnfbahdhabSimN
namespace Go.Proofs.Ytbgdhfnfbahdhab
open Go.ChangeShapes Go.WideShapes Go.ChangeAt Go.RowKit

/-- What the sizes of a trace that is handed in are. -/
structure Tr.Reach (t : Tr) : Prop where
  i : t.init.length ≤ 140737488351232
  r : t.rows.length * 24 ≤ 140737488351232
  rs : ∀ r ∈ t.rows, r.length ≤ 140737488351232
  l : I64 t.loop
section
variable {H : Type} {enc : TypeId × Value → H} {W : World}
theorem one_bool : Try.prog.cellsOf 4 = 1 := by kernel_rfl
theorem one_bools : Try.prog.cellsOf 30 = 1 := by kernel_rfl
theorem cell_boolS {cs : List Value} {n : Nat} {x : DataW H × List MemPlace} (h : DataW.trod enc Try.prog W 0 (fun _ => true) true n 4 cs = some x) : ∃ z, cs = encO z ∧ True := by
  obtain ⟨b, h1, _⟩ := DataW.trod_bool Try.underlying4 h
  exact ⟨b, h1, trivial⟩
end
end Go.Proofs.Ytbgdhfnfbahdhab
