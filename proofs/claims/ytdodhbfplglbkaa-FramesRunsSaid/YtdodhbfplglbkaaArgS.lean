/- A statement's arguments that are rows of truths, traces, numbers. -/
import Derived.Test.YtdodhbfplglbkaaArgR
import Derived.Test.YtdodhbfplglbkaaSimN
namespace Go.Proofs.Ytdodhbfplglbkaa
open Go.ChangeShapes Go.WideShapes Go.ChangeAt Go.RowKit

/-- What the sizes of a trace that is handed in are. -/
structure Tr.Reach (t : Tr) : Prop where
  i : t.init.length ≤ 140737488351232
  r : t.rows.length * 24 ≤ 140737488351232
  rs : ∀ r ∈ t.rows, r.length ≤ 140737488351232
  l : I64 t.loop
section
variable {H : Type} {enc : TypeId × Value → H} {W : World}
set_option maxRecDepth 10000 in
theorem arg_int {base : Nat} {v : Value} {d : DataW H} {ps : List MemPlace} (hval : Value.okWide Try.prog W .any base 3 v) (h : DataW.Trod enc Try.prog W 0 (fun _ => true) true 3 v d ps) : ∃ z, v = .int .i64 z ∧ I64 z := by
  obtain ⟨n, rfl⟩ := okWide_int Try.underlying3 hval
  obtain ⟨fuel, hf⟩ := h
  obtain ⟨z, h1, h2⟩ := cell_int hf
  simp [Value.cells] at h1
  subst h1
  exact ⟨_, rfl, h2⟩
end
end Go.Proofs.Ytdodhbfplglbkaa
