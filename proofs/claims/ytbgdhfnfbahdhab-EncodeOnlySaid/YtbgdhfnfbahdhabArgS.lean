/- A statement's arguments that are rows of truths, traces, numbers. -/
import Derived.Test.YtbgdhfnfbahdhabArgR
import Derived.Test.YtbgdhfnfbahdhabSimN
namespace Go.Proofs.Ytbgdhfnfbahdhab
open Go.ChangeShapes Go.WideShapes Go.ChangeAt Go.RowKit

/-- What the sizes of a trace that is handed in are. -/
structure Tr.Reach (t : Tr) : Prop where
  i : t.init.length ≤ 140737488351232
  r : t.rows.length * 24 ≤ 140737488351232
  rs : ∀ r ∈ t.rows, r.length ≤ 140737488351232
  l : I64 t.loop
section
variable {H : Type} {enc : TypeId × Value → H} {W : World}
theorem one_bool : Try.prog.cellsOf 4 = 1 := by kernel_rfl
theorem cell_boolS {cs : List Value} {n : Nat} {x : DataW H × List MemPlace} (h : DataW.trod enc Try.prog W 0 (fun _ => true) true n 4 cs = some x) : ∃ z, cs = encO z ∧ True := by
  obtain ⟨b, h1, _⟩ := DataW.trod_bool Try.underlying4 h
  exact ⟨b, h1, trivial⟩
set_option maxRecDepth 10000 in
/-- A row of truths that is handed in. -/
theorem arg_bools {base : Nat} {v : Value} {d : DataW H} {ps : List MemPlace}
    (hval : Value.okWide Try.prog W .any base 30 v) (h : DataW.Trod enc Try.prog W 0 (fun _ => true) true 30 v d ps) (hlt : ∀ x ∈ ps, x.block < W.heap.size)
    (hsz : (d.weights Try.prog 30).all (· ≤ reachBytes) = true) :
    ∃ zs, RowE 1 encO W v zs ∧ zs.length ≤ 140737488351232 := by
  obtain ⟨a0, len, cap, rfl⟩ := okWide_slice Try.underlying30 hval
  obtain ⟨fuel, hf⟩ := h
  obtain ⟨v', zs, e, h1, h2⟩ := arg_run (enc' := encO) (Q := fun _ _ => True) Try.underlying30 one_bool lenO (by omega) (fun cs n x _ h _ => cell_boolS h) hf hlt
  simp [Value.cells] at e
  subst e
  have := (list_allR Try.underlying30 (b := 1) (by kernel_rfl) h2 hsz).1
  exact ⟨zs, h1, by simpa using this⟩
end
end Go.Proofs.Ytbgdhfnfbahdhab
