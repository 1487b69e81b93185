/- A statement's argument that is a list of numbers. -/
import Derived.Test.YtdodhbfplglbkaaArgR
namespace Go.Proofs.Ytdodhbfplglbkaa
open Go.ChangeShapes Go.WideShapes Go.ChangeAt Go.RowKit

section
variable {H : Type} {enc : TypeId × Value → H} {W : World}
set_option maxRecDepth 10000 in
/-- A row of ints that is handed in. -/
theorem arg_irowC {base : Nat} {v : Value} {d : DataW H} {ps : List MemPlace}
    (hval : Value.okWide Try.prog W .any base 22 v) (h : DataW.Trod enc Try.prog W 0 (fun _ => true) true 22 v d ps) (hlt : ∀ x ∈ ps, x.block < W.heap.size)
    (hsz : (d.weights Try.prog 22).all (· ≤ reachBytes) = true) :
    ∃ zs, RowE 1 encI W v zs ∧ zs.length * 8 ≤ 140737488351232 ∧ ∀ z ∈ zs, I64 z := by
  obtain ⟨a0, len, cap, rfl⟩ := okWide_slice Try.underlying22 hval
  obtain ⟨fuel, hf⟩ := h
  obtain ⟨v', zs, e, h1, h2⟩ := arg_run (enc' := encI) (Q := fun z _ => I64 z) Try.underlying22 one_int lenI (by omega) (fun cs n x _ h _ => cell_int h) hf hlt
  simp [Value.cells] at e
  subst e
  have h3 := list_allR Try.underlying22 (b := 8) (by kernel_rfl) h2 hsz
  exact ⟨zs, h1, by simpa using h3.1, mem_get (fun i z hz => by obtain ⟨x, h, _⟩ := h3.2 i z hz; exact h)⟩
end
end Go.Proofs.Ytdodhbfplglbkaa
