/- Hash: arguments of HashPlays: a start, a list of calls. -/
import Derived.Test.YtbeaicmjohlboabArgR
import Derived.Test.YtbeaicmjohlboabHPlay
import Derived.Lib.SmallJoins
namespace Go.Proofs.Ytbeaicmjohlboab
open Go.ChangeShapes Go.WideShapes Go.ChangeAt Go.RowKit

section
variable {H : Type} {enc : TypeId × Value → H} {W : World}
def ActOk (z : Int × Int × Int × Int) : Prop := I64 z.1 ∧ I64 z.2.1 ∧ I64 z.2.2.1 ∧ I64 z.2.2.2
theorem fourL {cs : List Value} (h : cs.length = 4) : ∃ a b c d, cs = [a, b, c, d] := by
  match cs, h with
  | [a, b, c, d], _ => exact ⟨a, b, c, d, rfl⟩
theorem cell_act {cs : List Value} {n : Nat} {x : DataW H × List MemPlace} (hl : cs.length = 4) (h : DataW.trod enc Try.prog W 0 (fun _ => true) true n 35 cs = some x) : ∃ z, cs = encA z ∧ ActOk z := by
  obtain ⟨a, b, c, d, rfl⟩ := fourL hl
  obtain ⟨y0, y1, y2, y3, n', _, _, h0, h1, h2, h3⟩ := Go.Joins.trod_struct4 Try.underlying35 h
  simp [one_int] at h0 h1 h2 h3
  obtain ⟨z0, e0, w0⟩ := cell_int h0
  obtain ⟨z1, e1, w1⟩ := cell_int h1
  obtain ⟨z2, e2, w2⟩ := cell_int h2
  obtain ⟨z3, e3, w3⟩ := cell_int h3
  simp only [encI, List.cons.injEq, and_true] at e0 e1 e2 e3
  subst e0 e1 e2 e3
  exact ⟨(z0, z1, z2, z3), rfl, w0, w1, w2, w3⟩
set_option maxRecDepth 10000 in
/-- A list of calls that is handed in. -/
theorem arg_acts {base : Nat} {v : Value} {d : DataW H} {ps : List MemPlace}
    (hval : Value.okWide Try.prog W .any base 24 v) (h : DataW.Trod enc Try.prog W 0 (fun _ => true) true 24 v d ps) (hlt : ∀ x ∈ ps, x.block < W.heap.size)
    (hsz : (d.weights Try.prog 24).all (· ≤ reachBytes) = true) :
    ∃ zs, RowE 4 encA W v zs ∧ ∀ z ∈ zs, ActOk z := by
  obtain ⟨a0, len, cap, rfl⟩ := okWide_slice Try.underlying24 hval
  obtain ⟨fuel, hf⟩ := h
  obtain ⟨v', zs, e, h1, h2⟩ := arg_run (enc' := encA) (Q := fun z _ => ActOk z) Try.underlying24 (by kernel_rfl) lenA (by omega) (fun cs n x hl h _ => cell_act hl h) hf hlt
  simp [Value.cells] at e
  subst e
  have h3 := list_allR Try.underlying24 (b := 32) (by kernel_rfl) h2 hsz
  exact ⟨zs, h1, mem_get (fun i z hz => by obtain ⟨x, h, _⟩ := h3.2 i z hz; exact h)⟩
set_option maxRecDepth 10000 in
/-- A start that is handed in. -/
theorem arg_start {base : Nat} {v : Value} {d : DataW H} {ps : List MemPlace}
    (hval : Value.okWide Try.prog W .any base 23 v) (h : DataW.Trod enc Try.prog W 0 (fun _ => true) true 23 v d ps) : ∃ a b : Int, v = .agg #[.int .i64 a, .int .i64 b] ∧ I64 a ∧ I64 b := by
  obtain ⟨cs, rfl, hcs⟩ := okWide_struct Try.underlying23 hval
  obtain ⟨fuel, hf⟩ := h
  obtain ⟨y0, y1, n, _, hl, h0, h1⟩ := trod_struct2 Try.underlying23 hf
  have hcl : cs.size = 2 := by rw [hcs]; kernel_rfl
  obtain ⟨l⟩ := cs
  match l, hcl with
  | [c0, c1], _ =>
  simp [Value.cells, one_int] at h0 h1
  obtain ⟨z0, e0, w0⟩ := cell_int h0
  obtain ⟨z1, e1, w1⟩ := cell_int h1
  simp only [encI, List.cons.injEq, and_true] at e0 e1
  subst e0 e1
  exact ⟨z0, z1, rfl, w0, w1⟩
end
end Go.Proofs.Ytbeaicmjohlboab
