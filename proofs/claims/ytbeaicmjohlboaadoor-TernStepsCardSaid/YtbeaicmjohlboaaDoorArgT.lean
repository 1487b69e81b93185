/- A statement's arguments that are rows of ints, three rows in one struct, words of 64 bits. -/
import Derived.Test.YtbeaicmjohlboaaDoorArgR
namespace Go.Proofs.YtbeaicmjohlboaaDoor
open Go.ChangeShapes Go.WideShapes Go.ChangeAt Go.RowKit

/-- Three rows of ints: as values, as lists. -/
structure KV where
  l : Value
  i : Value
  s : Value
abbrev KV.cells (U : KV) : Array Value := #[U.l, U.i, U.s]
abbrev KV.val (U : KV) : Value := .agg U.cells
structure Kase where
  l : List Int
  i : List Int
  s : List Int
structure Kase.In (w : World) (U : KV) (x : Kase) : Prop where
  l : RowE 1 encI w U.l x.l
  i : RowE 1 encI w U.i x.i
  s : RowE 1 encI w U.s x.s
theorem Kase.In.below {w w' : World} {U : KV} {x : Kase} (h : x.In w U) (hb : Below w.heap.size w w') : x.In w' U := ⟨h.l.below hb, h.i.below hb, h.s.below hb⟩
structure Kase.Reach (x : Kase) : Prop where
  l : x.l.length * 8 ≤ 140737488351232
  i : x.i.length * 8 ≤ 140737488351232
  s : x.s.length * 8 ≤ 140737488351232
  w : ∀ z ∈ x.s, I64 z
section
variable {H : Type} {enc : TypeId × Value → H} {W : World}
set_option maxRecDepth 10000 in
/-- A row of ints that is handed in. -/
theorem arg_irow {base : Nat} {v : Value} {d : DataW H} {ps : List MemPlace}
    (hval : Value.okWide Tryd.prog W .any base 22 v) (h : DataW.Trod enc Tryd.prog W 0 (fun _ => true) true 22 v d ps) (hlt : ∀ x ∈ ps, x.block < W.heap.size)
    (hsz : (d.weights Tryd.prog 22).all (· ≤ reachBytes) = true) :
    ∃ zs, RowE 1 encI W v zs ∧ zs.length * 8 ≤ 140737488351232 ∧ ∀ z ∈ zs, I64 z := by
  obtain ⟨a0, len, cap, rfl⟩ := okWide_slice Tryd.underlying22 hval
  obtain ⟨fuel, hf⟩ := h
  obtain ⟨v', zs, e, h1, h2⟩ := arg_run (enc' := encI) (Q := fun z _ => I64 z) Tryd.underlying22 one_int lenI (by omega) (fun cs n x _ h _ => cell_int h) hf hlt
  simp [Value.cells] at e
  subst e
  have h3 := list_allR Tryd.underlying22 (b := 8) (by kernel_rfl) h2 hsz
  exact ⟨zs, h1, by simpa using h3.1, mem_get (fun i z hz => by obtain ⟨x, h, _⟩ := h3.2 i z hz; exact h)⟩
set_option maxRecDepth 10000 in
set_option maxHeartbeats 1000000 in
/-- Three rows in one struct that is handed in. -/
theorem arg_kase {base : Nat} {v : Value} {d : DataW H} {ps : List MemPlace}
    (hval : Value.okWide Tryd.prog W .any base 45 v) (h : DataW.Trod enc Tryd.prog W 0 (fun _ => true) true 45 v d ps) (hlt : ∀ x ∈ ps, x.block < W.heap.size)
    (hsz : (d.weights Tryd.prog 45).all (· ≤ reachBytes) = true) :
    ∃ (U : KV) (x : Kase), v = U.val ∧ x.In W U ∧ x.Reach := by
  obtain ⟨cs, rfl, hcs⟩ := okWide_struct Tryd.underlying45 hval
  obtain ⟨fuel, hf⟩ := h
  obtain ⟨xs, n, _, hx, hl, hxl, hfi⟩ := DataW.trod_struct Tryd.underlying45 hf
  simp only [Prod.mk.injEq] at hx
  obtain ⟨rfl, rfl⟩ := hx
  have hcl : cs.size = 3 := by rw [hcs]; kernel_rfl
  obtain ⟨l⟩ := cs
  match l, hcl with
  | [c0, c1, c2], _ =>
  match xs, hxl with
  | [y0, y1, y2], _ =>
  have f0 := hfi 0 _ rfl
  have f1 := hfi 1 _ rfl
  have f2 := hfi 2 _ rfl
  simp [Value.cells, one_ints] at f0 f1 f2
  have hlt' : ∀ y ∈ [y0, y1, y2], ∀ x ∈ y.2, x.block < W.heap.size := fun y hy x hxy => hlt x (List.mem_flatMap.2 ⟨y, hy, hxy⟩)
  rw [DataW.weights, Tryd.underlying45] at hsz
  obtain ⟨v0, z0, e0, r0, d0⟩ := arg_run (enc' := encI) (Q := fun z _ => I64 z) Tryd.underlying22 one_int lenI (by omega) (fun cs n x _ h _ => cell_int h) f0 (hlt' y0 (by simp))
  obtain ⟨v1, z1, e1, r1, d1⟩ := arg_run (enc' := encI) (Q := fun z _ => I64 z) Tryd.underlying22 one_int lenI (by omega) (fun cs n x _ h _ => cell_int h) f1 (hlt' y1 (by simp))
  obtain ⟨v2, z2, e2, r2, d2⟩ := arg_run (enc' := encI) (Q := fun z _ => I64 z) Tryd.underlying22 one_int lenI (by omega) (fun cs n x _ h _ => cell_int h) f2 (hlt' y2 (by simp))
  simp only [List.cons.injEq, and_true] at e0 e1 e2
  subst e0 e1 e2
  have g0 := list_allR Tryd.underlying22 (b := 8) (by kernel_rfl) d0 (each_all hsz (j := 0) rfl rfl)
  have g1 := list_allR Tryd.underlying22 (b := 8) (by kernel_rfl) d1 (each_all hsz (j := 1) rfl rfl)
  have g2 := list_allR Tryd.underlying22 (b := 8) (by kernel_rfl) d2 (each_all hsz (j := 2) rfl rfl)
  exact ⟨⟨c0, c1, c2⟩, ⟨z0, z1, z2⟩, rfl, ⟨r0, r1, r2⟩, ⟨by simpa using g0.1, by simpa using g1.1, by simpa using g2.1, mem_get (fun i z hz => by obtain ⟨x, h, _⟩ := g2.2 i z hz; exact h)⟩⟩
end
end Go.Proofs.YtbeaicmjohlboaaDoor
