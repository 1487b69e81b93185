/- Renumbered circuits, as plain data: they are right, have the binary order, and stay as they are when they are renumbered again. -/
import Derived.Test.YtjbglgmbnjdhcaaDoorRenA
import Derived.Test.YtjbglgmbnjdhcaaDoorRight
namespace Go.Proofs.YtjbglgmbnjdhcaaDoor

/-! What a right circuit's definitions say. -/
/-! What is used. -/
/-! What the gates' table says. -/
/-! The new numbers. -/
section
variable {C : Circ} {out : List Int}
end
/-! A renumbered circuit is right. -/
section
variable {C : Circ} {out : List Int}
end
/-! A renumbered circuit stays as it is when it is renumbered again. -/
section
variable {C : Circ} {out : List Int}
/-! The map, as it is looked at entry by entry. -/
end
theorem LitOk.i64 {C : Circ} {l : Int} (hm : C.max ≤ 16384) (h : LitOk C l) : I64 l := by
  obtain ⟨a, b⟩ := h
  exact ⟨by omega, by omega⟩
theorem Right.ok {C : Circ} (h : Right C) (hs : ∀ z ∈ C.symbols, 0 ≤ z.kind ∧ z.kind ≤ 255 ∧ I64 z.at_) (hn : ∀ z ∈ C.symbols, z.name.size ≤ maxLen) : C.Ok := by
  have hm := h.m1
  have big : ∀ {l : Int}, 2 ≤ l ∧ l / 2 ≤ C.max → I64 l := fun hl => ⟨by omega, by omega⟩
  refine ⟨⟨by have := h.m0; omega, by omega⟩, fun l hl => big (h.i l hl), fun z hz => ?_, fun l hl => (h.o l hl).i64 hm, fun l hl => (h.b l hl).i64 hm, fun l hl => (h.c l hl).i64 hm, fun zs hz l hl => (h.j zs hz l hl).i64 hm, fun l hl => (h.f l hl).i64 hm, fun z hz => ?_, hs, hn⟩
  · obtain ⟨a, b, c⟩ := h.l z hz
    refine ⟨big a, b.i64 hm, ?_⟩
    rcases c with c | c | c
    · rw [c]; exact ⟨by omega, by omega⟩
    · rw [c]; exact ⟨by omega, by omega⟩
    · rw [c]; exact big a
  · obtain ⟨a, b, c⟩ := h.a z hz
    exact ⟨big a, b.i64 hm, c.i64 hm⟩
section
open Go.RowKit
/-- But for some blocks nothing turns. -/
structure But (F : Nat → Prop) (w w' : World) : Prop where
  os : w'.os = w.os
  tape : w'.tape = w.tape
  output : w'.output = w.output
  size : w.heap.size ≤ w'.heap.size
  block : ∀ k, k < w.heap.size → ¬ F k → w'.heap[k]? = w.heap[k]?
section
variable {F G : Nat → Prop} {w w' w2 : World}
theorem But.refl (F : Nat → Prop) (w : World) : But F w w := ⟨rfl, rfl, rfl, Nat.le_refl _, fun _ _ _ => rfl⟩
theorem But.of_below (h : Below w.heap.size w w') : But F w w' := ⟨h.os, h.tape, h.output, h.size, fun k hk _ => h.block k hk⟩
theorem But.trans (h : But F w w') (k : But G w' w2) (hg : ∀ x, G x → F x ∨ w.heap.size ≤ x) : But F w w2 :=
  ⟨k.os.trans h.os, k.tape.trans h.tape, k.output.trans h.output, Nat.le_trans h.size k.size, fun x hx hf => (k.block x (Nat.lt_of_lt_of_le hx h.size) (fun g => by
    rcases hg x g with q | q
    · exact hf q
    · omega)).trans (h.block x hx hf)⟩
theorem But.then (h : But F w w') (k : Below w'.heap.size w' w2) : But F w w2 := h.trans (G := fun _ => False) (But.of_below k) (fun _ h => h.elim)
theorem But.alloc (h : But F w w') (o : Obj) : But F w (w'.alloc o) := h.then ((Below.refl _ _).alloc (Nat.le_refl _) _)
theorem But.drew (h : But F w w') : But F w w'.drew := ⟨h.os, h.tape, h.output, h.size, h.block⟩
theorem But.set_ (h : But F w w') {p : Addr} (hp : F p.block ∨ w.heap.size ≤ p.block) (u : Value) : But F w (w'.setCell p u) :=
  h.trans (G := fun x => x = p.block) ⟨rfl, rfl, rfl, by simp [World.setCell], fun x _ hn => Below.heap_setCell _ _ _ _ hn⟩ (fun x hx => by subst hx; exact hp)
theorem But.grown (h : But F w w') {row : Option Nat} (hg : w'.grownBy w2 row) (hr : ∀ k, row = some k → F k ∨ w.heap.size ≤ k) : But F w w2 :=
  h.trans (G := fun x => row = some x) ⟨hg.os, hg.tape, hg.output, hg.size, fun x hx hn => hg.block x hx (fun e => hn e.symm)⟩ (fun x hx => hr x hx)
theorem But.below (h : But F w w') {B : Nat} (hB : B ≤ w.heap.size) (hF : ∀ k, F k → B ≤ k) : Below B w w' := ⟨h.os, h.tape, h.output, h.size, fun k hk => h.block k (by omega) (fun hf => by have := hF k hf; omega)⟩
theorem But.blk (h : But F w w') {g : Nat} {t : TypeId} {cs : Array Value} (hb : Blk w g t cs) (hg : ¬ F g) : Blk w' g t cs := (h.block g hb.lt hg).trans hb
end
end
end Go.Proofs.YtjbglgmbnjdhcaaDoor
