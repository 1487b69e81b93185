/- Encode: the contract of Cone. -/
import Derived.Test.YtdodhbfplglbkaaConO
import Derived.Test.YtdodhbfplglbkaaEncW
import Derived.RangeFuncBox
import Derived.RangeFuncFrom
import Derived.RangeFuncNested
import Derived.RangeFuncBound
import Derived.RangeFuncCalls
import Derived.RangeFuncLeaves
import Derived.Shelf.Abstract
import Derived.Shelf.RegionOpen
import Derived.OwnWalkIn
import Derived.TacticsInMore
import Derived.LoopNIn
import Derived.LoopIn
import Derived.Test.YtdodhbfplglbkaaTrnF
namespace Go.Proofs.Ytdodhbfplglbkaa
open Go.RowKit Go.Maps

def gateZ (C : Circ) (g : Int) : Tri := C.ands.getD g.toNat (0, 0, 0)
def stepB (C : Circ) (A : List Bool) (g : Int) : List Bool := if A.getD (vOf (gateZ C g).1) false = true then (A.set (vOf (gateZ C g).2.1) true).set (vOf (gateZ C g).2.2) true else A
section
variable {C : Circ} {O : List Int} {L : List Int} {n : Nat}
/-- Behind the gates from i on: what is in the table hangs, the roots are in it, and those gates are closed. -/
structure BInv (C : Circ) (O L : List Int) (n i : Nat) (A : List Bool) : Prop where
  sp : SpI (withU C) L n A
  rt : Rts L A
  cl : ∀ (j : Nat) (g : Int), i ≤ j → O[j]? = some g → A.getD (vOf (gateZ C g).1) false = true → A.getD (vOf (gateZ C g).2.1) false = true ∧ A.getD (vOf (gateZ C g).2.2) false = true
theorem BInv.step (hf : Fine C) (h : NewL C O) (hG : Greedy (usesC C) O) (hl : O.length = C.ands.length) (hn : n = C.max.toNat + 1) {i : Nat} {g : Int} {A : List Bool} (b : BInv C O L n (i + 1) A) (hg : O[i]? = some g) : BInv C O L n i (stepB C A g) := by
  have hr := hG.inR g (List.mem_of_getElem? hg)
  rw [usesC_len] at hr
  unfold InR at hr
  obtain ⟨z, hz⟩ : ∃ z, C.ands[g.toNat]? = some z := ⟨_, List.getElem?_eq_getElem (by omega)⟩
  have hzD : gateZ C g = z := by simp [gateZ, List.getD_eq_getElem?_getD, hz]
  have hzm := List.mem_of_getElem? hz
  have hu := hf.u.a z hzm
  have hm0 := hf.m0
  have v1 : vOf z.2.1 < A.length := by rw [b.sp.len, hn]; unfold vOf; have := hu.1.1; have := hu.1.2.1; omega
  have v2 : vOf z.2.2 < (A.set (vOf z.2.1) true).length := by rw [List.length_set, b.sp.len, hn]; unfold vOf; have := hu.2.1; have := hu.2.2.1; omega
  have hnl : ∀ (j : Nat) (g2 : Int), i ≤ j → O[j]? = some g2 → vOf (gateZ C g2).1 ≠ vOf z.2.1 ∧ vOf (gateZ C g2).1 ≠ vOf z.2.2 := fun j g2 hj hg2 => by
    have k1 := not_later hf h hG hl hg (l := z.2.1) (.inl (by rw [← hzD]; rfl)) hj hg2
    have k2 := not_later hf h hG hl hg (l := z.2.2) (.inr (by rw [← hzD]; rfl)) hj hg2
    exact ⟨k1, k2⟩
  have hget : ∀ v, ((A.set (vOf z.2.1) true).set (vOf z.2.2) true).getD v false = true ↔ (A.getD v false = true ∨ v = vOf z.2.1) ∨ v = vOf z.2.2 := fun v => by rw [setB_get v2, setB_get v1]
  unfold stepB
  rw [hzD]
  by_cases ht : A.getD (vOf z.1) false = true
  · rw [if_pos ht]
    have hd := hf.d.two z.1 (hf.and_mem hzm)
    have hv0 : vOf z.1 ≠ 0 := by unfold vOf; omega
    have hh := b.sp.ok _ hv0 ht
    have hw := withU_and hf hzm
    have s1 := b.sp.set_ (l := z.2.1) (by rw [← b.sp.len]; exact v1) hu.1.1 (fun h2 => by
      have := Hang.left hh (by rw [hw]; exact h2)
      rwa [hw] at this)
    have s2 := s1.set_ (l := z.2.2) (by rw [List.length_set, b.sp.len] at v2; exact v2) hu.2.1 (fun h2 => by
      have := Hang.right hh (by rw [hw]; exact h2)
      rwa [hw] at this)
    refine ⟨s2, fun l hl => (hget _).2 (.inl (.inl (b.rt l hl))), fun j g2 hj hg2 hx => ?_⟩
    by_cases hji : j = i
    · subst hji
      rw [hg] at hg2
      injection hg2 with hg2
      subst hg2
      rw [hzD]
      exact ⟨(hget _).2 (.inl (.inr rfl)), (hget _).2 (.inr rfl)⟩
    · obtain ⟨n1, n2⟩ := hnl j g2 hj hg2
      rcases (hget _).1 hx with (hx | hx) | hx
      · obtain ⟨c1, c2⟩ := b.cl j g2 (by omega) hg2 hx
        exact ⟨(hget _).2 (.inl (.inl c1)), (hget _).2 (.inl (.inl c2))⟩
      · exact absurd hx n1
      · exact absurd hx n2
  · rw [if_neg ht]
    refine ⟨b.sp, b.rt, fun j g2 hj hg2 hx => ?_⟩
    by_cases hji : j = i
    · subst hji
      rw [hg] at hg2
      injection hg2 with hg2
      subst hg2
      rw [hzD] at hx
      exact absurd hx ht
    · exact b.cl j g2 (by omega) hg2 hx
end
end Go.Proofs.Ytdodhbfplglbkaa

namespace Go.Proofs.Ytdodhbfplglbkaa
open Go.RowKit Go.Shelf

attribute [local go_sem] Oper.semAt_some

/-- But for block g nothing of the first N blocks turns. -/
structure KB (N g : Nat) (W W' : World) : Prop where
  os : W'.os = W.os
  tape : W'.tape = W.tape
  output : W'.output = W.output
  size : W.heap.size ≤ W'.heap.size
  blk : ∀ k, k < N → k ≠ g → W'.heap[k]? = W.heap[k]?
theorem KB.refl (N g : Nat) (W : World) : KB N g W W := ⟨rfl, rfl, rfl, Nat.le_refl _, fun _ _ _ => rfl⟩
theorem KB.trans {N g : Nat} {A B C : World} (h : KB N g A B) (k : KB N g B C) : KB N g A C :=
  ⟨k.os.trans h.os, k.tape.trans h.tape, k.output.trans h.output, Nat.le_trans h.size k.size, fun i hi hg => (k.blk i hi hg).trans (h.blk i hi hg)⟩
theorem KB.cell {N g : Nat} {W W' : World} (h : KB N g W W') {p : Addr} (h1 : p.block < N) (h2 : p.block ≠ g) : W'.cell? p = W.cell? p := World.cell?_of_block (h.blk _ h1 h2)
theorem KB.set_ {N g : Nat} {A W : World} (h : KB N g A W) (i : Nat) (u : Value) : KB N g A (W.setCell ⟨g, i, none⟩ u) :=
  ⟨h.os, h.tape, h.output, by simpa using h.size, fun k hk hg => (Below.heap_setCell _ _ _ _ (by simpa using hg)).trans (h.blk k hk hg)⟩
theorem KB.alloc {N g : Nat} {A W : World} (h : KB N g A W) (hN : N ≤ W.heap.size) (o : Obj) : KB N g A (W.alloc o) :=
  ⟨h.os, h.tape, h.output, by have := h.size; simp; omega, fun k hk hg => (Below.heap_alloc W o k (by omega)).trans (h.blk k hk hg)⟩
theorem KB.drew {N g : Nat} {A W : World} (h : KB N g A W) : KB N g A W.drew := ⟨h.os, h.tape, h.output, h.size, h.blk⟩
theorem KB.grown {N g : Nat} {A W W' : World} {row : Option Nat} (h : KB N g A W) (hN : N ≤ W.heap.size) (hg : W.grownBy W' row) (hr : ∀ r, row = some r → N ≤ r) : KB N g A W' :=
  ⟨hg.os.trans h.os, hg.tape.trans h.tape, hg.output.trans h.output, Nat.le_trans h.size hg.size, fun k hk hkg => (hg.block k (by omega) (fun e => by have := hr _ e.symm; omega)).trans (h.blk k hk hkg)⟩
theorem KB.put {N g : Nat} {A W : World} (h : KB N g A W) (l : Nat) (o' : Obj) (hl : N ≤ l) : KB N g A (W.putObj l o') :=
  ⟨h.os, h.tape, h.output, by simpa using h.size, fun k hk hkg => (World.putObj_heap_other (by omega)).trans (h.blk k hk hkg)⟩

end Go.Proofs.Ytdodhbfplglbkaa

namespace Go.Proofs.Ytdodhbfplglbkaa
open Go.RowKit Go.Shelf

section
variable {P : Program} {F : Fence} {n : Nat} {o : Oper} {a : Act} {w : World} {next : Act → World → Prop} {Q : Exit → Act → World → Prop}
variable {ops : Array Oper}
end
end Go.Proofs.Ytdodhbfplglbkaa

namespace Go.Proofs.Ytdodhbfplglbkaa
open Go.RowKit Go.Shelf Go.Maps

attribute [local go_sem] Oper.semAt_some

theorem KB.row {N g : Nat} {W W' : World} {E : Type} {k : Nat} {enc : E → List Value} {v : Value} {zs : List E} {w : World} (h : RowE k enc w v zs) (hb : Below w.heap.size w W) (hk : KB N g W W') (h1 : w.heap.size ≤ N) (h2 : w.heap.size ≤ g) : RowE k enc W' v zs := by
  refine h.below ⟨hk.os.trans hb.os, hk.tape.trans hb.tape, hk.output.trans hb.output, Nat.le_trans hb.size hk.size, fun j hj => ?_⟩
  exact (hk.blk j (by omega) (by omega)).trans (hb.block j hj)
theorem KB.below {N g B : Nat} {w W W' : World} (hb : Below B w W) (hk : KB N g W W') (h1 : B ≤ N) (h2 : B ≤ g) : Below B w W' :=
  ⟨hk.os.trans hb.os, hk.tape.trans hb.tape, hk.output.trans hb.output, Nat.le_trans hb.size hk.size, fun j hj => (hk.blk j (by omega) (by omega)).trans (hb.block j hj)⟩
theorem KB.box {N g k : Nat} {W W' : World} {t : TypeId} {cs : Array Value} (h : Blk W k t cs) (hk : KB N g W W') (h1 : k < N) (h2 : k ≠ g) : Blk W' k t cs := (hk.blk k h1 h2).trans h
end Go.Proofs.Ytdodhbfplglbkaa

namespace Go.Proofs.Ytdodhbfplglbkaa
open Go.RowKit Go.Shelf

def litK (C : Circ) (l : Int) : Bool := decide (0 ≤ l) && decide (l ≤ 2 * C.max + 1)
theorem exec_load_rowE {P : Program} {o : Oper} {ρ : Operand → Value} {w : World} (ty : TypeId) (x : Operand) (ho : o.op = .load ty x) (g : Nat) (hx : ρ x = .pointer (some ⟨g, 0, none⟩)) (t : TypeId) (cs : Array Value) (fr : Nat × Nat) (d : TypeDesc) (hg : w.heap[g]? = some (.cells cs t fr))
    (hu : P.underlying ty = some d) (hd : (match d with | .struct _ | .array _ _ => true | _ => false) = true) (hi : (P.info? ty).map (·.size) = some cs.size) : (execOp ρ o).run P w = .ok (.value (.agg cs)) w := by
  unfold execOp
  simp only [ho, hx, Instr.loadAt, Instr.sureAddr, Sem.run_bind, Sem.run_pure, Result.andThen_ok, run_loadVar_row w g t ty cs fr d hg hu hd hi]

set_option maxHeartbeats 400000 in
set_option maxRecDepth 100000 in
theorem isLiteralE_any (w : World) (V : CV) (m : Nat) (hm : m ≤ 20000) (l : Int) : Calls Try.prog 48 #[V.val m, .int .i64 l] w fun e w' => Below w.heap.size w w' ∧ e = .returned (.bool (decide (0 ≤ l) && decide (l ≤ 2 * (m : Int) + 1))) := by
  have hb : Below w.heap.size w (w.alloc (.cells (V.cells m) 29)) := (Below.refl _ _).alloc (Nat.le_refl _) _
  have HB := Lib.hid hb
  have hw : IntKind.i64.wrap (2 * (m : Int)) = 2 * (m : Int) := i64_in (by omega)
  have hw2 : IntKind.i64.wrap (2 * (m : Int) + 1) = 2 * (m : Int) + 1 := i64_in (by omega)
  obtain ⟨Vi, Vl, Vo, Vb, Vc, Vj, Vf, Va, Vs, Vt⟩ := V
  clear hb
  by_cases h1 : 0 ≤ l
  · go_enter Try.func48, Try.ntmps48
    go_wp2
    go_ret
    exact ⟨HB.out, by simp [h1]⟩
  · go_enter Try.func48, Try.ntmps48
    go_wp2
    go_ret
    exact ⟨HB.out, by simp; omega⟩

end Go.Proofs.Ytdodhbfplglbkaa
