/- What memory holds while gates are ordered: the table of those told, the rows of those that wait, the heap, the row that is told. -/
import Derived.Test.YtahjmkdpnkffhaaHeapZ
import Derived.Test.YtahjmkdpnkffhaaTable
namespace Go.Proofs.Ytahjmkdpnkffhaa
open Go.RowKit

theorem own_of_block {w w' : World} {B n size : Nat} {t : TypeId} {v : Value} {xs : List Value} (h : w.ownsRow B t size v n xs) (hb : ∀ g, v.ownBlock = some g → w'.heap[g]? = w.heap[g]?) : w'.ownsRow B t size v n xs := by
  refine ⟨h.1, ?_⟩
  rcases h.2 with h2 | ⟨g, cap, cur, hv, hB, hh, h3⟩
  · exact .inl h2
  · exact .inr ⟨g, cap, cur, hv, hB, (hb g (by subst hv; rfl)).trans hh, h3⟩
/-- Rows of the call's own, each in a block of its own. -/
def Apart (a b : Value × List Int) : Prop := ∀ g, a.1.ownBlock = some g → b.1.ownBlock ≠ some g
theorem Apart.symm {a b : Value × List Int} (h : Apart a b) : Apart b a := fun g hb ha => h g ha hb
structure Fam (w : World) (B : Nat) (R : List (Value × List Int)) : Prop where
  own : ∀ p ∈ R, w.ownsRow B 3 1 p.1 p.2.length (p.2.map (Value.int .i64))
  apart : ∀ (i j : Nat) (a b : Value × List Int), i ≠ j → R[i]? = some a → R[j]? = some b → Apart a b
theorem Fam.keep {w w' : World} {B : Nat} {R : List (Value × List Int)} (h : Fam w B R) (hk : ∀ g, B ≤ g → g < w.heap.size → w'.heap[g]? = w.heap[g]?) : Fam w' B R :=
  ⟨fun p hp => own_of_block (h.own p hp) fun g hg => hk g ((h.own p hp).lt g hg).1 ((h.own p hp).lt g hg).2, h.apart⟩
theorem Fam.upd {w w' : World} {B j : Nat} {R : List (Value × List Int)} {v v' : Value} {l l' : List Int} (h : Fam w B R) (hj : R[j]? = some (v, l)) (hk : ∀ g, B ≤ g → g < w.heap.size → some g ≠ v.ownBlock → w'.heap[g]? = w.heap[g]?)
    (ho : w'.ownsRow B 3 1 v' l'.length (l'.map (Value.int .i64))) (ha : v'.ownBlock = v.ownBlock ∨ ∃ g, v'.ownBlock = some g ∧ w.heap.size ≤ g) : Fam w' B (R.set j (v', l')) := by
  have hjl : j < R.length := (List.getElem?_eq_some_iff.1 hj).1
  have hnew : ∀ (i : Nat) (a : Value × List Int), i ≠ j → R[i]? = some a → Apart a (v', l') := by
    intro i a hij hi g hg hg'
    have hl := (h.own a (List.mem_of_getElem? hi)).lt g hg
    rcases ha with ha | ⟨g', hg2, hlt⟩
    · exact h.apart i j a _ hij hi hj g hg (by rw [← ha]; exact hg')
    · rw [hg2] at hg'
      injection hg' with e
      omega
  have hget : ∀ (i : Nat) (a : Value × List Int), (R.set j (v', l'))[i]? = some a → (i = j ∧ a = (v', l')) ∨ (i ≠ j ∧ R[i]? = some a) := by
    intro i a hi
    rw [List.getElem?_set] at hi
    by_cases e : j = i
    · subst e
      rw [if_pos rfl, if_pos hjl] at hi
      exact .inl ⟨rfl, by injection hi with hi; exact hi.symm⟩
    · rw [if_neg e] at hi
      exact .inr ⟨fun e2 => e e2.symm, hi⟩
  refine ⟨fun p hp => ?_, fun i k a b hik hi hk2 => ?_⟩
  · obtain ⟨i, hi⟩ := List.getElem?_of_mem hp
    rcases hget i p hi with ⟨_, rfl⟩ | ⟨hne, hi⟩
    · exact ho
    · have hpm := List.mem_of_getElem? hi
      refine own_of_block (h.own p hpm) fun g hg => hk g ((h.own p hpm).lt g hg).1 ((h.own p hpm).lt g hg).2 (fun e => ?_)
      exact h.apart i j p _ hne hi hj g hg e.symm
  · rcases hget i a hi with ⟨e1, e2⟩ | ⟨h1, hi2⟩
    · rcases hget k b hk2 with ⟨e3, _⟩ | ⟨h2, hk3⟩
      · exact absurd (e1.trans e3.symm) hik
      · rw [e2]; exact (hnew k b h2 hk3).symm
    · rcases hget k b hk2 with ⟨_, e4⟩ | ⟨h2, hk3⟩
      · rw [e4]; exact hnew i a h1 hi2
      · exact h.apart i k a b hik hi2 hk3
theorem zip_set {α β : Type} : ∀ (xs : List α) (ys : List β) (u : Nat) (x : α) (y : β), (xs.set u x).zip (ys.set u y) = (xs.zip ys).set u (x, y)
  | [], ys, u, x, y => by simp
  | a :: xs, [], u, x, y => by simp
  | a :: xs, b :: ys, 0, x, y => by simp
  | a :: xs, b :: ys, u + 1, x, y => by simp [zip_set xs ys u x y]

structure OB where
  gu : Nat
  gt : Nat
  gw : Nat
  gb : Nat
structure OB.Ok (K : OB) (B : Nat) : Prop where
  gu : K.gu < B
  gt : B ≤ K.gt
  gw : K.gt < K.gw
  gb : K.gw < K.gb
structure OrdSt (w0 : World) (K : OB) (uses : List (Int × Int)) (w : World) (S : OS) (vo vh : Value) (vs : List Value) : Prop where
  below : Below w0.heap.size w0 w
  uses_ : Prs w0 K.gu uses
  tab : Tab w K.gt S.told
  wts : Blk w K.gw 45 vs.toArray
  vl : vs.length = S.wait.length
  box : Blk w K.gb 218 #[vh]
  fam : Fam w (K.gb + 1) ((vo, S.out) :: (vh, S.hp) :: vs.zip S.wait)
section
variable {w0 w w' : World} {K : OB} {uses : List (Int × Int)} {S : OS} {vo vh : Value} {vs : List Value}
theorem OrdSt.size (h : OrdSt w0 K uses w S vo vh vs) : K.gb < w.heap.size := Blk.lt h.box
theorem OrdSt.alloc (h : OrdSt w0 K uses w S vo vh vs) (o : Obj) : OrdSt w0 K uses (w.alloc o) S vo vh vs :=
  ⟨h.below.alloc h.below.size o, h.uses_, Blk.alloc h.tab o, h.wts.alloc o, h.vl, h.box.alloc o, h.fam.keep fun g _ hg => Below.heap_alloc w o g hg⟩
theorem OrdSt.drewN (h : OrdSt w0 K uses w S vo vh vs) (k : Nat) : OrdSt w0 K uses (w.drewN k) S vo vh vs :=
  ⟨below_drewN h.below k, h.uses_, h.tab, h.wts, h.vl, h.box, h.fam.keep fun _ _ _ => rfl⟩
theorem OrdSt.heap (h : OrdSt w0 K uses w S vo vh vs) : HpB w (K.gb + 1) K.gb vh S.hp := ⟨h.box, h.fam.own (vh, S.hp) (by simp), by omega⟩
theorem OrdSt.outRow (h : OrdSt w0 K uses w S vo vh vs) : w.ownsRow (K.gb + 1) 3 1 vo S.out.length (S.out.map (Value.int .i64)) := h.fam.own (vo, S.out) (by simp)
theorem OrdSt.setNext (h : OrdSt w0 K uses w S vo vh vs) (k : Nat) : OrdSt w0 K uses w { S with next := k } vo vh vs := ⟨h.below, h.uses_, h.tab, h.wts, h.vl, h.box, h.fam⟩
theorem OrdSt.waitRow (h : OrdSt w0 K uses w S vo vh vs) {u : Nat} {v : Value} (hu : vs[u]? = some v) : w.ownsRow (K.gb + 1) 3 1 v (wt S.wait (u : Int)).length ((wt S.wait (u : Int)).map (Value.int .i64)) := by
  have hul : u < S.wait.length := by rw [← h.vl]; exact (List.getElem?_eq_some_iff.1 hu).1
  have hz : (vs.zip S.wait)[u]? = some (v, wt S.wait u) := by
    rw [List.getElem?_zip_eq_some]
    refine ⟨hu, ?_⟩
    unfold wt
    simp [List.getD, hul]
  exact h.fam.own (v, wt S.wait u) (by simp [List.mem_of_getElem? hz])
/-- The heap has turned. -/
theorem OrdSt.setHeap (hK : K.Ok w0.heap.size) (h : OrdSt w0 K uses w S vo vh vs) {vh' : Value} {hp' : List Int} (hb : HpB w' (K.gb + 1) K.gb vh' hp') (hk : Keep2 w w' K.gb vh.ownBlock) (ha : vh'.ownBlock = vh.ownBlock ∨ ∃ g, vh'.ownBlock = some g ∧ w.heap.size ≤ g) :
    OrdSt w0 K uses w' { S with hp := hp' } vo vh' vs := by
  obtain ⟨k1, k2, k3, k4⟩ := hK
  have hsz := h.size
  have hrow : ∀ k, k ≤ K.gb → some k ≠ vh.ownBlock := fun k hk e => by
    have := (h.heap.row.lt k e.symm).1
    omega
  have hbl : ∀ k, k < K.gb → w'.heap[k]? = w.heap[k]? := fun k hlt => hk.block k (by omega) (by omega) (hrow k (by omega))
  refine ⟨h.below.trans ⟨hk.os, hk.tape, hk.output, hk.size, fun k hlt => hbl k (by omega)⟩, h.uses_, (hbl _ (by omega)).trans h.tab, (hbl _ (by omega)).trans h.wts, h.vl, hb.box, ?_⟩
  have := h.fam.upd (j := 1) (v := vh) (l := S.hp) (v' := vh') (l' := hp') rfl (fun g hg hlt hne => hk.block g hlt (by omega) hne) hb.row ha
  exact this
/-- A gate waits at another one. -/
theorem OrdSt.setWait (hK : K.Ok w0.heap.size) (h : OrdSt w0 K uses w S vo vh vs) {u : Nat} {v v' : Value} {i : Int} (hu : vs[u]? = some v) (hg : w.grownBy w' v.ownBlock)
    (ho : w'.ownsRow (K.gb + 1) 3 1 v' (wt S.wait u ++ [i]).length ((wt S.wait u ++ [i]).map (Value.int .i64))) (ha : v'.ownBlock = v.ownBlock ∨ ∃ g, v'.ownBlock = some g ∧ w.heap.size ≤ g) :
    OrdSt w0 K uses (w'.setCell ⟨K.gw, u, none⟩ v') (waitF S i (u : Int)) vo vh (vs.set u v') := by
  obtain ⟨k1, k2, k3, k4⟩ := hK
  have hsz := h.size
  have hul : u < S.wait.length := by rw [← h.vl]; exact (List.getElem?_eq_some_iff.1 hu).1
  have hz : (vs.zip S.wait)[u]? = some (v, wt S.wait u) := by
    rw [List.getElem?_zip_eq_some]
    refine ⟨hu, ?_⟩
    unfold wt
    simp [List.getD, hul]
  have hrow : ∀ k, k ≤ K.gb → some k ≠ v.ownBlock := fun k hk e => by
    have := ((h.fam.own (v, wt S.wait u) (by simp [List.mem_of_getElem? hz])).lt k e.symm).1
    omega
  have hbl : ∀ k, k ≤ K.gb → w'.heap[k]? = w.heap[k]? := fun k hlt => hg.block k (by omega) (hrow k (by omega))
  have hf := h.fam.upd (w' := w'.setCell ⟨K.gw, u, none⟩ v') (j := u + 2) (v := v) (l := wt S.wait u) (v' := v') (l' := wt S.wait u ++ [i]) hz
    (fun g hgB hlt hne => (Below.heap_setCell _ _ _ _ (by simp; omega)).trans (hg.block g hlt hne)) (own_set ho (by omega) _ _) ha
  refine ⟨(h.below.trans ⟨hg.os, hg.tape, hg.output, hg.size, fun k hlt => hbl k (by omega)⟩).setCell (by simp; omega) _, h.uses_, Blk.far ((hbl _ (by omega)).trans h.tab) (by simp; omega) _, ?_, ?_, Blk.far ((hbl _ (by omega)).trans h.box) (by simp; omega) _, ?_⟩
  · have := Blk.set_ ((hbl K.gw (by omega)).trans h.wts) u v'
    simpa using this
  · simp [waitF, h.vl]
  · have e : vs.set u v' = vs.set u v' := rfl
    simp only [waitF, Int.toNat_natCast]
    rw [zip_set]
    exact hf
/-- A gate is told. -/
theorem OrdSt.setTold (hK : K.Ok w0.heap.size) (h : OrdSt w0 K uses w S vo vh vs) (i : Nat) : OrdSt w0 K uses (w.setCell ⟨K.gt, i, none⟩ (.bool true)) { S with told := S.told.set i true } vo vh vs := by
  obtain ⟨k1, k2, k3, k4⟩ := hK
  exact ⟨h.below.setCell (by simp; omega) _, h.uses_, Tab.set_ h.tab i true, Blk.far h.wts (by simp; omega) _, h.vl, Blk.far h.box (by simp; omega) _, h.fam.keep fun g hg _ => Below.heap_setCell _ _ _ _ (by simp; omega)⟩
theorem OrdSt.setOut (hK : K.Ok w0.heap.size) (h : OrdSt w0 K uses w S vo vh vs) {vo' : Value} {L : List Int} (hg : w.grownBy w' vo.ownBlock)
    (ho : w'.ownsRow (K.gb + 1) 3 1 vo' L.length (L.map (Value.int .i64))) (ha : vo'.ownBlock = vo.ownBlock ∨ ∃ g, vo'.ownBlock = some g ∧ w.heap.size ≤ g) : OrdSt w0 K uses w' { S with out := L } vo' vh vs := by
  obtain ⟨k1, k2, k3, k4⟩ := hK
  have hsz := h.size
  have hrow : ∀ k, k ≤ K.gb → some k ≠ vo.ownBlock := fun k hk e => by
    have := ((h.fam.own (vo, S.out) (by simp)).lt k e.symm).1
    omega
  have hbl : ∀ k, k ≤ K.gb → w'.heap[k]? = w.heap[k]? := fun k hlt => hg.block k (by omega) (hrow k (by omega))
  exact ⟨h.below.trans ⟨hg.os, hg.tape, hg.output, hg.size, fun k hlt => hbl k (by omega)⟩, h.uses_, (hbl _ (by omega)).trans h.tab, (hbl _ (by omega)).trans h.wts, h.vl, (hbl _ (by omega)).trans h.box,
    h.fam.upd (j := 0) (v := vo) (l := S.out) (v' := vo') (l' := L) rfl (fun g _ hlt hne => hg.block g hlt hne) ho ha⟩
end
end Go.Proofs.Ytahjmkdpnkffhaa
