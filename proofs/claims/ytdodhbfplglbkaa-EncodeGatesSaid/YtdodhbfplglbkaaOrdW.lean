/- The contract of order: each gate once, the least one that may come always the next, where none comes round. -/
import Derived.Test.YtdodhbfplglbkaaHeapZ
import Derived.Test.YtdodhbfplglbkaaTable
import Derived.Deep.DeepCutAuto
import Derived.BigRegion
import Derived.WalkMore
import Derived.Deep.LoopGhost
namespace Go.Proofs.Ytdodhbfplglbkaa
open Go.RowKit

theorem own_of_block {w w' : World} {B n size : Nat} {t : TypeId} {v : Value} {xs : List Value} (h : w.ownsRow B t size v n xs) (hb : ∀ g, v.ownBlock = some g → w'.heap[g]? = w.heap[g]?) : w'.ownsRow B t size v n xs := by
  refine ⟨h.1, ?_⟩
  rcases h.2 with h2 | ⟨g, cap, cur, hv, hB, hh, h3⟩
  · exact .inl h2
  · exact .inr ⟨g, cap, cur, hv, hB, (hb g (by subst hv; rfl)).trans hh, h3⟩
/-- Rows of the call's own, each in a block of its own. -/
def Apart (a b : Value × List Int) : Prop := ∀ g, a.1.ownBlock = some g → b.1.ownBlock ≠ some g
theorem Apart.symm {a b : Value × List Int} (h : Apart a b) : Apart b a := fun g hb ha => h g ha hb
structure Fam (w : World) (B : Nat) (R : List (Value × List Int)) : Prop where
  own : ∀ p ∈ R, w.ownsRow B 3 1 p.1 p.2.length (p.2.map (Value.int .i64))
  apart : ∀ (i j : Nat) (a b : Value × List Int), i ≠ j → R[i]? = some a → R[j]? = some b → Apart a b
theorem Fam.keep {w w' : World} {B : Nat} {R : List (Value × List Int)} (h : Fam w B R) (hk : ∀ g, B ≤ g → g < w.heap.size → w'.heap[g]? = w.heap[g]?) : Fam w' B R :=
  ⟨fun p hp => own_of_block (h.own p hp) fun g hg => hk g ((h.own p hp).lt g hg).1 ((h.own p hp).lt g hg).2, h.apart⟩
theorem Fam.upd {w w' : World} {B j : Nat} {R : List (Value × List Int)} {v v' : Value} {l l' : List Int} (h : Fam w B R) (hj : R[j]? = some (v, l)) (hk : ∀ g, B ≤ g → g < w.heap.size → some g ≠ v.ownBlock → w'.heap[g]? = w.heap[g]?)
    (ho : w'.ownsRow B 3 1 v' l'.length (l'.map (Value.int .i64))) (ha : v'.ownBlock = v.ownBlock ∨ ∃ g, v'.ownBlock = some g ∧ w.heap.size ≤ g) : Fam w' B (R.set j (v', l')) := by
  have hjl : j < R.length := (List.getElem?_eq_some_iff.1 hj).1
  have hnew : ∀ (i : Nat) (a : Value × List Int), i ≠ j → R[i]? = some a → Apart a (v', l') := by
    intro i a hij hi g hg hg'
    have hl := (h.own a (List.mem_of_getElem? hi)).lt g hg
    rcases ha with ha | ⟨g', hg2, hlt⟩
    · exact h.apart i j a _ hij hi hj g hg (by rw [← ha]; exact hg')
    · rw [hg2] at hg'
      injection hg' with e
      omega
  have hget : ∀ (i : Nat) (a : Value × List Int), (R.set j (v', l'))[i]? = some a → (i = j ∧ a = (v', l')) ∨ (i ≠ j ∧ R[i]? = some a) := by
    intro i a hi
    rw [List.getElem?_set] at hi
    by_cases e : j = i
    · subst e
      rw [if_pos rfl, if_pos hjl] at hi
      exact .inl ⟨rfl, by injection hi with hi; exact hi.symm⟩
    · rw [if_neg e] at hi
      exact .inr ⟨fun e2 => e e2.symm, hi⟩
  refine ⟨fun p hp => ?_, fun i k a b hik hi hk2 => ?_⟩
  · obtain ⟨i, hi⟩ := List.getElem?_of_mem hp
    rcases hget i p hi with ⟨_, rfl⟩ | ⟨hne, hi⟩
    · exact ho
    · have hpm := List.mem_of_getElem? hi
      refine own_of_block (h.own p hpm) fun g hg => hk g ((h.own p hpm).lt g hg).1 ((h.own p hpm).lt g hg).2 (fun e => ?_)
      exact h.apart i j p _ hne hi hj g hg e.symm
  · rcases hget i a hi with ⟨e1, e2⟩ | ⟨h1, hi2⟩
    · rcases hget k b hk2 with ⟨e3, _⟩ | ⟨h2, hk3⟩
      · exact absurd (e1.trans e3.symm) hik
      · rw [e2]; exact (hnew k b h2 hk3).symm
    · rcases hget k b hk2 with ⟨_, e4⟩ | ⟨h2, hk3⟩
      · rw [e4]; exact hnew i a h1 hi2
      · exact h.apart i k a b hik hi2 hk3
theorem zip_set {α β : Type} : ∀ (xs : List α) (ys : List β) (u : Nat) (x : α) (y : β), (xs.set u x).zip (ys.set u y) = (xs.zip ys).set u (x, y)
  | [], ys, u, x, y => by simp
  | a :: xs, [], u, x, y => by simp
  | a :: xs, b :: ys, 0, x, y => by simp
  | a :: xs, b :: ys, u + 1, x, y => by simp [zip_set xs ys u x y]

structure OB where
  gu : Nat
  gt : Nat
  gw : Nat
  gb : Nat
structure OB.Ok (K : OB) (B : Nat) : Prop where
  gu : K.gu < B
  gt : B ≤ K.gt
  gw : K.gt < K.gw
  gb : K.gw < K.gb
structure OrdSt (w0 : World) (K : OB) (uses : List (Int × Int)) (w : World) (S : OS) (vo vh : Value) (vs : List Value) : Prop where
  below : Below w0.heap.size w0 w
  uses_ : Prs w0 K.gu uses
  tab : Tab w K.gt S.told
  wts : Blk w K.gw 22 vs.toArray
  vl : vs.length = S.wait.length
  box : Blk w K.gb 169 #[vh]
  fam : Fam w (K.gb + 1) ((vo, S.out) :: (vh, S.hp) :: vs.zip S.wait)
section
variable {w0 w w' : World} {K : OB} {uses : List (Int × Int)} {S : OS} {vo vh : Value} {vs : List Value}
theorem OrdSt.size (h : OrdSt w0 K uses w S vo vh vs) : K.gb < w.heap.size := Blk.lt h.box
theorem OrdSt.alloc (h : OrdSt w0 K uses w S vo vh vs) (o : Obj) : OrdSt w0 K uses (w.alloc o) S vo vh vs :=
  ⟨h.below.alloc h.below.size o, h.uses_, Blk.alloc h.tab o, h.wts.alloc o, h.vl, h.box.alloc o, h.fam.keep fun g _ hg => Below.heap_alloc w o g hg⟩
theorem OrdSt.drewN (h : OrdSt w0 K uses w S vo vh vs) (k : Nat) : OrdSt w0 K uses (w.drewN k) S vo vh vs :=
  ⟨below_drewN h.below k, h.uses_, h.tab, h.wts, h.vl, h.box, h.fam.keep fun _ _ _ => rfl⟩
theorem OrdSt.heap (h : OrdSt w0 K uses w S vo vh vs) : HpB w (K.gb + 1) K.gb vh S.hp := ⟨h.box, h.fam.own (vh, S.hp) (by simp), by omega⟩
theorem OrdSt.outRow (h : OrdSt w0 K uses w S vo vh vs) : w.ownsRow (K.gb + 1) 3 1 vo S.out.length (S.out.map (Value.int .i64)) := h.fam.own (vo, S.out) (by simp)
theorem OrdSt.setNext (h : OrdSt w0 K uses w S vo vh vs) (k : Nat) : OrdSt w0 K uses w { S with next := k } vo vh vs := ⟨h.below, h.uses_, h.tab, h.wts, h.vl, h.box, h.fam⟩
theorem OrdSt.waitRow (h : OrdSt w0 K uses w S vo vh vs) {u : Nat} {v : Value} (hu : vs[u]? = some v) : w.ownsRow (K.gb + 1) 3 1 v (wt S.wait (u : Int)).length ((wt S.wait (u : Int)).map (Value.int .i64)) := by
  have hul : u < S.wait.length := by rw [← h.vl]; exact (List.getElem?_eq_some_iff.1 hu).1
  have hz : (vs.zip S.wait)[u]? = some (v, wt S.wait u) := by
    rw [List.getElem?_zip_eq_some]
    refine ⟨hu, ?_⟩
    unfold wt
    simp [List.getD, hul]
  exact h.fam.own (v, wt S.wait u) (by simp [List.mem_of_getElem? hz])
/-- The heap has turned. -/
theorem OrdSt.setHeap (hK : K.Ok w0.heap.size) (h : OrdSt w0 K uses w S vo vh vs) {vh' : Value} {hp' : List Int} (hb : HpB w' (K.gb + 1) K.gb vh' hp') (hk : Keep2 w w' K.gb vh.ownBlock) (ha : vh'.ownBlock = vh.ownBlock ∨ ∃ g, vh'.ownBlock = some g ∧ w.heap.size ≤ g) :
    OrdSt w0 K uses w' { S with hp := hp' } vo vh' vs := by
  obtain ⟨k1, k2, k3, k4⟩ := hK
  have hsz := h.size
  have hrow : ∀ k, k ≤ K.gb → some k ≠ vh.ownBlock := fun k hk e => by
    have := (h.heap.row.lt k e.symm).1
    omega
  have hbl : ∀ k, k < K.gb → w'.heap[k]? = w.heap[k]? := fun k hlt => hk.block k (by omega) (by omega) (hrow k (by omega))
  refine ⟨h.below.trans ⟨hk.os, hk.tape, hk.output, hk.size, fun k hlt => hbl k (by omega)⟩, h.uses_, (hbl _ (by omega)).trans h.tab, (hbl _ (by omega)).trans h.wts, h.vl, hb.box, ?_⟩
  have := h.fam.upd (j := 1) (v := vh) (l := S.hp) (v' := vh') (l' := hp') rfl (fun g hg hlt hne => hk.block g hlt (by omega) hne) hb.row ha
  exact this
/-- A gate waits at another one. -/
theorem OrdSt.setWait (hK : K.Ok w0.heap.size) (h : OrdSt w0 K uses w S vo vh vs) {u : Nat} {v v' : Value} {i : Int} (hu : vs[u]? = some v) (hg : w.grownBy w' v.ownBlock)
    (ho : w'.ownsRow (K.gb + 1) 3 1 v' (wt S.wait u ++ [i]).length ((wt S.wait u ++ [i]).map (Value.int .i64))) (ha : v'.ownBlock = v.ownBlock ∨ ∃ g, v'.ownBlock = some g ∧ w.heap.size ≤ g) :
    OrdSt w0 K uses (w'.setCell ⟨K.gw, u, none⟩ v') (waitF S i (u : Int)) vo vh (vs.set u v') := by
  obtain ⟨k1, k2, k3, k4⟩ := hK
  have hsz := h.size
  have hul : u < S.wait.length := by rw [← h.vl]; exact (List.getElem?_eq_some_iff.1 hu).1
  have hz : (vs.zip S.wait)[u]? = some (v, wt S.wait u) := by
    rw [List.getElem?_zip_eq_some]
    refine ⟨hu, ?_⟩
    unfold wt
    simp [List.getD, hul]
  have hrow : ∀ k, k ≤ K.gb → some k ≠ v.ownBlock := fun k hk e => by
    have := ((h.fam.own (v, wt S.wait u) (by simp [List.mem_of_getElem? hz])).lt k e.symm).1
    omega
  have hbl : ∀ k, k ≤ K.gb → w'.heap[k]? = w.heap[k]? := fun k hlt => hg.block k (by omega) (hrow k (by omega))
  have hf := h.fam.upd (w' := w'.setCell ⟨K.gw, u, none⟩ v') (j := u + 2) (v := v) (l := wt S.wait u) (v' := v') (l' := wt S.wait u ++ [i]) hz
    (fun g hgB hlt hne => (Below.heap_setCell _ _ _ _ (by simp; omega)).trans (hg.block g hlt hne)) (own_set ho (by omega) _ _) ha
  refine ⟨(h.below.trans ⟨hg.os, hg.tape, hg.output, hg.size, fun k hlt => hbl k (by omega)⟩).setCell (by simp; omega) _, h.uses_, Blk.far ((hbl _ (by omega)).trans h.tab) (by simp; omega) _, ?_, ?_, Blk.far ((hbl _ (by omega)).trans h.box) (by simp; omega) _, ?_⟩
  · have := Blk.set_ ((hbl K.gw (by omega)).trans h.wts) u v'
    simpa using this
  · simp [waitF, h.vl]
  · have e : vs.set u v' = vs.set u v' := rfl
    simp only [waitF, Int.toNat_natCast]
    rw [zip_set]
    exact hf
/-- A gate is told. -/
theorem OrdSt.setTold (hK : K.Ok w0.heap.size) (h : OrdSt w0 K uses w S vo vh vs) (i : Nat) : OrdSt w0 K uses (w.setCell ⟨K.gt, i, none⟩ (.bool true)) { S with told := S.told.set i true } vo vh vs := by
  obtain ⟨k1, k2, k3, k4⟩ := hK
  exact ⟨h.below.setCell (by simp; omega) _, h.uses_, Tab.set_ h.tab i true, Blk.far h.wts (by simp; omega) _, h.vl, Blk.far h.box (by simp; omega) _, h.fam.keep fun g hg _ => Below.heap_setCell _ _ _ _ (by simp; omega)⟩
theorem OrdSt.setOut (hK : K.Ok w0.heap.size) (h : OrdSt w0 K uses w S vo vh vs) {vo' : Value} {L : List Int} (hg : w.grownBy w' vo.ownBlock)
    (ho : w'.ownsRow (K.gb + 1) 3 1 vo' L.length (L.map (Value.int .i64))) (ha : vo'.ownBlock = vo.ownBlock ∨ ∃ g, vo'.ownBlock = some g ∧ w.heap.size ≤ g) : OrdSt w0 K uses w' { S with out := L } vo' vh vs := by
  obtain ⟨k1, k2, k3, k4⟩ := hK
  have hsz := h.size
  have hrow : ∀ k, k ≤ K.gb → some k ≠ vo.ownBlock := fun k hk e => by
    have := ((h.fam.own (vo, S.out) (by simp)).lt k e.symm).1
    omega
  have hbl : ∀ k, k ≤ K.gb → w'.heap[k]? = w.heap[k]? := fun k hlt => hg.block k (by omega) (hrow k (by omega))
  exact ⟨h.below.trans ⟨hg.os, hg.tape, hg.output, hg.size, fun k hlt => hbl k (by omega)⟩, h.uses_, (hbl _ (by omega)).trans h.tab, (hbl _ (by omega)).trans h.wts, h.vl, (hbl _ (by omega)).trans h.box,
    h.fam.upd (j := 0) (v := vo) (l := S.out) (v' := vo') (l' := L) rfl (fun g _ hlt hne => hg.block g hlt hne) ho ha⟩
end
end Go.Proofs.Ytdodhbfplglbkaa

namespace Go.Proofs.Ytdodhbfplglbkaa
open Go.RowKit

theorem bool_info2 : (Try.prog.info? 4).map (fun i => (i.zero, i.size, i.bytes)) = some (some (.bool false), 1, 1) := by kernel_rfl
theorem make_bools (n : Nat) (h : n ≤ 1000000) (wx : World) : (Instr.makeSlice 55 (.int .i64 (n : Int)) (.int .i64 (n : Int))).run Try.prog wx = .ok (.slice (some ⟨wx.heap.size, 0, none⟩) n n) (wx.alloc (.cells (madeCells #[Value.bool false] n) 4)) := by
  obtain ⟨i0, hi0, hz0, hz1, hz2⟩ := info_of2 bool_info2
  have := run_make (P := Try.prog) wx 55 4 i0 (.bool false) Try.underlying55 hi0 hz0 .i64 .i64 n n (by omega) (by omega) (by rw [hz2]; omega) (by omega)
  rw [hz1] at this
  simpa [Value.cells] using this
theorem make_rows (n : Nat) (h : n ≤ 1000000) (wx : World) : (Instr.makeSlice 24 (.int .i64 (n : Int)) (.int .i64 (n : Int))).run Try.prog wx = .ok (.slice (some ⟨wx.heap.size, 0, none⟩) n n) (wx.alloc (.cells (madeCells #[Value.slice none 0 0] n) 22)) := by
  obtain ⟨i0, hi0, hz0, hz1, hz2⟩ := info_of2 infoV2
  have := run_make (P := Try.prog) wx 24 22 i0 (.slice none 0 0) Try.underlying24 hi0 hz0 .i64 .i64 n n (by omega) (by omega) (by rw [hz2]; omega) (by omega)
  rw [hz1] at this
  simpa [Value.cells] using this
theorem make_room (n : Nat) (h : n ≤ 1000000) (wx : World) : (Instr.makeSlice 22 (.int .i64 0) (.int .i64 (n : Int))).run Try.prog wx = .ok (.slice (some ⟨wx.heap.size, 0, none⟩) 0 n) (wx.alloc (.cells (madeCells #[Value.int .i64 0] n) 3)) := by
  obtain ⟨i0, hi0, hz0, hz1, hz2⟩ := info_of2 infoI2
  have := run_make (P := Try.prog) wx 22 3 i0 (.int .i64 0) Try.underlying22 hi0 hz0 .i64 .i64 0 n (by omega) (by omega) (by rw [hz2]; omega) (by omega)
  rw [hz1] at this
  simpa [Value.cells] using this
theorem made_rows (n : Nat) : madeCells #[Value.slice none 0 0] n = (List.replicate n (Value.slice none 0 0)).toArray := by
  apply Array.toList_inj.1
  rw [toList_madeCells_one]
theorem made_bools (n : Nat) : madeCells #[Value.bool false] n = ((List.replicate n false).map Value.bool).toArray := by
  apply Array.toList_inj.1
  rw [toList_madeCells_one]; simp
theorem zip_nil {n : Nat} {p : Value × List Int} (h : p ∈ (List.replicate n (Value.slice none 0 0)).zip (List.replicate n ([] : List Int))) : p = (.slice none 0 0, []) := by
  obtain ⟨i, hi⟩ := List.getElem?_of_mem h
  rw [List.getElem?_zip_eq_some] at hi
  obtain ⟨h1, h2⟩ := hi
  rw [List.getElem?_replicate] at h1 h2
  split at h1
  · rename_i hl
    rw [if_pos hl] at h2
    injection h1 with h1
    injection h2 with h2
    exact Prod.ext h1.symm h2.symm
  · cases h1
theorem ord0 (w : World) (g n : Nat) (uses : List (Int × Int)) (hp : Prs w g uses) (hn : n ≤ 16384) : OrdSt w ⟨g, w.heap.size, w.heap.size + 1, w.heap.size + 1 + 1⟩ uses
    ((((w.alloc (.cells (madeCells #[Value.bool false] n) 4)).alloc (.cells (madeCells #[Value.slice none 0 0] n) 22)).alloc (.cells #[Value.slice none 0 0] 169)).alloc (.cells (madeCells #[Value.int .i64 0] n) 3))
    (os0 n) (.slice (some ⟨w.heap.size + 1 + 1 + 1, 0, none⟩) 0 n) (.slice none 0 0) (List.replicate n (.slice none 0 0)) := by
  have a0 := (Below.refl w.heap.size w).alloc (Nat.le_refl _) (.cells (madeCells #[Value.bool false] n) 4)
  have a1 := a0.alloc (by simp) (.cells (madeCells #[Value.slice none 0 0] n) 22)
  have a2 := a1.alloc (by simp; omega) (.cells #[Value.slice none 0 0] 169)
  have a3 := a2.alloc (by simp; omega) (.cells (madeCells #[Value.int .i64 0] n) 3)
  have b0 := (((Blk.new w 4 (madeCells #[Value.bool false] n)).alloc (.cells (madeCells #[Value.slice none 0 0] n) 22)).alloc (.cells #[Value.slice none 0 0] 169)).alloc (.cells (madeCells #[Value.int .i64 0] n) 3)
  have b1 := ((Blk.new (w.alloc (.cells (madeCells #[Value.bool false] n) 4)) 22 (madeCells #[Value.slice none 0 0] n)).alloc (.cells #[Value.slice none 0 0] 169)).alloc (.cells (madeCells #[Value.int .i64 0] n) 3)
  have b2 := (Blk.new ((w.alloc (.cells (madeCells #[Value.bool false] n) 4)).alloc (.cells (madeCells #[Value.slice none 0 0] n) 22)) 169 #[Value.slice none 0 0]).alloc (.cells (madeCells #[Value.int .i64 0] n) 3)
  have b3 := Blk.new (((w.alloc (.cells (madeCells #[Value.bool false] n) 4)).alloc (.cells (madeCells #[Value.slice none 0 0] n) 22)).alloc (.cells #[Value.slice none 0 0] 169)) 3 (madeCells #[Value.int .i64 0] n)
  simp only [alloc_size] at b1 b2 b3
  refine ⟨a3, hp, ?_, ?_, by simp [os0], b2, ⟨?_, ?_⟩⟩
  · unfold Tab; rw [show (os0 n).told = List.replicate n false from rfl, ← made_bools]; exact b0
  · rw [← made_rows]; exact b1
  · intro p hp
    rcases List.mem_cons.1 hp with rfl | hp
    · exact ⟨rfl, .inr ⟨w.heap.size + 1 + 1 + 1, n, _, rfl, by simp, b3, Nat.zero_le _, by simp only [maxLen]; omega, by simp [size_madeCells], by simp [os0]⟩⟩
    · rcases List.mem_cons.1 hp with rfl | hp
      · exact World.ownsRow_nil _ _ _ _
      · rw [zip_nil hp]
        exact World.ownsRow_nil _ _ _ _
  · intro i j a b hij hi hj gx hga hgb
    have hnil : ∀ (k : Nat) (c : Value × List Int), ((Value.slice (some ⟨w.heap.size + 1 + 1 + 1, 0, none⟩) 0 n, (os0 n).out) :: (Value.slice none 0 0, (os0 n).hp) :: (List.replicate n (Value.slice none 0 0)).zip (os0 n).wait)[k + 1]? = some c → c.1.ownBlock = none := by
      intro k c hc
      rw [List.getElem?_cons_succ] at hc
      rcases List.mem_cons.1 (List.mem_of_getElem? hc) with rfl | hc
      · rfl
      · rw [zip_nil hc]; rfl
    cases i with
    | zero =>
      cases j with
      | zero => exact hij rfl
      | succ j => rw [hnil j b hj] at hgb; cases hgb
    | succ i => rw [hnil i a hi] at hga; cases hga

theorem own_base {w : World} {B B' n size : Nat} {t : TypeId} {v : Value} {xs : List Value} (h : w.ownsRow B t size v n xs) (hB : B' ≤ B) : w.ownsRow B' t size v n xs := by
  refine ⟨h.1, ?_⟩
  rcases h.2 with h2 | ⟨g, cap, cur, hv, hg, h3⟩
  · exact .inl h2
  · exact .inr ⟨g, cap, cur, hv, by omega, h3⟩
theorem oM_heap {n : Nat} {S : OS} (h : S.hp ≠ []) : oM n { S with hp := (popF S.hp).2 } < oM n S := by
  have := pop_len h
  have : 0 < S.hp.length := List.length_pos_iff.2 h
  unfold oM
  simp only
  omega
theorem oM_next {n : Nat} {S : OS} (h : S.next < n) : oM n { S with next := S.next + 1 } < oM n S := by
  unfold oM
  simp only
  omega
theorem oM_tell {uses : List (Int × Int)} {S : OS} {i : Int} (h : OTaken uses S i) (ha : ∀ z, Edge uses i z → z ∈ S.out) (hl : S.out.length < uses.length) : oM uses.length (tellF S i) ≤ oM uses.length S := by
  have h1 := hp_le (tell_good h ha).inv
  unfold oM
  have h2 : (tellF S i).out.length = S.out.length + 1 := by simp [tellF]
  have h3 : (tellF S i).next = S.next := rfl
  rw [h2, h3]
  obtain ⟨d, hd⟩ : ∃ d, uses.length - S.out.length = d + 1 := ⟨uses.length - S.out.length - 1, by omega⟩
  rw [show uses.length - (S.out.length + 1) = d by omega, hd, Nat.add_mul]
  omega

theorem wt_le {uses : List (Int × Int)} {S : OS} (h : OInv uses S) {u : Int} (hu : InR uses.length u) (huo : u ∉ S.out) : (wt S.wait u).length ≤ uses.length :=
  in_le (h.wn u hu huo) (fun y hy => by
    obtain ⟨_, a, b, _⟩ := h.wr u hu huo y hy
    exact ⟨a, by have := h.nx; omega⟩)

set_option maxHeartbeats 4000000 in
set_option maxRecDepth 100000 in
theorem order_any (w : World) (g : Nat) (uses : List (Int × Int)) (hp : Prs w g uses) (hu : UsesOk uses.length uses) (hff : firstF uses = -1) (hn : uses.length ≤ 16384) :
    Calls Try.prog 102 #[.slice (some ⟨g, 0, none⟩) uses.length uses.length] w fun e w' => ∃ v out, e = .returned v ∧ w'.ownsRow w.heap.size 3 1 v out.length (out.map (Value.int .i64)) ∧ Greedy uses out ∧ out.length = uses.length ∧ Below w.heap.size w w' := by
  have hg := Blk.lt hp
  have hmk1 := make_bools uses.length (by omega)
  have hmk2 := make_rows uses.length (by omega)
  have hmk3 := make_room uses.length (by omega)
  have HG0 := Lib.hid (os0_good (uses := uses))
  have HU := Lib.hid hu
  have HFF := Lib.hid hff
  have HP := Lib.hid hp
  generalize hn' : uses.length = n at *
  have HN := Lib.hid hn'
  clear hn' hu hff hp
  go_enter Try.func102, Try.ntmps102
  go_wp2
  go_step3
  go_wp2
  go_step3
  go_wp2
  go_loopg [6, 7] (oM n (os0 n)) (fun k o nx wr => ∃ (S : OS) (vh : Value) (vs : List Value), oM n S = k ∧ nx = .int .i64 S.next ∧ OGood uses S ∧ OrdSt w ⟨g, w.heap.size, w.heap.size + 1, w.heap.size + 1 + 1⟩ uses wr S o vh vs)
  case atStart =>
    refine ⟨os0 n, .slice none 0 0, List.replicate n (.slice none 0 0), rfl, rfl, HG0.out, ?_⟩
    exact ord0 w g n uses HP.out hn
  case round =>
    obtain ⟨S, vh, vs, hgk, rfl, hgood, hst⟩ := hrel
    subst hgk
    have HOK : Hid (OB.Ok ⟨g, w.heap.size, w.heap.size + 1, w.heap.size + 1 + 1⟩ w.heap.size) := Lib.hid ⟨hg, Nat.le_refl _, by simp, by simp⟩
    obtain ⟨Ao, co, rfl⟩ := own_slice hst.outRow
    obtain ⟨Ah, ch, rfl⟩ := own_slice hst.heap.row
    have cb := hst.box.cell 0
    simp only [List.getElem?_toArray, List.getElem?_cons_zero] at cb
    have hnx := hgood.inv.nx
    have hhl := hp_le hgood.inv
    have hol := hgood.inv.gr.len_le
    rw [HN.out] at hnx hhl hol
    have HGD := Lib.hid hgood
    have HST := Lib.hid hst
    by_cases hlt : S.out.length < n
    · have HSK : Hid (S.hp = [] → S.next < n) := Lib.hid (fun hh => by
        have := HGD.out.not_stuck (by rw [HN.out]; exact HU.out) (by rw [HN.out]; exact hn) HFF.out hh (by rw [HN.out]; exact hlt)
        rw [HN.out] at this
        exact this)
      clear hgood hst
      go_upto_if 35 with (go_at_call 135; refine (Len_any _ _ _ _).mono ?_; rintro e w5 ⟨rfl, rfl⟩)
      go_cut [7, 8] (fun nx iv wx => ∃ (S1 : OS) (i : Nat) (vh1 : Value), nx = .int .i64 S1.next ∧ iv = .int .i64 i ∧ i < n ∧ OTaken uses S1 (i : Int) ∧ OrdSt w ⟨g, w.heap.size, w.heap.size + 1, w.heap.size + 1 + 1⟩ uses wx S1 (.slice Ao S.out.length co) vh1 vs ∧ oM n S1 < oM n S ∧ S1.out = S.out)
      case first =>
        by_cases hh : 0 < S.hp.length
        · have hpop := HPop_any _ _ _ _ _ HST.out.heap hh (by omega)
          have HPO := Lib.hid hpop
          have HH := Lib.hid (List.length_pos_iff.1 hh)
          clear hpop
          go_wp2_with (go_at_call 136; refine HPO.out.mono ?_; rintro e w5 ⟨rfl, vh', hb', hk', ho'⟩)
          go_meet
          case rel =>
            have ht := take_heap HGD.out HH.out
            have hir := ht.ir
            have hix := ht.inv.nx
            rw [HN.out] at hix
            exact ⟨{ S with hp := (popF S.hp).2 }, (popF S.hp).1.toNat, vh', rfl, by rw [Int.toNat_of_nonneg hir.1], by omega, by rw [Int.toNat_of_nonneg hir.1]; exact ht, HST.out.setHeap HOK.out hb' hk' (.inl ho'), oM_heap HH.out, rfl⟩
        · have hnil : S.hp = [] := List.eq_nil_of_length_eq_zero (by omega)
          have hsk := HSK.out hnil
          have HNIL := Lib.hid hnil
          clear hnil
          go_wp2
          go_meet
          case rel => exact ⟨{ S with next := S.next + 1 }, S.next, .slice Ah S.hp.length ch, by push_cast; rfl, rfl, hsk, take_next HGD.out HNIL.out (by rw [HN.out]; exact hsk), HST.out.setNext _, oM_next hsk, rfl⟩
      case rest =>
        obtain ⟨S1, i, vh1, rfl, rfl, hi, htk, hst1, hm1, ho1⟩ := hcut
        have HTK := Lib.hid htk
        have HST1 := Lib.hid hst1
        have HM1 := Lib.hid hm1
        have HO1 := Lib.hid ho1
        obtain ⟨⟨p1, p2⟩, hpg, hpd, hp1, hp2⟩ := use_at HU.out (i := i) hi
        obtain ⟨d1, d2⟩ := hst1.uses_.cell hpg
        have e1 := (hst1.below.cell (p := ⟨g, i * 2, none⟩) hg).trans d1
        have e2 := (hst1.below.cell (p := ⟨g, i * 2 + 1, none⟩) hg).trans d2
        simp only at e1 e2
        have HP1 := Lib.hid hp1
        have HP2 := Lib.hid hp2
        have HPD := Lib.hid hpd
        have hnx1 := htk.inv.nx
        rw [HN.out] at hnx1
        clear htk hst1 hm1 ho1 hpg hpd d1 d2 hp1 hp2
        go_wp2
        go_loopg [46] 2 (fun k j wx => ∃ q : Nat, q ≤ 2 ∧ k = 2 - q ∧ j = .int .i64 q ∧ wx = wc ∧ ∀ r, r < q → ((if r = 0 then p1 else p2) = -1 ∨ tdF S1.told (if r = 0 then p1 else p2) = true))
        case atStart => exact ⟨0, by omega, rfl, rfl, rfl, fun r h => absurd h (by omega)⟩
        case round =>
          obtain ⟨q, hq, hk2, rfl, rfl, hfree⟩ := hrel
          have HFR := Lib.hid hfree
          clear hfree
          have ctab : ∀ u : Nat, u < n → wr.cell? ⟨w.heap.size, u, none⟩ = some (.bool (tdF S1.told (u : Int))) := fun u hu => by
            have hl : u < S1.told.length := by rw [HTK.out.inv.tl, HN.out]; exact hu
            refine HST1.out.tab.cell ?_
            unfold tdF
            simp [List.getD, hl]
          rcases q with _ | _ | q
          · by_cases hm1 : p1 = -1
            · have HMM := Lib.hid hm1
              have hq1 : (p1 != -1) = false := by simp [hm1]
              clear hm1 ctab
              go_wp2
              go_roundg 1
              case measure => omega
              case rel =>
                refine ⟨1, by omega, by omega, by go_num, rfl, ?_⟩
                intro r hr
                have : r = 0 := by omega
                subst this
                exact .inl HMM.out
            · have hpr := HP1.out.resolve_left hm1
              have hq1 : (p1 != -1) = true := by simpa using hm1
              by_cases ht : tdF S1.told p1 = true
              · have HMM := Lib.hid ht
                have c1 := ctab p1.toNat (by have := hpr.1; have := hpr.2; omega)
                rw [Int.toNat_of_nonneg hpr.1, ht] at c1
                have h0 := hpr.1
                have h1 := hpr.2
                clear ht ctab hm1 hpr
                go_wp2
                go_roundg 1
                case measure => omega
                case rel =>
                  refine ⟨1, by omega, by omega, by go_num, rfl, ?_⟩
                  intro r hr
                  have : r = 0 := by omega
                  subst this
                  exact .inr HMM.out
              · obtain ⟨u, hu'⟩ : ∃ u : Nat, p1 = (u : Int) := ⟨p1.toNat, by have := hpr.1; omega⟩
                have hul : u < n := by have := hpr.2; omega
                have hE : Edge uses (i : Int) (u : Int) := by
                  refine ⟨by omega, ?_⟩
                  rw [show ((i : Int)).toNat = i from Int.toNat_natCast i, HPD.out]
                  exact .inl hu'
                have huo : (u : Int) ∉ S1.out := fun hin => by
                  have := (HTK.out.inv.td (u : Int) ⟨by omega, by rw [HN.out]; omega⟩).2 hin
                  rw [hu'] at ht
                  rw [this] at ht
                  exact ht rfl
                obtain ⟨vu, hvu⟩ : ∃ v, vs[u]? = some v := ⟨_, List.getElem?_eq_getElem (by rw [HST1.out.vl, HTK.out.inv.wl, HN.out]; exact hul)⟩
                obtain ⟨Au, cu, rfl⟩ := own_slice (HST1.out.waitRow hvu)
                have cw := HST1.out.wts.cell u
                have fw := Blk.frozen HST1.out.wts u
                rw [List.getElem?_toArray, hvu] at cw
                have hwl := wt_le HTK.out.inv (u := (u : Int)) ⟨by omega, by rw [HN.out]; omega⟩ huo
                rw [HN.out] at hwl
                obtain ⟨i0, hi0, hz0, hz1, hz2⟩ := info_of2 infoI2
                have HI0 := Lib.hid (And.intro hi0 (And.intro hz0 (And.intro hz1 hz2)))
                have HR := Lib.hid (reads_one wr (.int .i64 (i : Int)) 3)
                have HVU := Lib.hid hvu
                have HE := Lib.hid hE
                have HUO := Lib.hid huo
                have hsz := HST1.out.size
                simp only at hsz
                have hq2 : tdF S1.told (u : Int) = false := by rw [← hu']; simpa using ht
                have c1 := ctab u hul
                rw [hq2] at c1
                subst hu'
                have HB4 : Hid (∀ w3 : World, (wr.alloc (.cells #[.int .i64 (i : Int)] 3)).grownBy w3 (Value.slice Au (wt S1.wait (u : Int)).length cu).ownBlock → Blk w3 (w.heap.size + 1) 22 vs.toArray) := Lib.hid (fun w3 hg3 => (HST1.out.wts.alloc _).grown hg3 (fun e => by have := ((HST1.out.waitRow HVU.out).lt _ e.symm).1; simp only at this; omega))
                clear ht hm1 hpr ctab hi0 hz0 hz1 hz2 hvu hE huo hq2
                go_wp2_with (at_builtin; refine wpList_append_any _ rfl (.tmp 63) (.tmp 65) _ rfl (w.heap.size + 1 + 1 + 1) 3 i0 _ 1 8 Try.underlying22 HI0.out.1 HI0.out.2.1 HI0.out.2.2.1 HI0.out.2.2.2 rfl (by omega) (.slice Au (wt S1.wait (u : Int)).length cu) (wt S1.wait (u : Int)).length ((wt S1.wait (u : Int)).map (Value.int .i64)) rfl ((HST1.out.waitRow HVU.out).alloc _) (wr.heap.size + 1) (some ⟨wr.heap.size, 0, none⟩) 1 1 [.int .i64 (i : Int)] rfl HR.out (by simp [Value.oneCell']) (by simp only [maxLen]; omega) (by omega) (by simp; omega) ?_; intro v3 w3 hown3 hg3 hat3; have cw3 := (HB4.out w3 hg3).cell u; have fw3 := Blk.frozen (HB4.out w3 hg3) u; rw [List.getElem?_toArray, HVU.out] at cw3; obtain ⟨A3, c3, rfl⟩ := own_slice hown3)
                go_roundg (oM n S1)
                case measure => exact HM1.out
                case rel =>
                  refine ⟨waitF S1 (i : Int) (u : Int), vh1, vs.set u (.slice A3 ((wt S1.wait (u : Int)).length + 1) c3), rfl, rfl, wait_good HTK.out HE.out ⟨by omega, by rw [HN.out]; omega⟩ HUO.out, ?_⟩
                  refine (HST1.out.alloc _).setWait HOK.out HVU.out hg3 (by simpa using hown3) ?_
                  rcases hat3 with h | h
                  · exact .inl h
                  · exact .inr ⟨_, h, Nat.le_refl _⟩
          · by_cases hm1 : p2 = -1
            · have HMM := Lib.hid hm1
              have hq1 : (p2 != -1) = false := by simp [hm1]
              clear hm1 ctab
              go_wp2
              go_roundg 0
              case measure => omega
              case rel =>
                refine ⟨2, by omega, by omega, by go_num, rfl, ?_⟩
                intro r hr
                by_cases h0 : r = 0
                · exact HFR.out r (by omega)
                · rw [if_neg h0]; exact .inl HMM.out
            · have hpr := HP2.out.resolve_left hm1
              have hq1 : (p2 != -1) = true := by simpa using hm1
              by_cases ht : tdF S1.told p2 = true
              · have HMM := Lib.hid ht
                have c1 := ctab p2.toNat (by have := hpr.1; have := hpr.2; omega)
                rw [Int.toNat_of_nonneg hpr.1, ht] at c1
                have h0 := hpr.1
                have h1 := hpr.2
                clear ht ctab hm1 hpr
                go_wp2
                go_roundg 0
                case measure => omega
                case rel =>
                  refine ⟨2, by omega, by omega, by go_num, rfl, ?_⟩
                  intro r hr
                  by_cases h0 : r = 0
                  · exact HFR.out r (by omega)
                  · rw [if_neg h0]; exact .inr HMM.out
              · obtain ⟨u, hu'⟩ : ∃ u : Nat, p2 = (u : Int) := ⟨p2.toNat, by have := hpr.1; omega⟩
                have hul : u < n := by have := hpr.2; omega
                have hE : Edge uses (i : Int) (u : Int) := by
                  refine ⟨by omega, ?_⟩
                  rw [show ((i : Int)).toNat = i from Int.toNat_natCast i, HPD.out]
                  exact .inr hu'
                have huo : (u : Int) ∉ S1.out := fun hin => by
                  have := (HTK.out.inv.td (u : Int) ⟨by omega, by rw [HN.out]; omega⟩).2 hin
                  rw [hu'] at ht
                  rw [this] at ht
                  exact ht rfl
                obtain ⟨vu, hvu⟩ : ∃ v, vs[u]? = some v := ⟨_, List.getElem?_eq_getElem (by rw [HST1.out.vl, HTK.out.inv.wl, HN.out]; exact hul)⟩
                obtain ⟨Au, cu, rfl⟩ := own_slice (HST1.out.waitRow hvu)
                have cw := HST1.out.wts.cell u
                have fw := Blk.frozen HST1.out.wts u
                rw [List.getElem?_toArray, hvu] at cw
                have hwl := wt_le HTK.out.inv (u := (u : Int)) ⟨by omega, by rw [HN.out]; omega⟩ huo
                rw [HN.out] at hwl
                obtain ⟨i0, hi0, hz0, hz1, hz2⟩ := info_of2 infoI2
                have HI0 := Lib.hid (And.intro hi0 (And.intro hz0 (And.intro hz1 hz2)))
                have HR := Lib.hid (reads_one wr (.int .i64 (i : Int)) 3)
                have HVU := Lib.hid hvu
                have HE := Lib.hid hE
                have HUO := Lib.hid huo
                have hsz := HST1.out.size
                simp only at hsz
                have hq2 : tdF S1.told (u : Int) = false := by rw [← hu']; simpa using ht
                have c1 := ctab u hul
                rw [hq2] at c1
                subst hu'
                have HB4 : Hid (∀ w3 : World, (wr.alloc (.cells #[.int .i64 (i : Int)] 3)).grownBy w3 (Value.slice Au (wt S1.wait (u : Int)).length cu).ownBlock → Blk w3 (w.heap.size + 1) 22 vs.toArray) := Lib.hid (fun w3 hg3 => (HST1.out.wts.alloc _).grown hg3 (fun e => by have := ((HST1.out.waitRow HVU.out).lt _ e.symm).1; simp only at this; omega))
                clear ht hm1 hpr ctab hi0 hz0 hz1 hz2 hvu hE huo hq2
                go_wp2_with (at_builtin; refine wpList_append_any _ rfl (.tmp 63) (.tmp 65) _ rfl (w.heap.size + 1 + 1 + 1) 3 i0 _ 1 8 Try.underlying22 HI0.out.1 HI0.out.2.1 HI0.out.2.2.1 HI0.out.2.2.2 rfl (by omega) (.slice Au (wt S1.wait (u : Int)).length cu) (wt S1.wait (u : Int)).length ((wt S1.wait (u : Int)).map (Value.int .i64)) rfl ((HST1.out.waitRow HVU.out).alloc _) (wr.heap.size + 1) (some ⟨wr.heap.size, 0, none⟩) 1 1 [.int .i64 (i : Int)] rfl HR.out (by simp [Value.oneCell']) (by simp only [maxLen]; omega) (by omega) (by simp; omega) ?_; intro v3 w3 hown3 hg3 hat3; have cw3 := (HB4.out w3 hg3).cell u; have fw3 := Blk.frozen (HB4.out w3 hg3) u; rw [List.getElem?_toArray, HVU.out] at cw3; obtain ⟨A3, c3, rfl⟩ := own_slice hown3)
                go_roundg (oM n S1)
                case measure => exact HM1.out
                case rel =>
                  refine ⟨waitF S1 (i : Int) (u : Int), vh1, vs.set u (.slice A3 ((wt S1.wait (u : Int)).length + 1) c3), rfl, rfl, wait_good HTK.out HE.out ⟨by omega, by rw [HN.out]; omega⟩ HUO.out, ?_⟩
                  refine (HST1.out.alloc _).setWait HOK.out HVU.out hg3 (by simpa using hown3) ?_
                  rcases hat3 with h | h
                  · exact .inl h
                  · exact .inr ⟨_, h, Nat.le_refl _⟩
          · have hq2 : q = 0 := by omega
            subst hq2
            have ha : ∀ z, Edge uses (i : Int) z → z ∈ S1.out := by
              intro z hz
              have hzr := edge_in (n := n) HU.out ⟨by omega, by omega⟩ hz
              obtain ⟨hz1, hz2⟩ := hz
              rw [show ((i : Int)).toNat = i from Int.toNat_natCast i, HPD.out] at hz2
              have h0 := HFR.out 0 (by omega)
              have h1 := HFR.out 1 (by omega)
              rw [if_pos rfl] at h0
              rw [if_neg (by omega)] at h1
              refine (HTK.out.inv.td z (by rw [HN.out]; exact hzr)).1 ?_
              rcases hz2 with hz2 | hz2
              · rw [← hz2]
                exact h0.resolve_left (fun e => hz1 (by rw [← hz2, e]))
              · rw [← hz2]
                exact h1.resolve_left (fun e => hz1 (by rw [← hz2, e]))
            have HAA := Lib.hid ha
            have hir : InR uses.length (i : Int) := ⟨by omega, by rw [HN.out]; omega⟩
            obtain ⟨vi, hvi⟩ : ∃ v, vs[i]? = some v := ⟨_, List.getElem?_eq_getElem (by rw [HST1.out.vl, HTK.out.inv.wl, HN.out]; exact hi)⟩
            obtain ⟨Ai, ci, rfl⟩ := own_slice (HST1.out.waitRow hvi)
            obtain ⟨li, hli⟩ : ∃ li, wt S1.wait (i : Int) = li := ⟨_, rfl⟩
            have HLI := Lib.hid hli
            rw [hli] at hvi
            have HVI := Lib.hid hvi
            have hwl := wt_le HTK.out.inv hir HTK.out.io
            have hhl1 := hp_le HTK.out.inv
            rw [HN.out] at hwl hhl1
            have c1 := ctab i hi
            have f1 := Blk.frozen HST1.out.tab i
            simp only at f1
            obtain ⟨i0, hi0, hz0, hz1, hz2⟩ := info_of2 infoI2
            have HI0 := Lib.hid (And.intro hi0 (And.intro hz0 (And.intro hz1 hz2)))
            have hs2 := (HST1.out.setTold HOK.out i)
            simp only at hs2
            obtain ⟨w1, hw1⟩ : ∃ w1, w1 = wr.setCell ⟨w.heap.size, i, none⟩ (.bool true) := ⟨_, rfl⟩
            rw [← hw1] at hs2
            have hsz1 : w1.heap.size = wr.heap.size := by rw [hw1]; simp [World.setCell]
            have hr1 := reads_one w1 (.int .i64 (i : Int)) 3
            have hsz := HST1.out.size
            simp only at hsz
            have HS2 := Lib.hid hs2
            rw [hsz1] at hr1
            rw [hw1] at hr1
            have HR := Lib.hid hr1
            have HW1 := Lib.hid hw1
            have HSA := Lib.hid (hs2.alloc (.cells #[.int .i64 (i : Int)] 3))
            rw [hli] at hwl
            have HOO : Hid (((wr.setCell ⟨w.heap.size, i, none⟩ (.bool true)).alloc (.cells #[.int .i64 (i : Int)] 3)).ownsRow (w.heap.size + 1 + 1 + 1) 3 1 (.slice Ao S.out.length co) S.out.length (S.out.map (Value.int .i64))) := by
              have := HSA.out.outRow
              rw [HW1.out] at this
              have e : S1.out = S.out := HO1.out
              simp only [e] at this
              exact this
            have HB4 : Hid (∀ (v3 : Value) (w3 : World), ((wr.setCell ⟨w.heap.size, i, none⟩ (.bool true)).alloc (.cells #[.int .i64 (i : Int)] 3)).grownBy w3 (Value.slice Ao S.out.length co).ownBlock → w3.ownsRow (w.heap.size + 1 + 1 + 1) 3 1 v3 (S.out.length + 1) (S.out.map (Value.int .i64) ++ [.int .i64 (i : Int)]) → (v3.ownBlock = (Value.slice Ao S.out.length co).ownBlock ∨ v3.ownBlock = some ((wr.setCell ⟨w.heap.size, i, none⟩ (.bool true)).alloc (.cells #[.int .i64 (i : Int)] 3)).heap.size) →
                OrdSt w ⟨g, w.heap.size, w.heap.size + 1, w.heap.size + 1 + 1⟩ uses w3 { S1 with told := S1.told.set i true, out := S1.out ++ [(i : Int)] } v3 vh1 vs) := Lib.hid (fun v3 w3 hg3 ho3 ha3 => by
              have e : S1.out = S.out := HO1.out
              rw [← HW1.out] at hg3 ha3
              refine HSA.out.setOut HOK.out hg3 ?_ ?_
              · rw [e]; simpa using ho3
              · rcases ha3 with h | h
                · exact .inl h
                · exact .inr ⟨_, h, Nat.le_refl _⟩)
            clear ha hvi ctab hi0 hz0 hz1 hz2 hs2 hw1 hr1 hli hsz1
            go_wp2_with (at_builtin; refine wpList_append_any _ rfl (.tmp 72) (.tmp 74) _ rfl (w.heap.size + 1 + 1 + 1) 3 i0 _ 1 8 Try.underlying22 HI0.out.1 HI0.out.2.1 HI0.out.2.2.1 HI0.out.2.2.2 rfl (by omega) (.slice Ao S.out.length co) S.out.length (S.out.map (Value.int .i64)) rfl HOO.out (wr.heap.size + 1) (some ⟨wr.heap.size, 0, none⟩) 1 1 [.int .i64 (i : Int)] rfl HR.out (by simp [Value.oneCell']) (by simp only [maxLen]; omega) (by omega) (by simp [World.setCell]; omega) ?_; intro v3 w3 hown3 hg3 hat3; have hst3 := HB4.out v3 w3 hg3 hown3 hat3; obtain ⟨A3, c3, rfl⟩ := own_slice hown3; have cw3 := hst3.wts.cell i; rw [List.getElem?_toArray, HVI.out] at cw3; have HS3 := Lib.hid hst3; clear hst3 hown3 hg3 hat3)
            have HFL : Hid (∀ q, q ≤ li.length → ((li.take q).foldl pushF S1.hp).length ≤ S1.hp.length + q) := Lib.hid (fun q hq => by
              rw [(fold_perm _ _).length_eq, List.length_append, List.length_take]; omega)
            clear c1 f1
            go_loopg [81] li.length (fun k j wx => ∃ (q : Nat) (vh2 : Value), q ≤ li.length ∧ k = li.length - q ∧ j = .int .i64 q ∧ OrdSt w ⟨g, w.heap.size, w.heap.size + 1, w.heap.size + 1 + 1⟩ uses wx { S1 with told := S1.told.set i true, out := S1.out ++ [(i : Int)], hp := (li.take q).foldl pushF S1.hp } (.slice A3 (S.out.length + 1) c3) vh2 vs)
            case atStart => exact ⟨0, vh1, Nat.zero_le _, rfl, rfl, HS3.out⟩
            case round =>
              obtain ⟨q, vh2, hq, hk3, rfl, hst4⟩ := hrel
              subst hk3
              have HS4 := Lib.hid hst4
              by_cases hql : q < li.length
              · have hwr := hst4.waitRow HVI.out
                simp only [HLI.out] at hwr
                obtain ⟨gi, ci2, hvi2, _, _, _, _, hcells, _, _⟩ := own_cells hwr (by omega)
                injection hvi2 with e3 e4 e5
                subst e3 e5
                have cq := hcells q hql
                obtain ⟨x, hx⟩ : ∃ x, li.getD q 0 = x := ⟨_, rfl⟩
                have HX := Lib.hid hx
                rw [hx] at cq
                have hhb := hst4.heap
                simp only at hhb
                have hfl := HFL.out q hq
                have hpu := HPush_any wr (w.heap.size + 1 + 1 + 1) (w.heap.size + 1 + 1) vh2 _ x hhb (by have := hst4.size; simp only at this; omega) (by omega)
                have HPU := Lib.hid hpu
                clear hst4 hwr hcells hx hhb hpu hfl
                go_wp2_with (go_at_call 137; refine HPU.out.mono ?_; rintro e w5 ⟨rfl, vh', hb', hk', ho'⟩)
                go_roundg (li.length - (q + 1))
                case measure => omega
                case rel =>
                  refine ⟨q + 1, vh', by omega, rfl, by go_num, ?_⟩
                  have := HS4.out.setHeap HOK.out hb' hk' ho'
                  have e : (li.take (q + 1)).foldl pushF S1.hp = pushF ((li.take q).foldl pushF S1.hp) x := by
                    rw [List.take_add_one, getD_some hql (d := 0), HX.out, List.foldl_append]; rfl
                  rw [e]
                  exact this
              · have hqe : q = li.length := by omega
                subst hqe
                clear hst4
                go_wp2
                go_roundg (oM n (tellF S1 (i : Int)))
                case measure =>
                  have h1 := oM_tell HTK.out HAA.out (by rw [HO1.out, HN.out]; exact hlt)
                  rw [HN.out] at h1
                  exact Nat.lt_of_le_of_lt h1 HM1.out
                case rel =>
                  refine ⟨tellF S1 (i : Int), vh2, vs, rfl, rfl, tell_good HTK.out HAA.out, ?_⟩
                  have := HS4.out
                  rw [List.take_length, ← HLI.out] at this
                  exact this
    · clear hgood hst
      go_wp2
      try rw [Exit.noGoto_ret]
      go_ret
      exact ⟨_, S.out, rfl, own_base HST.out.outRow (by show w.heap.size ≤ w.heap.size + 1 + 1 + 1; omega), HGD.out.inv.gr, by omega, HST.out.below⟩
end Go.Proofs.Ytdodhbfplglbkaa
