/- Encode: the contract of Cone. -/
import Derived.Test.YtdodhbfplglbkaaConO
import Derived.Test.YtdodhbfplglbkaaEncW
import Derived.RangeFuncBox
import Derived.RangeFuncFrom
import Derived.RangeFuncNested
import Derived.RangeFuncBound
import Derived.RangeFuncCalls
import Derived.RangeFuncLeaves
import Derived.Shelf.Abstract
import Derived.Shelf.RegionOpen
import Derived.OwnWalkIn
import Derived.TacticsInMore
import Derived.LoopNIn
import Derived.LoopIn
import Derived.Test.YtdodhbfplglbkaaTrnF
namespace Go.Proofs.Ytdodhbfplglbkaa
open Go.RowKit Go.Maps

def gateZ (C : Circ) (g : Int) : Tri := C.ands.getD g.toNat (0, 0, 0)
def stepB (C : Circ) (A : List Bool) (g : Int) : List Bool := if A.getD (vOf (gateZ C g).1) false = true then (A.set (vOf (gateZ C g).2.1) true).set (vOf (gateZ C g).2.2) true else A
def backF (C : Circ) (gs : List Int) (A : List Bool) : List Bool := gs.foldl (stepB C) A
theorem stepB_len (C : Circ) (A : List Bool) (g : Int) : (stepB C A g).length = A.length := by unfold stepB; split <;> simp
theorem backF_len (C : Circ) : ∀ (gs : List Int) (A : List Bool), (backF C gs A).length = A.length
  | [], _ => rfl
  | g :: r, A => by show (backF C r (stepB C A g)).length = _; rw [backF_len C r, stepB_len]
theorem backF_snoc (C : Circ) (gs : List Int) (g : Int) (A : List Bool) : backF C (gs ++ [g]) A = stepB C (backF C gs A) g := by simp [backF, List.foldl_append]
def rootF (L : List Int) (A : List Bool) : List Bool := L.foldl (fun A l => A.set (vOf l) true) A
theorem rootF_len : ∀ (L : List Int) (A : List Bool), (rootF L A).length = A.length
  | [], _ => rfl
  | l :: r, A => by show (rootF r (A.set (vOf l) true)).length = _; rw [rootF_len r, List.length_set]
theorem rootF_snoc (L : List Int) (l : Int) (A : List Bool) : rootF (L ++ [l]) A = (rootF L A).set (vOf l) true := by simp [rootF, List.foldl_append]
/-- The gates of a cone. -/
noncomputable def coneG (C : Circ) (L : List Int) : List Tri := C.ands.filter fun z => (supF (withU C) L).getD (vOf z.1) false

section
variable {C : Circ} {O : List Int} {L : List Int} {n : Nat}
theorem roots_sp (hl : ∀ l ∈ L, 0 ≤ l ∧ vOf l < n) : ∀ (M : List Int) (A : List Bool), (∀ l ∈ M, l ∈ L) → SpI (withU C) L n A → SpI (withU C) L n (rootF M A) ∧ (∀ v, A.getD v false = true → (rootF M A).getD v false = true) ∧ Rts M (rootF M A)
  | [], A, _, h => ⟨h, fun _ hv => hv, fun l hl => by simp at hl⟩
  | l :: r, A, hm, h => by
    have hl1 := hl l (hm l (by simp))
    have h2 := h.set_ (l := l) hl1.2 hl1.1 (fun h2 => Hang.root (hm l (by simp)) h2)
    obtain ⟨a, b, c⟩ := roots_sp hl r (A.set (vOf l) true) (fun x hx => hm x (by simp [hx])) h2
    have hlen : vOf l < A.length := by rw [h.len]; exact hl1.2
    refine ⟨a, fun v hv => b v ((setB_get hlen v).2 (Or.inl hv)), fun x hx => ?_⟩
    rcases List.mem_cons.1 hx with rfl | hx
    · exact b _ ((setB_get hlen _).2 (Or.inr rfl))
    · exact c x hx
/-- Behind the gates from i on: what is in the table hangs, the roots are in it, and those gates are closed. -/
structure BInv (C : Circ) (O L : List Int) (n i : Nat) (A : List Bool) : Prop where
  sp : SpI (withU C) L n A
  rt : Rts L A
  cl : ∀ (j : Nat) (g : Int), i ≤ j → O[j]? = some g → A.getD (vOf (gateZ C g).1) false = true → A.getD (vOf (gateZ C g).2.1) false = true ∧ A.getD (vOf (gateZ C g).2.2) false = true
theorem BInv.step (hf : Fine C) (h : NewL C O) (hG : Greedy (usesC C) O) (hl : O.length = C.ands.length) (hn : n = C.max.toNat + 1) {i : Nat} {g : Int} {A : List Bool} (b : BInv C O L n (i + 1) A) (hg : O[i]? = some g) : BInv C O L n i (stepB C A g) := by
  have hr := hG.inR g (List.mem_of_getElem? hg)
  rw [usesC_len] at hr
  unfold InR at hr
  obtain ⟨z, hz⟩ : ∃ z, C.ands[g.toNat]? = some z := ⟨_, List.getElem?_eq_getElem (by omega)⟩
  have hzD : gateZ C g = z := by simp [gateZ, List.getD_eq_getElem?_getD, hz]
  have hzm := List.mem_of_getElem? hz
  have hu := hf.u.a z hzm
  have hm0 := hf.m0
  have v1 : vOf z.2.1 < A.length := by rw [b.sp.len, hn]; unfold vOf; have := hu.1.1; have := hu.1.2.1; omega
  have v2 : vOf z.2.2 < (A.set (vOf z.2.1) true).length := by rw [List.length_set, b.sp.len, hn]; unfold vOf; have := hu.2.1; have := hu.2.2.1; omega
  have hnl : ∀ (j : Nat) (g2 : Int), i ≤ j → O[j]? = some g2 → vOf (gateZ C g2).1 ≠ vOf z.2.1 ∧ vOf (gateZ C g2).1 ≠ vOf z.2.2 := fun j g2 hj hg2 => by
    have k1 := not_later hf h hG hl hg (l := z.2.1) (.inl (by rw [← hzD]; rfl)) hj hg2
    have k2 := not_later hf h hG hl hg (l := z.2.2) (.inr (by rw [← hzD]; rfl)) hj hg2
    exact ⟨k1, k2⟩
  have hget : ∀ v, ((A.set (vOf z.2.1) true).set (vOf z.2.2) true).getD v false = true ↔ (A.getD v false = true ∨ v = vOf z.2.1) ∨ v = vOf z.2.2 := fun v => by rw [setB_get v2, setB_get v1]
  unfold stepB
  rw [hzD]
  by_cases ht : A.getD (vOf z.1) false = true
  · rw [if_pos ht]
    have hd := hf.d.two z.1 (hf.and_mem hzm)
    have hv0 : vOf z.1 ≠ 0 := by unfold vOf; omega
    have hh := b.sp.ok _ hv0 ht
    have hw := withU_and hf hzm
    have s1 := b.sp.set_ (l := z.2.1) (by rw [← b.sp.len]; exact v1) hu.1.1 (fun h2 => by
      have := Hang.left hh (by rw [hw]; exact h2)
      rwa [hw] at this)
    have s2 := s1.set_ (l := z.2.2) (by rw [List.length_set, b.sp.len] at v2; exact v2) hu.2.1 (fun h2 => by
      have := Hang.right hh (by rw [hw]; exact h2)
      rwa [hw] at this)
    refine ⟨s2, fun l hl => (hget _).2 (.inl (.inl (b.rt l hl))), fun j g2 hj hg2 hx => ?_⟩
    by_cases hji : j = i
    · subst hji
      rw [hg] at hg2
      injection hg2 with hg2
      subst hg2
      rw [hzD]
      exact ⟨(hget _).2 (.inl (.inr rfl)), (hget _).2 (.inr rfl)⟩
    · obtain ⟨n1, n2⟩ := hnl j g2 hj hg2
      rcases (hget _).1 hx with (hx | hx) | hx
      · obtain ⟨c1, c2⟩ := b.cl j g2 (by omega) hg2 hx
        exact ⟨(hget _).2 (.inl (.inl c1)), (hget _).2 (.inl (.inl c2))⟩
      · exact absurd hx n1
      · exact absurd hx n2
  · rw [if_neg ht]
    refine ⟨b.sp, b.rt, fun j g2 hj hg2 hx => ?_⟩
    by_cases hji : j = i
    · subst hji
      rw [hg] at hg2
      injection hg2 with hg2
      subst hg2
      rw [hzD] at hx
      exact absurd hx ht
    · exact b.cl j g2 (by omega) hg2 hx
theorem back_inv (hf : Fine C) (h : NewL C O) (hG : Greedy (usesC C) O) (hl : O.length = C.ands.length) (hn : n = C.max.toNat + 1) {A : List Bool} (b : BInv C O L n O.length A) : ∀ (k : Nat), k ≤ O.length → BInv C O L n (O.length - k) (backF C (O.drop (O.length - k)).reverse A)
  | 0, _ => by
    rw [Nat.sub_zero, List.drop_length]
    exact b
  | k + 1, hk => by
    obtain ⟨i, hi⟩ : ∃ i, O.length - (k + 1) = i := ⟨_, rfl⟩
    have hi2 : O.length - k = i + 1 := by omega
    have ih := back_inv hf h hG hl hn b k (by omega)
    rw [hi2] at ih
    rw [hi]
    obtain ⟨g, hg⟩ : ∃ g, O[i]? = some g := ⟨_, List.getElem?_eq_getElem (by omega)⟩
    rw [drop_one hg, List.reverse_cons, backF_snoc]
    exact ih.step hf h hG hl hn hg
/-- What the walk from the end of the order finds are the gates on which one of the literals hangs. -/
theorem back_sup (h0 : (checkR C).2 = 0) (hO : IsOrd C O) (hL : ∀ l ∈ L, 0 ≤ l ∧ l / 2 ≤ C.max) (z : Tri) (hz : z ∈ C.ands) :
    (backF C O.reverse (rootF L (List.replicate (C.max.toNat + 1) false))).getD (vOf z.1) false = (supF (withU C) L).getD (vOf z.1) false := by
  have hf := fine_of h0
  have hp := greedy_perm hO.g (by rw [hO.l, usesC_len])
  rw [usesC_len] at hp
  have hN := newL_of hf hp
  have hm0 := hf.m0
  have hfit := fits_with hf hL
  have s0 : SpI (withU C) L (C.max.toNat + 1) (List.replicate (C.max.toNat + 1) false) := ⟨by simp, fun v _ hv => by
    rw [List.getD_eq_getElem?_getD, List.getElem?_replicate] at hv
    split at hv <;> simp at hv⟩
  obtain ⟨a, _, c⟩ := roots_sp (n := C.max.toNat + 1) (fun l hl => ⟨(hL l hl).1, by unfold vOf; have := hL l hl; omega⟩) L _ (fun l hl => hl) s0
  have b0 : BInv C O L (C.max.toNat + 1) O.length (rootF L (List.replicate (C.max.toNat + 1) false)) := ⟨a, c, fun j g hj hg => by
    have := (List.getElem?_eq_some_iff.1 hg).1
    omega⟩
  have b := back_inv hf hN hO.g hO.l rfl b0 O.length (Nat.le_refl _)
  rw [Nat.sub_self, List.drop_zero] at b
  have hcl : ∀ z ∈ C.ands, (backF C O.reverse (rootF L (List.replicate (C.max.toNat + 1) false))).getD (vOf z.1) false = true → (backF C O.reverse (rootF L (List.replicate (C.max.toNat + 1) false))).getD (vOf z.2.1) false = true ∧ (backF C O.reverse (rootF L (List.replicate (C.max.toNat + 1) false))).getD (vOf z.2.2) false = true := fun y hy => by
    obtain ⟨i, hi⟩ := List.getElem?_of_mem hy
    have hil : i < C.ands.length := (List.getElem?_eq_some_iff.1 hi).1
    have hiO : (i : Int) ∈ O := hp.mem_iff.2 (mem_intRange.2 ⟨by omega, by omega⟩)
    obtain ⟨k, hk⟩ := List.getElem?_of_mem hiO
    have hzD : gateZ C (i : Int) = y := by simp [gateZ, List.getD_eq_getElem?_getD, hi]
    have := b.cl k _ (Nat.zero_le _) hk
    rwa [hzD] at this
  have he := spread_end (th := false) hf (L := L) (A := backF C O.reverse (rootF L (List.replicate (C.max.toNat + 1) false))) b.sp b.rt hcl (fun h => by cases h) hfit
  have hd := hf.d.two z.1 (hf.and_mem hz)
  have hv0 : 0 ≠ vOf z.1 := by unfold vOf; omega
  have hw : uOf C false = withU C := rfl
  rw [hw] at he
  rw [← he, getD_setF hv0]
theorem coneG_mem {C : Circ} {L : List Int} : ∀ z ∈ coneG C L, z ∈ C.ands := fun _ hz => (List.mem_filter.1 hz).1
theorem coneG_len (C : Circ) (L : List Int) : (coneG C L).length ≤ C.ands.length := List.length_filter_le _ _
end
end Go.Proofs.Ytdodhbfplglbkaa

namespace Go.Proofs.Ytdodhbfplglbkaa
open Go.RowKit Go.Shelf

attribute [local go_sem] Oper.semAt_some

theorem rev_snoc {α : Type} {ys : List α} {k i : Nat} {a : α} (hk : k < ys.length) (hi : ys.length - 1 - k = i) (ha : ys[i]? = some a) : ys.reverse.take (k + 1) = ys.reverse.take k ++ [a] := by
  rw [List.take_add_one, List.getElem?_reverse hk, hi, ha]; rfl
theorem rev_len {α : Type} {ys : List α} {k : Nat} (hk : k ≤ ys.length) : (ys.reverse.take k).length = k := by rw [List.length_take, List.length_reverse]; omega

/-- But for block g nothing of the first N blocks turns. -/
structure KB (N g : Nat) (W W' : World) : Prop where
  os : W'.os = W.os
  tape : W'.tape = W.tape
  output : W'.output = W.output
  size : W.heap.size ≤ W'.heap.size
  blk : ∀ k, k < N → k ≠ g → W'.heap[k]? = W.heap[k]?
theorem KB.refl (N g : Nat) (W : World) : KB N g W W := ⟨rfl, rfl, rfl, Nat.le_refl _, fun _ _ _ => rfl⟩
theorem KB.trans {N g : Nat} {A B C : World} (h : KB N g A B) (k : KB N g B C) : KB N g A C :=
  ⟨k.os.trans h.os, k.tape.trans h.tape, k.output.trans h.output, Nat.le_trans h.size k.size, fun i hi hg => (k.blk i hi hg).trans (h.blk i hi hg)⟩
theorem KB.cell {N g : Nat} {W W' : World} (h : KB N g W W') {p : Addr} (h1 : p.block < N) (h2 : p.block ≠ g) : W'.cell? p = W.cell? p := World.cell?_of_block (h.blk _ h1 h2)
theorem KB.set_ {N g : Nat} {A W : World} (h : KB N g A W) (i : Nat) (u : Value) : KB N g A (W.setCell ⟨g, i, none⟩ u) :=
  ⟨h.os, h.tape, h.output, by simpa using h.size, fun k hk hg => (Below.heap_setCell _ _ _ _ (by simpa using hg)).trans (h.blk k hk hg)⟩
theorem KB.alloc {N g : Nat} {A W : World} (h : KB N g A W) (hN : N ≤ W.heap.size) (o : Obj) : KB N g A (W.alloc o) :=
  ⟨h.os, h.tape, h.output, by have := h.size; simp; omega, fun k hk hg => (Below.heap_alloc W o k (by omega)).trans (h.blk k hk hg)⟩
theorem KB.drew {N g : Nat} {A W : World} (h : KB N g A W) : KB N g A W.drew := ⟨h.os, h.tape, h.output, h.size, h.blk⟩
theorem KB.grown {N g : Nat} {A W W' : World} {row : Option Nat} (h : KB N g A W) (hN : N ≤ W.heap.size) (hg : W.grownBy W' row) (hr : ∀ r, row = some r → N ≤ r) : KB N g A W' :=
  ⟨hg.os.trans h.os, hg.tape.trans h.tape, hg.output.trans h.output, Nat.le_trans h.size hg.size, fun k hk hkg => (hg.block k (by omega) (fun e => by have := hr _ e.symm; omega)).trans (h.blk k hk hkg)⟩
theorem KB.put {N g : Nat} {A W : World} (h : KB N g A W) (l : Nat) (o' : Obj) (hl : N ≤ l) : KB N g A (W.putObj l o') :=
  ⟨h.os, h.tape, h.output, by simpa using h.size, fun k hk hkg => (World.putObj_heap_other (by omega)).trans (h.blk k hk hkg)⟩

set_option maxRecDepth 100000 in
set_option maxHeartbeats 4000000 in
theorem back1_in (F : Fence) (n : Nat) (h8 : F.fn 138) (hro : F.round = none) (hn : 1 ≤ n) (l Bs N g len cap : Nat) (A : Option Addr) {α : Type} (val : α → Int × Int) (ys : List α) (hys : ys.length = len) (hreach : len ≤ 100000) (hB : Bs < N) (hBg : Bs ≠ g) (J Jx : List α → World → Prop)
    (hY : ∀ pre x W, J pre W → pre.length < len → YieldAt F (n - 1) Try.prog l #[.int .i64 (val x).1, .int .i64 (val x).2] W fun e W' =>
      (e = .returned (.bool true) ∧ J (pre ++ [x]) W' ∧ KB N g W W') ∨ (e = .returned (.bool false) ∧ Jx (pre ++ [x]) W'))
    (W : World) (hBs : W.cell? ⟨Bs, 0, none⟩ = some (.slice A len cap)) (hc : ∀ (j : Nat) (a : α), ys[j]? = some a → (val a).1 = (j : Int) ∧ ∃ b off, A = some ⟨b, off, none⟩ ∧ b < N ∧ b ≠ g ∧ W.cell? ⟨b, off + j, none⟩ = some (.int .i64 (val a).2)) (h0 : J [] W) :
    CallsIn F n Try.prog 138 #[.func (.yield l) #[] #[], .pointer (some ⟨Bs, 0, none⟩)] W fun e W' => (∃ v, e = .returned v) ∧
      ((∃ xs, xs = ys.reverse ∧ J xs W') ∨ (∃ pre, (∃ k, k ≤ len ∧ pre = ys.reverse.take k) ∧ Jx pre W')) := by
  refine callsIn_of_wp Try.func138 rfl h8 ?_ hro
  simp only [Try.ntmps138, List.size_toArray, List.length_cons, List.length_nil, Nat.reduceAdd, Nat.reduceSub, Array.replicate_succ, Array.replicate_zero, List.push_toArray, List.append_toArray, List.nil_append, List.cons_append]
  have hw0 : IntKind.i64.wrap ((len : Int) - 1) = (len : Int) - 1 := by rw [IntKind.wrap_i64]; omega
  gi_wp2
  gi_loopw [3] (fun i wr => ∃ k : Nat, k ≤ len ∧ i = .int .i64 ((len : Int) - 1 - k) ∧ J (ys.reverse.take k) wr ∧ KB N g W wr)
    (fun i _ => ((match i with | .int _ z => z | _ => 0) + 1).toNat)
  case atStart => exact ⟨0, Nat.zero_le _, by simp, h0, KB.refl _ _ _⟩
  case round =>
    obtain ⟨k, hk, rfl, hJs, hnx⟩ := hrel
    by_cases hlt : k < len
    · obtain ⟨i, hi⟩ : ∃ i : Nat, len - 1 - k = i := ⟨_, rfl⟩
      have hie : (len : Int) - 1 - k = (i : Int) := by omega
      have hil : i < len := by omega
      obtain ⟨y, hy0⟩ : ∃ y, ys[i]? = some y := ⟨_, List.getElem?_eq_getElem (by omega)⟩
      have hsn := rev_snoc (ys := ys) (k := k) (i := i) (by omega) (by omega) hy0
      obtain ⟨hv1, b, off, e, hb1, hb2, hcell⟩ := hc i y hy0
      subst e
      have hcx := (hnx.cell (p := ⟨b, off + i, none⟩) hb1 hb2).trans hcell
      have hbx := (hnx.cell (p := ⟨Bs, 0, none⟩) hB hBg).trans hBs
      obtain ⟨fn, tmps, assign, body, hy, hR⟩ := hY _ y wr hJs (by rw [rev_len (by omega)]; exact hlt)
      rw [hv1] at hy
      rw [hie]
      have hii : (0 : Int) ≤ (i : Int) := by omega
      have hi2 : (i : Int) < (len : Int) := by omega
      have hw1 : IntKind.i64.wrap ((i : Int) - 1) = (i : Int) - 1 := by rw [IntKind.wrap_i64]; omega
      gi_wp2
      refine hR.mono ?_
      rintro e W3 (⟨rfl, hJ3, hk3⟩ | ⟨rfl, hJx3⟩)
      · gi_wp2
        go_roundw
        case rel => exact ⟨k + 1, by omega, by congr 1; omega, by rw [hsn]; exact hJ3, hnx.trans hk3⟩
        case measure => first | omega | (simp; done) | (simp; omega)
      · gi_wp2
        refine bodyPost_ret (results_none rfl _ _ _) rfl ?_
        exact ⟨⟨_, rfl⟩, .inr ⟨_, ⟨k + 1, by omega, by rw [hsn]⟩, hJx3⟩⟩
    · obtain rfl : k = len := by omega
      have hfin : ys.reverse.take k = ys.reverse := List.take_of_length_le (by rw [List.length_reverse]; omega)
      rw [hfin] at hJs
      have hneg : ¬ (0 : Int) ≤ (k : Int) - 1 - k := by omega
      gi_wp2
      go_end0
      first | exact ⟨⟨_, rfl⟩, .inl ⟨_, rfl, hJs⟩⟩ | exact ⟨⟨_, rfl⟩, .inl hJs⟩
/-- slices.Backward's iterator: from the last to the first one. -/
theorem back_stops (F : Fence) (n : Nat) (h8 : F.fn 138) (hro : F.round = none) (hn : 1 ≤ n) (Bs N g len cap : Nat) (A : Option Addr) {α : Type} (val : α → Int × Int) (ys : List α) (hys : ys.length = len) (hreach : len ≤ 100000) (hB : Bs < N) (hBg : Bs ≠ g) (w : World) (hN : N ≤ w.heap.size)
    (hBs : w.cell? ⟨Bs, 0, none⟩ = some (.slice A len cap)) (hc : ∀ (j : Nat) (a : α), ys[j]? = some a → (val a).1 = (j : Int) ∧ ∃ b off, A = some ⟨b, off, none⟩ ∧ b < N ∧ b ≠ g ∧ w.cell? ⟨b, off + j, none⟩ = some (.int .i64 (val a).2)) :
    SeqStopsK F n Try.prog 138 #[.pointer (some ⟨Bs, 0, none⟩)] (fun x : α => #[Value.int .i64 (val x).1, Value.int .i64 (val x).2]) (KB N g) (fun xs => xs = ys.reverse) (fun pre => ∃ k, k ≤ len ∧ pre = ys.reverse.take k) len w := fun l J Jx W hW _ _ hY h0 => by
  have hbs := (hW.cell (p := ⟨Bs, 0, none⟩) (by simp; omega)).trans hBs
  exact back1_in F n h8 hro hn l Bs N g len cap A val ys hys hreach hB hBg J Jx hY W hbs (fun j a hj => by
    obtain ⟨h0, b, off, e, h1, h2, h3⟩ := hc j a hj
    exact ⟨h0, b, off, e, h1, h2, (hW.cell (p := ⟨b, off + j, none⟩) (by simp; omega)).trans h3⟩) h0
/-- The numbers of gates with their places. -/
structure IxP (n : Nat) where
  i : Int
  x : Int
  h0 : 0 ≤ x
  h1 : x < (n : Int)
theorem ixp_ex (n : Nat) : ∀ (O : List Int), (∀ x ∈ O, 0 ≤ x ∧ x < (n : Int)) → ∀ (s : Nat), ∃ ys : List (IxP n), ys.length = O.length ∧ (∀ (i : Nat) (a : IxP n), ys[i]? = some a → a.i = ((s + i : Nat) : Int) ∧ O[i]? = some a.x) ∧ ys.map (fun a => a.x) = O
  | [], _, _ => ⟨[], rfl, fun i a h => by simp at h, rfl⟩
  | x :: r, h, s => by
    obtain ⟨ys, h1, h2, h3⟩ := ixp_ex n r (fun y hy => h y (by simp [hy])) (s + 1)
    refine ⟨⟨(s : Int), x, (h x (by simp)).1, (h x (by simp)).2⟩ :: ys, by simp [h1], fun i a ha => ?_, by simp [h3]⟩
    cases i with
    | zero =>
      simp at ha
      subst ha
      exact ⟨rfl, rfl⟩
    | succ i =>
      have := h2 i a (by simpa using ha)
      exact ⟨by rw [this.1]; congr 1; omega, by simpa using this.2⟩
end Go.Proofs.Ytdodhbfplglbkaa

namespace Go.Proofs.Ytdodhbfplglbkaa
open Go.RowKit Go.Shelf

/-- An operation that makes no call and puts nothing off. -/
def tameB (o : Oper) : Bool := match o.op with
  | .move _ => true
  | .assign _ => true
  | .load _ _ => true
  | .store _ _ _ => true
  | .fieldAddr _ _ _ => true
  | .indexAddr _ _ _ => true
  | .binOp _ _ _ _ _ => true
  | _ => false
section
variable {P : Program} {F : Fence} {n : Nat} {o : Oper} {a : Act} {w : World} {next : Act → World → Prop} {Q : Exit → Act → World → Prop}
theorem tame_about (h : tameB o = true) (ρ : Operand → Value) : o.about P w ρ = none := by
  unfold tameB at h
  unfold Oper.about
  cases ho : o.op <;> simp [ho] at h ⊢
theorem tame_defer (h : tameB o = true) : ∀ c, o.op ≠ .defer c := fun c e => by
  unfold tameB at h
  rw [e] at h
  cases h
def plainR : Result Next → Prop
  | .ok (.value _) _ => True
  | .ok .skip _ => True
  | .ok _ _ => False
  | .halt _ _ => True
theorem plain_value (s : Sem Value) : plainR ((do pure (Next.value (← s)) : Sem Next).run P w) := by
  rw [Sem.run_bind]
  cases s.run P w with
  | ok v w' => simp [Result.andThen, plainR]
  | halt h w' => simp [Result.andThen, plainR]
theorem plain_skip (s : Sem Unit) : plainR ((do s; pure Next.skip : Sem Next).run P w) := by
  rw [Sem.run_bind]
  cases s.run P w with
  | ok v w' => simp [Result.andThen, plainR]
  | halt h w' => simp [Result.andThen, plainR]
theorem tame_plain (h : tameB o = true) (ρ : Operand → Value) : plainR ((execOp ρ o).run P w) := by
  unfold tameB at h
  unfold execOp
  cases ho : o.op <;> simp only [ho] at h ⊢
  all_goals first
    | exact plain_value _
    | exact plain_skip _
    | (simp [plainR]; done)
    | (cases h; done)
theorem tame_in (h : tameB o = true) (hw : o.wp P a w next Q) : o.wpIn F n P a w next Q := by
  refine ⟨fun f hf => (by rw [tame_about h] at hf; cases hf), ?_⟩
  rw [Oper.semAt_eq F.round a.eval o (tame_defer h)]
  have hp := tame_plain (P := P) (w := w) h a.eval
  unfold Oper.wp at hw
  revert hw hp
  generalize (execOp a.eval o).run P w = r
  intro hw hp
  cases r with
  | ok x w' => cases x <;> first | exact hw | exact hp.elim
  | halt e w' => cases e <;> first | exact hw | exact hw.elim
variable {ops : Array Oper}
theorem opsIn_of_ops (ht : ∀ (i : Nat) (o : Oper), ops[i]? = some o → tameB o = true) (hQ : ¬ LetsOut Q) : ∀ (L : List Nat) (a : Act) (w : World), wpOps P ops Q L a w → wpOpsIn F n P ops Q L a w
  | [], _, _, h => h
  | i :: r, a, w, h => by
    unfold wpOps at h
    unfold wpOpsIn
    cases ho : ops[i]? with
    | none => rw [ho] at h; exact opsIn_of_ops ht hQ r a w h
    | some o =>
      rw [ho] at h
      simp only at h ⊢
      split
      · rename_i hw
        rw [if_pos hw] at h
        rcases h with h | h
        · refine Oper.wpIn_mono (fun a w h => opsIn_of_ops ht hQ r a w h) (tame_in (ht i o ho) h)
        · exact absurd h.2 hQ
      · rename_i hw
        rw [if_neg hw] at h
        exact ⟨fun f hf => (by rw [tame_about (ht i o ho)] at hf; cases hf), opsIn_of_ops ht hQ r _ w h⟩
theorem all_tame (h : ops.toList.all tameB = true) : ∀ (i : Nat) (o : Oper), ops[i]? = some o → tameB o = true := fun i o ho => by
  rw [← Array.getElem?_toList] at ho
  exact List.all_eq_true.1 h o (List.mem_of_getElem? ho)
theorem wpIn_region_tame {id k : Nat} {S : World → Prop} (hm : P.follows .mixedOrders = true) (ht : ops.toList.all tameB = true) (hQ : ¬ LetsOut Q) (h : wpAnyT P .any ops Q S k ops.size (Array.replicate ops.size false) a w.drew) : (Code.region id ops true).wpIn F n P Q a w :=
  wpIn_region_draw fun t => by
    simp only [Region.schedule, hm, Bool.true_or, if_true]
    exact opsIn_of_ops (all_tame ht) hQ _ _ _ (wpAny_sound ops.size t _ a _ (wpAny_of_T _ _ _ _ h))
end
end Go.Proofs.Ytdodhbfplglbkaa

namespace Go.Proofs.Ytdodhbfplglbkaa
open Go.RowKit Go.Shelf Go.Maps

attribute [local go_sem] Oper.semAt_some

theorem tab_grown {w w' : World} {g : Nat} {A : List Bool} {row : Option Nat} (h : Tab w g A) (hg : w.grownBy w' row) (hr : ∀ r, row = some r → ∃ o : Obj, w.heap[r]? = some o ∧ o.isCells = false) : Tab w' g A := by
  refine Blk.grown h hg (fun e => ?_)
  obtain ⟨o, ho, hc⟩ := hr g e.symm
  unfold Tab Blk at h
  rw [h] at ho
  injection ho with ho
  subst ho
  simp [Obj.isCells] at hc

theorem KB.row {N g : Nat} {W W' : World} {E : Type} {k : Nat} {enc : E → List Value} {v : Value} {zs : List E} {w : World} (h : RowE k enc w v zs) (hb : Below w.heap.size w W) (hk : KB N g W W') (h1 : w.heap.size ≤ N) (h2 : w.heap.size ≤ g) : RowE k enc W' v zs := by
  refine h.below ⟨hk.os.trans hb.os, hk.tape.trans hb.tape, hk.output.trans hb.output, Nat.le_trans hb.size hk.size, fun j hj => ?_⟩
  exact (hk.blk j (by omega) (by omega)).trans (hb.block j hj)
theorem KB.below {N g B : Nat} {w W W' : World} (hb : Below B w W) (hk : KB N g W W') (h1 : B ≤ N) (h2 : B ≤ g) : Below B w W' :=
  ⟨hk.os.trans hb.os, hk.tape.trans hb.tape, hk.output.trans hb.output, Nat.le_trans hb.size hk.size, fun j hj => (hk.blk j (by omega) (by omega)).trans (hb.block j hj)⟩
theorem KB.box {N g k : Nat} {W W' : World} {t : TypeId} {cs : Array Value} (h : Blk W k t cs) (hk : KB N g W W') (h1 : k < N) (h2 : k ≠ g) : Blk W' k t cs := (hk.blk k h1 h2).trans h
set_option maxHeartbeats 400000 in
set_option maxRecDepth 100000 in
theorem Backward_any (w : World) (v : Value) {A : Option Addr} {n c : Nat} (hv : v = .slice A n c) : Calls Try.prog 103 #[v] w fun e w' => e = .returned (.func (.func 138) #[] #[.pointer (some ⟨w.heap.size, 0, none⟩)]) ∧ w' = w.alloc (.cells #[v] 22) := by
  subst hv
  go_enter Try.func103, Try.ntmps103
  go_wp2
  go_ret
  exact ⟨rfl, rfl⟩

theorem and_infoE : (Try.prog.info? 68).map (fun i => (i.zero, i.size, i.bytes)) = some (some (.agg #[.int .i64 0, .int .i64 0, .int .i64 0]), 3, 24) := by kernel_rfl
theorem reads_triE (w : World) (a b c : Value) (t : TypeId) : Reads (w.alloc (.cells #[a, b, c] t)) (w.heap.size + 1) 3 (some ⟨w.heap.size, 0, none⟩) 1 [a, b, c] := by
  refine ⟨rfl, fun _ => ⟨_, rfl, by simp, fun j u hu => ?_⟩⟩
  rw [add_none, Nat.zero_add, cell_of_row _ _ _ #[a, b, c] t (0, 0) (heap_alloc_new w _)]
  simpa using hu

set_option maxHeartbeats 8000000 in
set_option maxRecDepth 100000 in
theorem coneOf_any (w : World) (V : CV) (C : Circ) (ov lv : Value) (O L : List Int) (h : C.In w V) (h0 : (checkR C).2 = 0) (hO : IsOrd C O) (ho : RowE 1 encI w ov O) (hl : RowE 1 encI w lv L) (hL : ∀ l ∈ L, 0 ≤ l ∧ l / 2 ≤ C.max) (hLn : L.length ≤ 16384) :
    Calls Try.prog 52 #[V.val C.max, ov, lv] w fun e w' => Below w.heap.size w w' ∧ ∃ v, e = .returned v ∧ RowE 3 encT w' v (coneG C L) := by
  have hrt := right_of h0
  obtain ⟨m, hm⟩ : ∃ m : Nat, C.max = (m : Int) := ⟨C.max.toNat, by have := hrt.m0; omega⟩
  have hm1 : m ≤ 16384 := by have := hrt.m1; omega
  have HSUP := Lib.hid (back_sup h0 hO hL)
  have hmt : C.max.toNat = m := by omega
  rw [hmt] at HSUP
  obtain ⟨AA, ca, ea, _, _, rA⟩ := h.a
  obtain ⟨nA, hnA⟩ : ∃ n, C.ands.length = n := ⟨_, rfl⟩
  have hna : nA ≤ 16384 := by rw [← hnA]; exact hrt.na
  rw [hnA] at ea
  obtain ⟨OA, oc, eo, _, _, rO⟩ := ho
  have hon : O.length = nA := by rw [hO.l, hnA]
  rw [hon] at eo
  obtain ⟨LA, lc, el, _, _, rL⟩ := hl
  obtain ⟨nL, hnL⟩ : ∃ n, L.length = n := ⟨_, rfl⟩
  rw [hnL] at el hLn
  obtain ⟨Vi, Vl, Vo, Vb, Vc, Vj, Vf, Va, Vs, Vt⟩ := V
  simp only at ea
  subst ea eo el
  obtain ⟨ys, hys, hyv, hym⟩ := ixp_ex nA O (fun x hx => by have := hO.inR x hx; rw [hnA] at this; exact this) 0
  have HYS := Lib.hid (hys.trans hon)
  have HYV := Lib.hid hyv
  have HYM := Lib.hid hym
  have HRA := Lib.hid rA
  have HRO := Lib.hid rO
  have HRL := Lib.hid rL
  have HLL := Lib.hid hL
  have HNA := Lib.hid hnA
  have HNL := Lib.hid hnL
  have HMM := Lib.hid hm
  have HZ := Lib.hid (gates_in h0 hm)
  have hmk := make_bools (m + 1) (by omega)
  have hmc : ((m + 1 : Nat) : Int) = (m : Int) + 1 := by push_cast; rfl
  rw [hmc] at hmk
  have hmw : IntKind.i64.wrap ((m : Int) + 1) = (m : Int) + 1 := i64_in (by omega)
  obtain ⟨P, hP⟩ : ∃ P : Tri → Bool, (fun z : Tri => (supF (withU C) L).getD (vOf z.1) false) = P := ⟨_, rfl⟩
  obtain ⟨G, hG⟩ : ∃ G, coneG C L = G := ⟨_, rfl⟩
  have HCG : Hid ((C.ands.take nA).filter P = G) := Lib.hid (by rw [← hG, ← hP, List.take_of_length_le (by rw [hnA]; exact Nat.le_refl _)]; rfl)
  have HSP : Hid (∀ z ∈ C.ands, (backF C O.reverse (rootF L (List.replicate (m + 1) false))).getD (vOf z.1) false = P z) := Lib.hid (fun z hz => by rw [← hP]; exact HSUP.out z hz)
  rw [hm, hG]
  obtain ⟨W0, hW0⟩ : ∃ W0, w.alloc (.cells #[.int .i64 m, Vi, Vl, Vo, Vb, Vc, Vj, Vf, .slice AA nA ca, Vs, Vt] 29) = W0 := ⟨_, rfl⟩
  have HB0 : Hid (Below w.heap.size w W0) := Lib.hid (by rw [← hW0]; exact (Below.refl _ _).alloc (Nat.le_refl _) _)
  have HX0 : Hid (Blk W0 w.heap.size 29 #[.int .i64 m, Vi, Vl, Vo, Vb, Vc, Vj, Vf, .slice AA nA ca, Vs, Vt]) := Lib.hid (by rw [← hW0]; exact Blk.new _ _ _)
  have HS0 : Hid (W0.heap.size = w.heap.size + 1) := Lib.hid (by rw [← hW0]; simp)
  have HW0 := Lib.hid hW0
  obtain ⟨c0, c1, c2, c3, c4, c5, c6, c7, c8, c9, c10⟩ := rbox_of HX0.out
  clear h h0 hO hL hrt hm hmt hG hP HSUP rA rO rL hys hyv hym hon hnA hnL hmc hW0
  refine callsIn_wide.1 (callsIn_of_wp_marks (F := Fence.wide) (n := 3) Try.func52 rfl trivial ?_ rfl)
  refine wpIn_wide.2 ?_
  simp only [Try.ntmps52, List.size_toArray, List.length_cons, List.length_nil, Nat.reduceAdd, Nat.reduceSub, Array.replicate_succ, Array.replicate_zero, List.push_toArray, List.append_toArray, List.nil_append, List.cons_append]
  go_upto_region 1 with (fail)
  rw [HW0.out]
  go_upto_region 2 with (fail)
  obtain ⟨g, hg⟩ : ∃ g, W0.heap.size = g := ⟨_, rfl⟩
  obtain ⟨W1, hW1⟩ : ∃ W1, (W0.alloc (.cells (madeCells #[Value.bool false] (m + 1)) 4)).alloc (.cells #[.slice (some ⟨g, 0, none⟩) (m + 1) (m + 1)] 55) = W1 := ⟨_, rfl⟩
  have HG : Hid (w.heap.size + 1 = g) := Lib.hid (by rw [← hg, HS0.out])
  have HT1 : Hid (Tab W1 g (rootF (L.take 0) (List.replicate (m + 1) false))) := Lib.hid (by
    rw [← hW1]
    refine Blk.alloc ?_ _
    rw [← hg]
    unfold rootF
    rw [List.take_zero, List.foldl_nil, ← made_bools]
    exact Blk.new _ _ _)
  have HH1 : Hid (Blk W1 (g + 1) 55 #[.slice (some ⟨g, 0, none⟩) (m + 1) (m + 1)]) := Lib.hid (by
    rw [← hW1]
    have := Blk.new (W0.alloc (.cells (madeCells #[Value.bool false] (m + 1)) 4)) 55 #[.slice (some ⟨g, 0, none⟩) (m + 1) (m + 1)]
    rwa [show (W0.alloc (.cells (madeCells #[Value.bool false] (m + 1)) 4)).heap.size = g + 1 by simp [hg]] at this)
  have HX1 : Hid (Blk W1 w.heap.size 29 #[.int .i64 m, Vi, Vl, Vo, Vb, Vc, Vj, Vf, .slice AA nA ca, Vs, Vt]) := Lib.hid (by rw [← hW1]; exact (HX0.out.alloc _).alloc _)
  have HB1 : Hid (Below w.heap.size w W1) := Lib.hid (by rw [← hW1]; exact (HB0.out.alloc HB0.out.size _).alloc (by have := HB0.out.size; simp; omega) _)
  have HS1 : Hid (W1.heap.size = g + 2) := Lib.hid (by rw [← hW1]; simp [hg])
  rw [hg, hW1]
  clear hg hW1 c0 c1 c2 c3 c4 c5 c6 c7 c8 c9 c10 hmk
  have HK1 : Hid (KB (g + 2) g W1 W1) := Lib.hid (KB.refl _ _ _)
  go_wp2
  go_loopg [22] nL (fun k i wx => ∃ q : Nat, q ≤ nL ∧ k = nL - q ∧ i = .int .i64 q ∧ Tab wx g (rootF (L.take q) (List.replicate (m + 1) false)) ∧ KB (g + 2) g W1 wx)
  case atStart => exact ⟨0, Nat.zero_le _, rfl, rfl, HT1.out, HK1.out⟩
  case round =>
    obtain ⟨q, hq, hgk, rfl, htb, hkb⟩ := hrel
    subst hgk
    have HT := Lib.hid htb
    have HK := Lib.hid hkb
    clear htb hkb HT1 HK1
    have hh := (HK.out.cell (p := ⟨g + 1, 0, none⟩) (by simp) (by simp)).trans (HH1.out.cell 0)
    simp only [List.getElem?_toArray, List.getElem?_cons_zero] at hh
    by_cases hlt : q < nL
    · obtain ⟨l, hl⟩ : ∃ l, L[q]? = some l := ⟨_, List.getElem?_eq_getElem (by rw [HNL.out]; exact hlt)⟩
      obtain ⟨b, off, e, hb, hcell⟩ := HRL.out q l hl
      subst e
      obtain ⟨hl0, hl1⟩ := HLL.out l (List.mem_of_getElem? hl)
      rw [HMM.out] at hl1
      have hc0 := ((KB.below HB1.out HK.out (by have := HG.out; omega) (by have := HG.out; omega)).cell (p := ⟨b, off + (q * 1 + 0), none⟩) hb).trans (hcell 0 _ rfl)
      simp only [Nat.mul_one, Nat.add_zero] at hc0
      have HTK : Hid (rootF (L.take (q + 1)) (List.replicate (m + 1) false) = (rootF (L.take q) (List.replicate (m + 1) false)).set (vOf l) true) := Lib.hid (by rw [List.take_add_one, hl]; exact rootF_snoc _ _ _)
      have htl : (l / 2).toNat < (rootF (L.take q) (List.replicate (m + 1) false)).length := by rw [rootF_len, List.length_replicate]; omega
      have hold := HT.out.cell (getD_bool htl)
      have hfr := Blk.frozen HT.out (l / 2).toNat
      have hgb := Blk.lt HT.out
      have hq2 := tdiv_nn (b := 2) hl0
      have hq3 : 0 ≤ l / 2 := by omega
      have hq4 : l / 2 < (m : Int) + 1 := by omega
      have hq5 : l / 2 < ((m + 1 : Nat) : Int) := by push_cast; omega
      have hq8 : IntKind.i64.wrap (l / 2) = l / 2 := by simp [IntKind.wrap, IntKind.bits, IntKind.signed]; omega
      clear hcell hl htl
      go_wp2
      go_roundg (nL - (q + 1))
      case measure => omega
      case rel => exact ⟨q + 1, by omega, rfl, by go_num, by rw [HTK.out]; exact HT.out.set_ _ _, HK.out.set_ _ _⟩
    · have hqe : nL = q := by omega
      subst hqe
      have HRT : Hid (Tab wr g (rootF L (List.replicate (m + 1) false))) := Lib.hid (by
        have := HT.out
        rwa [List.take_of_length_le (by rw [HNL.out]; exact Nat.le_refl _)] at this)
      clear hlt hq HT
      go_wp2_with (go_at_call 103; refine (Backward_any _ _ rfl).mono ?_; rintro e w5 ⟨rfl, hw5⟩)
      obtain ⟨WL, hWL⟩ : ∃ WL, wr.alloc (.cells #[.slice OA nA oc] 22) = WL := ⟨_, rfl⟩
      obtain ⟨s, hs⟩ : ∃ s, wr.heap.size = s := ⟨_, rfl⟩
      have hgs : g + 2 ≤ s := by rw [← hs]; have := HK.out.size; have := HS1.out; omega
      have HGS := Lib.hid hgs
      have HSL : Hid (WL.heap.size = s + 1) := Lib.hid (by rw [← hWL]; simp [hs])
      have HBX : Hid (Blk WL s 22 #[.slice OA nA oc]) := Lib.hid (by rw [← hWL, ← hs]; exact Blk.new _ _ _)
      have HBL : Hid (Below w.heap.size w WL) := Lib.hid (by
        rw [← hWL]
        have := KB.below HB1.out HK.out (by have := HG.out; omega) (by have := HG.out; omega)
        exact this.alloc this.size _)
      have HXL : Hid (Blk WL w.heap.size 29 #[.int .i64 m, Vi, Vl, Vo, Vb, Vc, Vj, Vf, .slice AA nA ca, Vs, Vt]) := Lib.hid (by rw [← hWL]; exact (KB.box HX1.out HK.out (by have := HG.out; omega) (by have := HG.out; omega)).alloc _)
      have HHL : Hid (Blk WL (g + 1) 55 #[.slice (some ⟨g, 0, none⟩) (m + 1) (m + 1)]) := Lib.hid (by rw [← hWL]; exact (KB.box HH1.out HK.out (by omega) (by omega)).alloc _)
      have HTL : Hid (Tab WL g (rootF L (List.replicate (m + 1) false))) := Lib.hid (by rw [← hWL]; exact Blk.alloc HRT.out _)
      rw [hWL, hs]
      clear hw5 hWL hs hh HRT HK
      refine (wpIn_wide (n := 3)).1 (wpIn_rangeFunc_ownF (F := Fence.wide) (n := 3) rfl (by omega) (gf := 138) (lb := #[.pointer (some ⟨s, 0, none⟩)]) rfl trivial (enters_of Try.func138 (by kernel_rfl) rfl)
        (back_stops Fence.wide 2 trivial rfl (by omega) s (s + 1) g nA oc OA (fun a : IxP nA => (a.i, a.x)) ys HYS.out (by omega) (by omega) (by omega) WL (by rw [HSL.out]; exact Nat.le_refl _) (by have := HBX.out.cell 0; simpa using this) (fun j a hj => ?it)) (fun h k => h.trans k) (fun W l o o' hl _ _ _ => (KB.refl (s + 1) g W).put l o' (by rw [← HSL.out]; exact hl)) (Below.refl _ _) (fun _ => rfl)
        (fun (pre : List (IxP nA)) W => KB (s + 1) g WL W ∧ Tab W g (backF C (pre.map (fun a => a.x)) (rootF L (List.replicate (m + 1) false))))
        (fun _ _ _ => False)
        (fun pr A B row hp hg hr => ⟨hp.1.grown (by have := hp.1.size; have := HSL.out; omega) hg (fun r e => by have := (hr r e).1; have := HSL.out; omega), tab_grown hp.2 hg (fun r e => (hr r e).2)⟩)
        (fun _ _ _ _ _ hp _ _ => hp)
        ⟨KB.refl _ _ _, HTL.out⟩ ?a1 ?assign ?body ?done ?stop)
      case it =>
        obtain ⟨e1, e2⟩ := HYV.out j a hj
        obtain ⟨b, off, e, hb, hc⟩ := HRO.out j a.x e2
        have h9 := (HBL.out.cell (p := ⟨b, off + (j * 1 + 0), none⟩) hb).trans (hc 0 _ rfl)
        simp only [Nat.mul_one, Nat.add_zero] at h9
        exact ⟨by rw [e1, Nat.zero_add], b, off, e, by have := HG.out; omega, by have := HG.out; omega, h9⟩
      case assign =>
        intro l x W K hK
        gi_wp2
        exact hK
      case body =>
        rintro l pre x W ⟨hkb, htb⟩ _
        obtain ⟨xi, xx, hx0, hx1⟩ := x
        obtain ⟨i, hi⟩ : ∃ i : Nat, xx = (i : Int) := ⟨xx.toNat, by omega⟩
        subst hi
        have HKB := Lib.hid hkb
        obtain ⟨A, hA⟩ : ∃ A, backF C (pre.map (fun a => a.x)) (rootF L (List.replicate (m + 1) false)) = A := ⟨_, rfl⟩
        rw [hA] at htb
        have HTB := Lib.hid htb
        have HAL : Hid (A.length = m + 1) := Lib.hid (by rw [← hA, backF_len, rootF_len, List.length_replicate])
        have HNX : Hid (backF C ((pre ++ [(⟨xi, (i : Int), hx0, hx1⟩ : IxP nA)]).map (fun a => a.x)) (rootF L (List.replicate (m + 1) false)) = stepB C A (i : Int)) := Lib.hid (by rw [List.map_append]; show backF C (_ ++ [(i : Int)]) _ = _; rw [backF_snoc, hA])
        have hil : i < nA := by omega
        obtain ⟨z, hz⟩ : ∃ z, C.ands[i]? = some z := ⟨_, List.getElem?_eq_getElem (by rw [HNA.out]; exact hil)⟩
        have hzD : gateZ C (i : Int) = z := by simp [gateZ, List.getD_eq_getElem?_getD, hz]
        have hzr := HZ.out z (List.mem_of_getElem? hz)
        obtain ⟨b, off, e, hb, hcell⟩ := HRA.out i z hz
        subst e
        obtain ⟨z0, z1, z2⟩ := z
        obtain ⟨⟨hl0, hl1⟩, ⟨hm2, hm3⟩, hm4, hm5⟩ := hzr
        simp only at hl0 hl1 hm2 hm3 hm4 hm5
        have hbw := KB.below HBL.out hkb (by have := HG.out; omega) (by have := HG.out; omega)
        have h0 := (hbw.cell (p := ⟨b, off + (i * 3 + 0), none⟩) hb).trans (hcell 0 _ rfl)
        have h1 := (hbw.cell (p := ⟨b, off + (i * 3 + 1), none⟩) hb).trans (hcell 1 _ rfl)
        have h2 := (hbw.cell (p := ⟨b, off + (i * 3 + 2), none⟩) hb).trans (hcell 2 _ rfl)
        simp only [Nat.add_zero, ← Nat.add_assoc] at h0 h1 h2
        have c8 := (KB.box HXL.out hkb (by have := HG.out; omega) (by have := HG.out; omega)).cell 8
        have hh := (KB.box HHL.out hkb (by omega) (by omega)).cell 0
        have hwz : g + 1 < W.heap.size := by have := hkb.size; have := HSL.out; omega
        have hhA : (W.alloc (.cells #[.int .i64 z0, .int .i64 z1, .int .i64 z2] 68)).cell? ⟨g + 1, 0, none⟩ = some (.slice (some ⟨g, 0, none⟩) (m + 1) (m + 1)) := (World.cell?_alloc_lt W _ _ hwz).trans hh
        have HTA := Lib.hid (show Tab (W.alloc (.cells #[.int .i64 z0, .int .i64 z1, .int .i64 z2] 68)) g A from Blk.alloc htb _)
        have hnb : Blk (W.alloc (.cells #[.int .i64 z0, .int .i64 z1, .int .i64 z2] 68)) W.heap.size 68 #[.int .i64 z0, .int .i64 z1, .int .i64 z2] := Blk.new W _ _
        have y0 := hnb.cell 0
        have y1 := hnb.cell 1
        have y2 := hnb.cell 2
        simp only [List.getElem?_toArray, List.getElem?_cons_zero, List.getElem?_cons_succ] at c8 hh hhA y0 y1 y2
        obtain ⟨bit, hbit⟩ : ∃ x, A[(z0 / 2).toNat]? = some x := ⟨_, List.getElem?_eq_getElem (by rw [HAL.out]; omega)⟩
        have ht0 := HTA.out.cell hbit
        have hbd : A.getD (vOf z0) false = bit := by rw [List.getD_eq_getElem?_getD]; unfold vOf; rw [hbit]; rfl
        have hq2 := tdiv_nn (b := 2) hl0
        have hq3 : 0 ≤ z0 / 2 := by omega
        have hq4 : z0 / 2 < (m : Int) + 1 := by omega
        have hq5 : z0 / 2 < ((m + 1 : Nat) : Int) := by push_cast; omega
        have hq8 : IntKind.i64.wrap (z0 / 2) = z0 / 2 := by simp [IntKind.wrap, IntKind.bits, IntKind.signed]; omega
        have hin : (i : Int) < (nA : Int) := by omega
        have hin0 : (0 : Int) ≤ (i : Int) := by omega
        have HKA := Lib.hid (hkb.alloc (by have := hkb.size; have := HSL.out; omega) (.cells #[.int .i64 z0, .int .i64 z1, .int .i64 z2] 68))
        have HKO : Hid (KeepsOthers W (W.alloc (.cells #[.int .i64 z0, .int .i64 z1, .int .i64 z2] 68))) := Lib.hid (KeepsOthers.alloc _ _)
        have HKS : Hid (KB (s + 1) g W (W.alloc (.cells #[.int .i64 z0, .int .i64 z1, .int .i64 z2] 68))) := Lib.hid ((KB.refl _ _ _).alloc (by have := hkb.size; have := HSL.out; omega) _)
        cases bit
        · have HST : Hid (stepB C A (i : Int) = A) := Lib.hid (by unfold stepB; rw [hzD]; rw [if_neg (by rw [hbd]; simp)])
          clear hcell hz hbw hnb hkb htb hbit hbd hzD hA
          gi_wp2
          exact ⟨HKO.out, HKS.out, HKA.out, by rw [HNX.out, HST.out]; exact HTA.out⟩
        · have HST : Hid (stepB C A (i : Int) = (A.set (vOf z1) true).set (vOf z2) true) := Lib.hid (by unfold stepB; rw [hzD]; rw [if_pos hbd])
          have hw2 := tdiv_nn (b := 2) hm2
          have hw3 : 0 ≤ z1 / 2 := by omega
          have hw4 : z1 / 2 < (m : Int) + 1 := by omega
          have hw5 : z1 / 2 < ((m + 1 : Nat) : Int) := by push_cast; omega
          have hw8 : IntKind.i64.wrap (z1 / 2) = z1 / 2 := by simp [IntKind.wrap, IntKind.bits, IntKind.signed]; omega
          have hv2 := tdiv_nn (b := 2) hm4
          have hv3 : 0 ≤ z2 / 2 := by omega
          have hv4 : z2 / 2 < (m : Int) + 1 := by omega
          have hv5 : z2 / 2 < ((m + 1 : Nat) : Int) := by push_cast; omega
          have hv8 : IntKind.i64.wrap (z2 / 2) = z2 / 2 := by simp [IntKind.wrap, IntKind.bits, IntKind.signed]; omega
          have ho1 := HTA.out.cell (getD_bool (show (z1 / 2).toNat < A.length by rw [HAL.out]; omega))
          have ho2 := HTA.out.cell (getD_bool (show (z2 / 2).toNat < A.length by rw [HAL.out]; omega))
          have hf1 := Blk.frozen HTA.out (z1 / 2).toNat
          have hf2 := Blk.frozen HTA.out (z2 / 2).toNat
          have hgl := Blk.lt HTA.out
          clear hcell hz hbw hnb hkb htb hbit hbd hzD hA
          have HDO := Lib.hid (KeepsOthers.drew (W.alloc (.cells #[.int .i64 z0, .int .i64 z1, .int .i64 z2] 68)))
          obtain ⟨wA, hwA⟩ : ∃ x, W.alloc (.cells #[.int .i64 z0, .int .i64 z1, .int .i64 z2] 68) = x := ⟨_, rfl⟩
          obtain ⟨p, hpz⟩ : ∃ x, W.heap.size = x := ⟨_, rfl⟩
          have hpg : p ≠ g := by omega
          rw [hwA] at HTA HKA HKO HKS HDO hhA y0 y1 y2 ho1 ho2 hf1 hf2 hgl ht0
          rw [hpz] at y0 y1 y2
          have HPG := Lib.hid hpg
          have HS9 : Hid (∀ (wx : World) (j : Nat), (wx.cell? ⟨g + 1, 0, none⟩ = some (.slice (some ⟨g, 0, none⟩) (m + 1) (m + 1)) ∧ wx.cell? ⟨p, 1, none⟩ = some (.int .i64 z1) ∧ wx.cell? ⟨p, 2, none⟩ = some (.int .i64 z2)) → ((wx.setCell ⟨g, j, none⟩ (.bool true)).cell? ⟨g + 1, 0, none⟩ = some (.slice (some ⟨g, 0, none⟩) (m + 1) (m + 1)) ∧ (wx.setCell ⟨g, j, none⟩ (.bool true)).cell? ⟨p, 1, none⟩ = some (.int .i64 z1) ∧ (wx.setCell ⟨g, j, none⟩ (.bool true)).cell? ⟨p, 2, none⟩ = some (.int .i64 z2))) := Lib.hid (fun wx j h => ⟨(World.cell?_setCell_other wx _ _ _ (by intro e; cases e)).trans h.1, (World.cell?_setCell_other wx _ _ _ (by intro e; cases e; exact HPG.out rfl)).trans h.2.1, (World.cell?_setCell_other wx _ _ _ (by intro e; cases e; exact HPG.out rfl)).trans h.2.2⟩)
          gi_wp2
          (try rw [hwA])
          (try rw [hpz])
          refine wpIn_region_tame (k := 12) (S := fun w' => w'.cell? ⟨g + 1, 0, none⟩ = some (.slice (some ⟨g, 0, none⟩) (m + 1) (m + 1)) ∧ w'.cell? ⟨p, 1, none⟩ = some (.int .i64 z1) ∧ w'.cell? ⟨p, 2, none⟩ = some (.int .i64 z2)) (by kernel_rfl) (by kernel_rfl) (by rintro ⟨a9, w9, h9⟩; exact h9) ?_
          have hHeld : wA.drew.cell? ⟨g + 1, 0, none⟩ = some (.slice (some ⟨g, 0, none⟩) (m + 1) (m + 1)) ∧ wA.drew.cell? ⟨p, 1, none⟩ = some (.int .i64 z1) ∧ wA.drew.cell? ⟨p, 2, none⟩ = some (.int .i64 z2) := ⟨hhA, y1, y2⟩
          refine wpAnyT_take (i := 0) (v := ?v0q1) rfl (by kernel_rfl) (fun _ _ _ h => h) (by rfl) hHeld ?h0q1 ?_
          case h0q1 => (intro w' hSw; (try dsimp only at hSw); go_simp; try with_reducible rfl)
          (try simp only [Act.put, List.setIfInBounds_toArray])
          refine wpAnyT_take (i := 1) (v := ?v1q2) rfl (by kernel_rfl) (fun _ _ _ h => h) (by rfl) hHeld ?h1q2 ?_
          case h1q2 => (intro w' hSw; (try dsimp only at hSw); go_simp; try with_reducible rfl)
          (try simp only [Act.put])
          refine wpAnyT_take (i := 2) (v := ?v2q3) rfl (by kernel_rfl) (fun _ _ _ h => h) (by rfl) hHeld ?h2q3 ?_
          case h2q3 => (intro w' hSw; (try dsimp only at hSw); go_simp; try with_reducible rfl)
          (try simp only [Act.put])
          refine wpAnyT_take (i := 3) (v := ?v3q4) rfl (by kernel_rfl) (fun _ _ _ h => h) (by rfl) hHeld ?h3q4 ?_
          case h3q4 => (intro w' hSw; (try dsimp only at hSw); go_simp; try with_reducible rfl)
          (try simp only [Act.put])
          refine wpAnyT_take (i := 4) (v := ?v4q5) rfl (by kernel_rfl) (fun _ _ _ h => h) (by rfl) hHeld ?h4q5 ?_
          case h4q5 => (intro w' hSw; (try dsimp only at hSw); go_simp; try with_reducible rfl)
          (try simp only [Act.put])
          refine wpAnyT_take (i := 5) (v := ?v5q6) rfl (by kernel_rfl) (fun _ _ _ h => h) (by rfl) hHeld ?h5q6 ?_
          case h5q6 => (intro w' hSw; (try dsimp only at hSw); go_simp; try with_reducible rfl)
          (try simp only [Act.put])
          refine wpAnyT_take (i := 6) (v := ?v6q7) rfl (by kernel_rfl) (fun _ _ _ h => h) (by rfl) hHeld ?h6q7 ?_
          case h6q7 => (intro w' hSw; (try dsimp only at hSw); go_simp; try with_reducible rfl)
          (try simp only [Act.put])
          refine wpAnyT_take (i := 7) (v := ?v7q8) rfl (by kernel_rfl) (fun _ _ _ h => h) (by rfl) hHeld ?h7q8 ?_
          case h7q8 => (intro w' hSw; (try dsimp only at hSw); go_simp; try with_reducible rfl)
          (try simp only [Act.put])
          refine wpAnyT_take (i := 8) (v := ?v8q9) rfl (by kernel_rfl) (fun _ _ _ h => h) (by rfl) hHeld ?h8q9 ?_
          case h8q9 => (intro w' hSw; (try dsimp only at hSw); go_simp; try with_reducible rfl)
          (try simp only [Act.put])
          have HHE := Lib.hid hHeld
          clear hHeld
          refine wpAnyT_one (i := 9) rfl (by kernel_rfl) (fun K hK => ?_)
          go_simp
          refine hK.out _ _ (fun _ => HS9.out _ _ HHE.out) ?_
          clear hK K
          (try simp only [Act.put, List.setIfInBounds_toArray, List.set_cons_zero, List.set_cons_succ])
          have hT2 : Tab (wA.setCell ⟨g, (z1 / 2).toNat, none⟩ (.bool true)) g (A.set (z1 / 2).toNat true) := Tab.set_ HTA.out _ _
          have HT2 := Lib.hid hT2
          have hp1 := hT2.cell (getD_bool (show (z2 / 2).toNat < (A.set (z1 / 2).toNat true).length by rw [List.length_set, HAL.out]; omega))
          have hp2 := Blk.frozen hT2 (z2 / 2).toNat
          have hp3 := Blk.lt hT2
          clear hT2
          refine wpAnyT_one (i := 10) rfl (by kernel_rfl) (fun K hK => ?_)
          go_simp
          refine hK.out _ _ (fun _ => HS9.out _ _ HHE.out) ?_
          clear hK K
          (try simp only [Act.put, List.setIfInBounds_toArray, List.set_cons_zero, List.set_cons_succ])
          refine wpAnyT_one (i := 11) rfl (by kernel_rfl) (fun K hK => ?_)
          go_simp
          refine hK.out _ _ (fun _ => HS9.out _ _ (HS9.out _ _ HHE.out)) ?_
          clear hK K
          (try simp only [Act.put, List.setIfInBounds_toArray, List.set_cons_zero, List.set_cons_succ])
          refine wpAnyT_done (by kernel_rfl) ?_
          exact And.intro (((HKO.out.trans HDO.out).trans (KeepsOthers.setCell _ ⟨g, (z1 / 2).toNat, none⟩ (.bool true))).trans (KeepsOthers.setCell _ ⟨g, (z2 / 2).toNat, none⟩ (.bool true))) (And.intro ((HKS.out.drew.set_ _ _).set_ _ _) (And.intro ((HKA.out.drew.set_ _ _).set_ _ _) (by rw [HNX.out, HST.out]; exact HT2.out.set_ _ _)))
      case done =>
        rintro D xs W hD rfl ⟨hkb, htb⟩ hK
        have HTW : Hid (Tab W g (backF C O.reverse (rootF L (List.replicate (m + 1) false)))) := Lib.hid (by rw [List.map_reverse, HYM.out] at htb; exact htb)
        have HKB := Lib.hid hkb
        have HDK := Lib.hid hK
        have HXW := Lib.hid (KB.box HXL.out hkb (by have := HG.out; omega) (by have := HG.out; omega))
        have c8 := HXW.out.cell 8
        simp only [List.getElem?_toArray, List.getElem?_cons_zero, List.getElem?_cons_succ] at c8
        have hh := (KB.box HHL.out hkb (by omega) (by omega)).cell 0
        simp only [List.getElem?_toArray, List.getElem?_cons_zero] at hh
        have HHW := Lib.hid (KB.box HHL.out hkb (by omega) (by omega))
        have HBW := Lib.hid (KB.below HBL.out hkb (by have := HG.out; omega) (by have := HG.out; omega))
        have hDl : D < W.heap.size := (Array.getElem?_eq_some_iff.1 hK).1
        have HDL := Lib.hid hDl
        have HDW : Hid (w.heap.size ≤ D) := Lib.hid (Nat.le_trans HBL.out.size hD)
        have HAL : Hid ((backF C O.reverse (rootF L (List.replicate (m + 1) false))).length = m + 1) := Lib.hid (by rw [backF_len, rootF_len, List.length_replicate])
        obtain ⟨A, hA⟩ : ∃ A, backF C O.reverse (rootF L (List.replicate (m + 1) false)) = A := ⟨_, rfl⟩
        rw [hA] at HTW HAL HSP
        have HFL : Hid (∀ q, ((C.ands.take q).filter P).length ≤ 16384) := Lib.hid (fun q => Nat.le_trans (List.length_filter_le _ _) (by rw [List.length_take]; have := HNA.out; omega))
        obtain ⟨i0, hi0, hz0, hz1, hz2⟩ := info_of2 and_infoE
        have HI0 := Lib.hid (And.intro hi0 (And.intro hz0 (And.intro hz1 hz2)))
        have HS0 : Hid (W.ownsRow W.heap.size 68 3 (.slice none 0 0) ((C.ands.take 0).filter P).length (((C.ands.take 0).filter P).flatMap encT)) := Lib.hid (World.ownsRow_nil _ _ _ _)
        have HWW : Hid (Below W.heap.size W W) := Lib.hid (Below.refl _ _)
        clear hkb htb hK hh hDl hi0 hz0 hz1 hz2 hA
        go_wp2
        go_loopg [13, 59] nA (fun k gv i wx => ∃ q : Nat, q ≤ nA ∧ k = nA - q ∧ i = .int .i64 q ∧ wx.ownsRow W.heap.size 68 3 gv ((C.ands.take q).filter P).length (((C.ands.take q).filter P).flatMap encT) ∧ Below W.heap.size W wx)
        case atStart => exact ⟨0, Nat.zero_le _, rfl, rfl, HS0.out, HWW.out⟩
        case round =>
          obtain ⟨q, hq, hgk, rfl, hrow, hbw⟩ := hrel
          subst hgk
          obtain ⟨GA, gc, hge⟩ := own_slice_k hrow
          subst hge
          have HRW := Lib.hid hrow
          have HBQ := Lib.hid hbw
          clear hrow hbw HS0 HWW
          by_cases hlt : q < nA
          · obtain ⟨z, hz⟩ : ∃ z, C.ands[q]? = some z := ⟨_, List.getElem?_eq_getElem (by rw [HNA.out]; exact hlt)⟩
            have hzm := List.mem_of_getElem? hz
            have hzr := (HZ.out z hzm).1
            have hpz := HSP.out z hzm
            have HTK : Hid ((C.ands.take (q + 1)).filter P = (C.ands.take q).filter P ++ (if P z = true then [z] else [])) := Lib.hid (by rw [List.take_add_one, hz, List.filter_append]; simp [List.filter_cons])
            obtain ⟨b, off, e, hb, hcell⟩ := HRA.out q z hz
            subst e
            obtain ⟨z0, z1, z2⟩ := z
            obtain ⟨hl0, hl1⟩ := hzr
            simp only at hl0 hl1 hpz
            have hbl := bt HBW.out (Nat.le_refl _) HBQ.out
            have h0 := (hbl.cell (p := ⟨b, off + (q * 3 + 0), none⟩) hb).trans (hcell 0 _ rfl)
            have h1 := (hbl.cell (p := ⟨b, off + (q * 3 + 1), none⟩) hb).trans (hcell 1 _ rfl)
            have h2 := (hbl.cell (p := ⟨b, off + (q * 3 + 2), none⟩) hb).trans (hcell 2 _ rfl)
            simp only [Nat.add_zero, ← Nat.add_assoc] at h0 h1 h2
            have HBA := Lib.hid (HBQ.out.alloc HBQ.out.size (.cells #[.int .i64 z0, .int .i64 z1, .int .i64 z2] 68))
            have hh := (HHW.out.below HBA.out HHW.out.lt).cell 0
            have hta := Blk.below HTW.out HBA.out (Blk.lt HTW.out)
            have hnb : Blk (wr.alloc (.cells #[.int .i64 z0, .int .i64 z1, .int .i64 z2] 68)) wr.heap.size 68 #[.int .i64 z0, .int .i64 z1, .int .i64 z2] := Blk.new wr _ _
            have y0 := hnb.cell 0
            have y1 := hnb.cell 1
            have y2 := hnb.cell 2
            simp only [List.getElem?_toArray, List.getElem?_cons_zero, List.getElem?_cons_succ] at hh y0 y1 y2
            obtain ⟨bit, hbit⟩ : ∃ x, A[(z0 / 2).toNat]? = some x := ⟨_, List.getElem?_eq_getElem (by rw [HAL.out]; omega)⟩
            have ht0 := Tab.cell hta hbit
            have hbd : P (z0, z1, z2) = bit := by rw [← hpz, List.getD_eq_getElem?_getD]; unfold vOf; rw [hbit]; rfl
            rw [hbd] at HTK
            have hq2 := tdiv_nn (b := 2) hl0
            have hq3 : 0 ≤ z0 / 2 := by omega
            have hq4 : z0 / 2 < (m : Int) + 1 := by omega
            have hq5 : z0 / 2 < ((m + 1 : Nat) : Int) := by push_cast; omega
            have hq8 : IntKind.i64.wrap (z0 / 2) = z0 / 2 := by simp [IntKind.wrap, IntKind.bits, IntKind.signed]; omega
            clear hcell hz hzm hbl hnb hta hbit hbd hpz
            cases bit
            · go_wp2
              go_roundg (nA - (q + 1))
              case measure => omega
              case rel => exact ⟨q + 1, by omega, rfl, by go_num, by rw [HTK.out]; simpa using own_below HRW.out ((Below.refl _ _).alloc (Nat.le_refl _) _), HBA.out⟩
            · go_wp2_with (at_builtin; go_loud (refine wpList_append_any _ rfl (.tmp 69) (.tmp 71) _ rfl W.heap.size 68 i0 _ 3 24 Try.underlying25 HI0.out.1 HI0.out.2.1 HI0.out.2.2.1 HI0.out.2.2.2 rfl (by omega) (.slice GA ((C.ands.take q).filter P).length gc) ((C.ands.take q).filter P).length (((C.ands.take q).filter P).flatMap encT) rfl (own_below HRW.out (((Below.refl _ _).alloc (Nat.le_refl _) _).alloc (by simp) _)) (wr.heap.size + 1 + 1) (some ⟨wr.heap.size + 1, 0, none⟩) 1 1 [.int .i64 z0, .int .i64 z1, .int .i64 z2] rfl (by have := reads_triE (wr.alloc (.cells #[.int .i64 z0, .int .i64 z1, .int .i64 z2] 68)) (.int .i64 z0) (.int .i64 z1) (.int .i64 z2) 68; simpa using this) (by simp [Value.oneCell']) (by have := HFL.out q; simp only [maxLen]; omega) (by have := HFL.out q; omega) (by have := HBA.out.size; simp at this ⊢; omega) ?_; intro v2 w2 hown2 hg2 _; have HO2 := Lib.hid hown2; have HB2 := Lib.hid ((HBA.out.alloc HBA.out.size (.cells #[.int .i64 z0, .int .i64 z1, .int .i64 z2] 68)).grown hg2 (by have := HBA.out.size; simp at this ⊢; omega) (fun k hk => (HRW.out.lt k hk).1)); clear hown2 hg2))
              go_roundg (nA - (q + 1))
              case measure => omega
              case rel => exact ⟨q + 1, by omega, rfl, by go_num, by rw [HTK.out]; simpa using HO2.out, HB2.out⟩
          · have hqe : nA = q := by omega
            subst hqe
            have HDR : Hid (wr.heap[D]? = some (.deferred (some []))) := Lib.hid ((HBQ.out.block D HDL.out).trans HDK.out)
            clear hlt hq
            have HGW := Lib.hid (show RowE 3 encT (wr.putObj D (.deferred none)) (.slice GA ((C.ands.take nA).filter P).length gc) ((C.ands.take nA).filter P) from by
              exact own_rowe lenT (ownsRow_putObj HRW.out (.deferred none) HDR.out rfl))
            have HBF : Hid (Below w.heap.size w (wr.putObj D (.deferred none))) := Lib.hid ((bt HBW.out (Nat.le_refl _) HBQ.out).trans (belowK_b (w := w) (Nat.le_refl _) wr D _ (.deferred none) HDW.out HDR.out rfl rfl))
            go_wp2
            refine ⟨by simp, .inl ⟨_, _, rfl, run_takeDeferred HDR.out, ?_⟩⟩
            exact ⟨_, results_tmp rfl _ _ _, HBF.out, _, rfl, by rw [← HCG.out]; exact HGW.out⟩
      case stop =>
        rintro D c pre W _ _ h _
        exact h.elim
end Go.Proofs.Ytdodhbfplglbkaa

namespace Go.Proofs.Ytdodhbfplglbkaa
open Go.RowKit Go.Shelf

def litK (C : Circ) (l : Int) : Bool := decide (0 ≤ l) && decide (l ≤ 2 * C.max + 1)
def fitK (C : Circ) (L : List Int) : Int := if (checkR C).2 ≠ 0 then (checkR C).2 else if 16384 < L.length then 2 else if L.all (litK C) = true then 0 else 1
noncomputable def coneF (C : Circ) (L : List Int) : List (List Int) := if fitK C L = 0 then formC (coneG C L) else []
def coneN (C : Circ) (L : List Int) : Int := if fitK C L = 0 then C.max + 1 else 0

theorem exec_load_rowE {P : Program} {o : Oper} {ρ : Operand → Value} {w : World} (ty : TypeId) (x : Operand) (ho : o.op = .load ty x) (g : Nat) (hx : ρ x = .pointer (some ⟨g, 0, none⟩)) (t : TypeId) (cs : Array Value) (fr : Nat × Nat) (d : TypeDesc) (hg : w.heap[g]? = some (.cells cs t fr))
    (hu : P.underlying ty = some d) (hd : (match d with | .struct _ | .array _ _ => true | _ => false) = true) (hi : (P.info? ty).map (·.size) = some cs.size) : (execOp ρ o).run P w = .ok (.value (.agg cs)) w := by
  unfold execOp
  simp only [ho, hx, Instr.loadAt, Instr.sureAddr, Sem.run_bind, Sem.run_pure, Result.andThen_ok, run_loadVar_row w g t ty cs fr d hg hu hd hi]

set_option maxHeartbeats 400000 in
set_option maxRecDepth 100000 in
theorem isLiteralE_any (w : World) (V : CV) (m : Nat) (hm : m ≤ 20000) (l : Int) : Calls Try.prog 48 #[V.val m, .int .i64 l] w fun e w' => Below w.heap.size w w' ∧ e = .returned (.bool (decide (0 ≤ l) && decide (l ≤ 2 * (m : Int) + 1))) := by
  have hb : Below w.heap.size w (w.alloc (.cells (V.cells m) 29)) := (Below.refl _ _).alloc (Nat.le_refl _) _
  have HB := Lib.hid hb
  have hw : IntKind.i64.wrap (2 * (m : Int)) = 2 * (m : Int) := i64_in (by omega)
  have hw2 : IntKind.i64.wrap (2 * (m : Int) + 1) = 2 * (m : Int) + 1 := i64_in (by omega)
  obtain ⟨Vi, Vl, Vo, Vb, Vc, Vj, Vf, Va, Vs, Vt⟩ := V
  clear hb
  by_cases h1 : 0 ≤ l
  · go_enter Try.func48, Try.ntmps48
    go_wp2
    go_ret
    exact ⟨HB.out, by simp [h1]⟩
  · go_enter Try.func48, Try.ntmps48
    go_wp2
    go_ret
    exact ⟨HB.out, by simp; omega⟩

set_option maxHeartbeats 4000000 in
set_option maxRecDepth 100000 in
theorem Cone_any (w : World) (V : CV) (C : Circ) (lv : Value) (L : List Int) (h : C.In w V) (ok : C.Ok) (hl : RowE 1 encI w lv L) :
    Calls Try.prog 15 #[V.val C.max, lv] w fun e w' => Below w.heap.size w w' ∧ ∃ v us, e = .returned (.tuple #[.agg #[.int .i64 (coneN C L), v], .int .i64 (fitK C L)]) ∧ CRow w' w.heap.size v us (coneF C L) := by
  obtain ⟨W0, hW0⟩ : ∃ W0, (w.alloc (.cells (V.cells C.max) 29)).alloc (.cells #[.int .i64 0, .slice none 0 0] 34) = W0 := ⟨_, rfl⟩
  have HB0 : Hid (Below w.heap.size w W0) := Lib.hid (by rw [← hW0]; exact ((Below.refl w.heap.size w).alloc (Nat.le_refl _) _).alloc (by simp) _)
  have HX0 : Hid (Blk W0 w.heap.size 29 (V.cells C.max)) := Lib.hid (by rw [← hW0]; exact (Blk.new w _ _).alloc _)
  have H1 : Hid (Blk W0 (w.heap.size + 1) 34 #[.int .i64 0, .slice none 0 0]) := Lib.hid (by
    rw [← hW0]
    have := Blk.new (w.alloc (.cells (V.cells C.max) 29)) 34 #[.int .i64 0, .slice none 0 0]
    simpa using this)
  have HCK := Lib.hid (Order_any W0 V C (h.below HB0.out) ok)
  have HIN := Lib.hid (h.below HB0.out)
  have HL0 := Lib.hid (hl.below HB0.out)
  have HW0 := Lib.hid hW0
  have HS0 : Hid (W0.heap.size = w.heap.size + 1 + 1) := Lib.hid (by rw [← hW0]; simp)
  obtain ⟨a, r, hrr⟩ : ∃ a r, checkR C = (a, r) := ⟨_, _, rfl⟩
  have HRR : Hid ((checkR C).2 = r) := Lib.hid (by rw [hrr])
  rw [hrr] at HCK
  have hbx : W0.heap[w.heap.size]? = some (.cells (V.cells C.max) 29 (0, 0)) := HX0.out
  have HBX := Lib.hid hbx
  clear hW0 h ok hbx
  obtain ⟨n, hn⟩ : ∃ n, L.length = n := ⟨_, rfl⟩
  have HNN := Lib.hid hn
  by_cases h0 : r = 0
  · subst h0
    obtain ⟨m, hm⟩ : ∃ m : Nat, C.max = (m : Int) := ⟨C.max.toNat, by have := (right_of HRR.out).m0; omega⟩
    have hm1 : m ≤ 16384 := by have := (right_of HRR.out).m1; omega
    have HMM := Lib.hid hm
    have HM1 := Lib.hid hm1
    have HZ := Lib.hid (gates_in HRR.out hm)
    have HNA := Lib.hid (right_of HRR.out).na
    obtain ⟨LA, lc, hle, _, _, hrl⟩ := HL0.out
    rw [hn] at hle
    subst hle
    have HRL := Lib.hid hrl
    rw [hm] at HX0 HBX HCK HW0
    obtain ⟨kF, hkF⟩ : ∃ k, coneF C L = k := ⟨_, rfl⟩
    obtain ⟨kN, hkN⟩ : ∃ k, coneN C L = k := ⟨_, rfl⟩
    obtain ⟨kE, hkE⟩ : ∃ k, fitK C L = k := ⟨_, rfl⟩
    rw [hkF, hkN, hkE, hm]
    have HE2 : Hid (16384 < n → kE = 2 ∧ kN = 0 ∧ kF = []) := Lib.hid (fun hgt => by
      have e0 : fitK C L = 2 := by unfold fitK; rw [if_neg (by rw [HRR.out]; simp), if_pos (by rw [hn]; exact hgt)]
      exact ⟨by rw [← hkE]; exact e0, by rw [← hkN]; exact if_neg (by rw [e0]; decide), by rw [← hkF]; exact if_neg (by rw [e0]; decide)⟩)
    have HE1 : Hid (¬ 16384 < n → L.all (litK C) = false → kE = 1 ∧ kN = 0 ∧ kF = []) := Lib.hid (fun hgt hal => by
      have e0 : fitK C L = 1 := by unfold fitK; rw [if_neg (by rw [HRR.out]; simp), if_neg (by rw [hn]; exact hgt), if_neg (by rw [hal]; simp)]
      exact ⟨by rw [← hkE]; exact e0, by rw [← hkN]; exact if_neg (by rw [e0]; decide), by rw [← hkF]; exact if_neg (by rw [e0]; decide)⟩)
    have HE0 : Hid (¬ 16384 < n → L.all (litK C) = true → kE = 0 ∧ kN = (m : Int) + 1 ∧ kF = formC (coneG C L)) := Lib.hid (fun hgt hal => by
      have e0 : fitK C L = 0 := by unfold fitK; rw [if_neg (by rw [HRR.out]; simp), if_neg (by rw [hn]; exact hgt), if_pos hal]
      exact ⟨by rw [← hkE]; exact e0, by rw [← hkN, ← hm]; exact if_pos e0, by rw [← hkF]; exact if_pos e0⟩)
    clear hrr hl hrl hn hkF hkN hkE hm
    go_enter Try.func15, Try.ntmps15
    go_upto_region 1 with (fail)
    rw [HW0.out]
    go_upto_region 4 with (first
      | (refine wpList_load_row rfl 29 (.tmp 2) rfl w.heap.size rfl 29 (V.cells m) (0, 0) _ HBX.out Try.underlying29 rfl (by kernel_rfl) ?_)
      | (go_at_call 51; refine HCK.out.mono ?_; rintro e w1 ⟨hb1, ov, O, rfl, _, ho⟩; have HOO := Lib.hid (ho rfl); have HB1 := Lib.hid hb1; have HR1 := Lib.hid (H1.out.below hb1 H1.out.lt); have HX1 := Lib.hid (HX0.out.below hb1 HX0.out.lt); have r0 := HR1.out.cell 0; have r1 := HR1.out.cell 1; have rf0 := HR1.out.frozen 0; have rf1 := HR1.out.frozen 1; have rl := HR1.out.lt; simp only [List.getElem?_toArray, List.getElem?_cons_zero, List.getElem?_cons_succ] at r0 r1; clear hb1 ho))
    have HBB := Lib.hid (bt HB0.out (Nat.le_refl _) HB1.out)
    have HERR : Hid (∀ (wx : World) (x : Int) (tmps : Array Value), Below w1.heap.size w1 wx → tmps.getD 4 undef = .pointer (some ⟨w.heap.size + 1, 0, none⟩) → tmps.getD 5 undef = .int .i64 x → kE = x ∧ kN = 0 ∧ kF = [] →
        bodyPost Try.prog Try.f15 (fun e w' => Below w.heap.size w w' ∧ ∃ v us, e = .returned (.tuple #[.agg #[.int .i64 kN, v], .int .i64 kE]) ∧ CRow w' w.heap.size v us kF) .ret { tmps := tmps, defers := [] } ((wx.setCell ⟨w.heap.size + 1, 0, none⟩ (.int .i64 0)).setCell ⟨w.heap.size + 1, 1, none⟩ (.slice none 0 0))) := Lib.hid (by
      rintro wx x tmps hbx h4 h5 ⟨rfl, rfl, rfl⟩
      have hrx := HR1.out.below hbx HR1.out.lt
      have hw9 : Blk ((wx.setCell ⟨w.heap.size + 1, 0, none⟩ (.int .i64 0)).setCell ⟨w.heap.size + 1, 1, none⟩ (.slice none 0 0)) (w.heap.size + 1) 34 #[.int .i64 0, .slice none 0 0] := by
        have := (hrx.set_ 0 (.int .i64 0)).set_ 1 (.slice none 0 0)
        simpa using this
      refine bodyPost_ret (results_cell_oneE (fn := Try.f15) (p := 4) (q := 5) rfl _ _ (w.heap.size + 1) 34 #[.int .i64 0, .slice none 0 0] (0, 0) _ h4 hw9 Try.underlying34 rfl (by kernel_rfl) (.int .i64 kE) h5) rfl ?_
      exact ⟨((bt HBB.out (Nat.le_refl _) hbx).setCell (by simp) _).setCell (by simp) _, _, [], rfl, crow_none _ _⟩)
    by_cases hgt : 16384 < n
    · have hgi : (16384 : Int) < (n : Int) := by omega
      go_wp2
      exact HERR.out _ 2 _ (Below.refl _ _) rfl rfl (HE2.out hgt)
    · have hgi : ¬ (16384 : Int) < (n : Int) := by omega
      have HGT := Lib.hid hgt
      have HAL0 : Hid ((L.take 0).all (litK C) = true) := Lib.hid (by simp)
      have HBW0 : Hid (Below w1.heap.size w1 w1) := Lib.hid (Below.refl _ _)
      clear hgt r0 r1 rf0 rf1 rl
      go_wp2
      go_loopg [25] n (fun k i wx => ∃ q : Nat, q ≤ n ∧ k = n - q ∧ i = .int .i64 q ∧ (L.take q).all (litK C) = true ∧ Below w1.heap.size w1 wx)
      case atStart => exact ⟨0, Nat.zero_le _, rfl, rfl, HAL0.out, HBW0.out⟩
      case round =>
        obtain ⟨q, hq, hgk, rfl, hal, hbw⟩ := hrel
        subst hgk
        have HAL := Lib.hid hal
        have HBW := Lib.hid hbw
        have HXW := Lib.hid (HX1.out.below hbw HX1.out.lt)
        have hbx : wr.heap[w.heap.size]? = some (.cells (V.cells m) 29 (0, 0)) := HXW.out
        have HBXW := Lib.hid hbx
        have HRW := Lib.hid (HR1.out.below hbw HR1.out.lt)
        clear hal hbw hbx HAL0 HBW0
        by_cases hlt : q < n
        · obtain ⟨l, hl⟩ : ∃ l, L[q]? = some l := ⟨_, List.getElem?_eq_getElem (by rw [HNN.out]; exact hlt)⟩
          obtain ⟨b, off, e, hb, hcell⟩ := HRL.out q l hl
          subst e
          have hc0 := ((bt HB1.out (Nat.le_refl _) HBW.out).cell (p := ⟨b, off + (q * 1 + 0), none⟩) hb).trans (hcell 0 _ rfl)
          simp only [Nat.mul_one, Nat.add_zero] at hc0
          have HIL := Lib.hid (isLiteralE_any wr V m (by have := HM1.out; omega) l)
          have hk : litK C l = (decide (0 ≤ l) && decide (l ≤ 2 * (m : Int) + 1)) := by unfold litK; rw [HMM.out]
          obtain ⟨bl, hbl⟩ : ∃ x, (decide (0 ≤ l) && decide (l ≤ 2 * (m : Int) + 1)) = x := ⟨_, rfl⟩
          rw [hbl] at HIL hk
          have HTK : Hid ((L.take (q + 1)).all (litK C) = ((L.take q).all (litK C) && bl)) := Lib.hid (by rw [List.take_add_one, hl, List.all_append]; simp [hk])
          have HNO : Hid (bl = false → L.all (litK C) = false) := Lib.hid (fun hf => List.all_eq_false.2 ⟨l, List.mem_of_getElem? hl, by rw [hk, hf]; simp⟩)
          clear hcell hl hk hbl
          cases bl
          · go_wp2_with (first
              | (refine wpList_load_row rfl 29 (.tmp 2) rfl w.heap.size rfl 29 (V.cells m) (0, 0) _ HBXW.out Try.underlying29 rfl (by kernel_rfl) ?_)
              | (go_at_call 48; refine HIL.out.mono ?_; rintro e w3 ⟨hb3, rfl⟩; have HB3 := Lib.hid hb3; have HR3 := Lib.hid (HRW.out.below hb3 HRW.out.lt); have r0 := HR3.out.cell 0; have r1 := HR3.out.cell 1; have rf0 := HR3.out.frozen 0; have rf1 := HR3.out.frozen 1; have rl := HR3.out.lt; simp only [List.getElem?_toArray, List.getElem?_cons_zero, List.getElem?_cons_succ] at r0 r1; clear hb3))
            exact HERR.out _ 1 _ (bt HBW.out (Nat.le_refl _) HB3.out) rfl rfl (HE1.out HGT.out (HNO.out (by trivial)))
          · go_wp2_with (first
              | (refine wpList_load_row rfl 29 (.tmp 2) rfl w.heap.size rfl 29 (V.cells m) (0, 0) _ HBXW.out Try.underlying29 rfl (by kernel_rfl) ?_)
              | (go_at_call 48; refine HIL.out.mono ?_; rintro e w3 ⟨hb3, rfl⟩; have HB3 := Lib.hid hb3; clear hb3))
            go_roundg (n - (q + 1))
            case measure => omega
            case rel => exact ⟨q + 1, by omega, rfl, by go_num, by rw [HTK.out, HAL.out]; rfl, bt HBW.out (Nat.le_refl _) HB3.out⟩
        · have hqe : n = q := by omega
          subst hqe
          have HALL : Hid (L.all (litK C) = true) := Lib.hid (by
            have := HAL.out
            rwa [List.take_of_length_le (by rw [HNN.out]; exact Nat.le_refl _)] at this)
          clear hlt hq
          go_wp2
          refine wp_region_T (by kernel_rfl) (fun w' => w'.heap[w.heap.size]? = some (.cells (V.cells m) 29 (0, 0))) 6 ?_
          have hHeld : wr.drew.heap[w.heap.size]? = some (.cells (V.cells m) 29 (0, 0)) := HBXW.out
          refine wpAnyT_take (i := 0) (v := .agg (V.cells m)) rfl (by kernel_rfl) (fun _ _ _ h => h) (by rfl) hHeld ?hr0 ?_
          case hr0 => (intro w' hSw; exact exec_load_rowE 29 (.tmp 2) rfl w.heap.size rfl 29 (V.cells m) (0, 0) _ hSw Try.underlying29 rfl (by kernel_rfl))
          (try simp only [Act.put, List.setIfInBounds_toArray])
          refine wpAnyT_take (i := 1) (v := .agg (V.cells m)) rfl (by kernel_rfl) (fun _ _ _ h => h) (by rfl) hHeld ?hr1 ?_
          case hr1 => (intro w' hSw; exact exec_load_rowE 29 (.tmp 2) rfl w.heap.size rfl 29 (V.cells m) (0, 0) _ hSw Try.underlying29 rfl (by kernel_rfl))
          (try simp only [Act.put])
          refine wpAnyT_take (i := 2) (v := ?v2q1) rfl (by kernel_rfl) (fun _ _ _ h => h) (by rfl) hHeld ?h2q1 ?_
          case h2q1 => (intro w' hSw; (try dsimp only at hSw); go_simp; try with_reducible rfl)
          (try simp only [Act.put])
          refine wpAnyT_take (i := 3) (v := ?v3q2) rfl (by kernel_rfl) (fun _ _ _ h => h) (by rfl) hHeld ?h3q2 ?_
          case h3q2 => (intro w' hSw; (try dsimp only at hSw); go_simp; try with_reducible rfl)
          (try simp only [Act.put])
          clear hHeld
          have HBD := Lib.hid (bt (bt HB1.out (Nat.le_refl _) HBW.out) (by have := HB1.out.size; omega) (Below.refl wr.heap.size wr).drew)
          have hco : Calls Try.prog 52 #[V.val C.max, ov, .slice LA n lc] wr.drew fun e w' => Below wr.drew.heap.size wr.drew w' ∧ ∃ v, e = .returned v ∧ RowE 3 encT w' v (coneG C L) := by
            obtain ⟨ho, hg, hlo⟩ := HOO.out
            have hrow : RowE 1 encI w1 ov O := own_rowe lenI (by rw [flat_ints]; exact ho)
            refine coneOf_any wr.drew V C ov (.slice LA n lc) O L (HIN.out.below HBD.out) HRR.out ⟨hg, hlo⟩ (hrow.below (HBW.out.trans ((Below.refl wr.heap.size wr).drew.mono HBW.out.size))) (HL0.out.below HBD.out) (fun l hl => ?_) (by rw [HNN.out]; have := HGT.out; omega)
            have := List.all_eq_true.1 HALL.out l hl
            unfold litK at this
            simp only [Bool.and_eq_true, decide_eq_true_eq] at this
            omega
          rw [HMM.out] at hco
          have HCO := Lib.hid hco
          clear hco
          refine wpAnyT_one (i := 4) rfl (by kernel_rfl) (fun K hK => ?_)
          go_simp
          go_at_call 52
          refine HCO.out.mono ?_
          rintro e w3 ⟨hb3, gv, rfl, hg3⟩
          have HB3 := Lib.hid hb3
          have HG3 := Lib.hid hg3
          have hx3 : w3.heap[w.heap.size]? = some (.cells (V.cells m) 29 (0, 0)) := (HXW.out.drew).below hb3 HXW.out.drew.lt
          have HRW3 := Lib.hid (HRW.out.drew.below hb3 HRW.out.drew.lt)
          clear hb3 hg3
          refine hK.out _ _ (fun _ => hx3) ?_
          clear hK K
          (try simp only [Act.put, List.setIfInBounds_toArray, List.set_cons_zero, List.set_cons_succ])
          refine wpAnyT_one (i := 5) rfl (by kernel_rfl) (fun K hK => ?_)
          have HFO := Lib.hid (formulaOf_any w3 V m gv (coneG C L) HM1.out HG3.out (Nat.le_trans (coneG_len C L) HNA.out) (fun z hz => HZ.out z (coneG_mem z hz)))
          go_simp
          go_at_call 45
          refine HFO.out.mono ?_
          rintro e w4 ⟨hb4, fv, us, rfl, hc4⟩
          obtain ⟨vA, vc, hve⟩ := own_slice_k hc4.own
          subst hve
          have HB4 := Lib.hid hb4
          have HC4 := Lib.hid hc4
          have hx4 : w4.heap[w.heap.size]? = some (.cells (V.cells m) 29 (0, 0)) := (show Blk w3 w.heap.size _ _ from hx3).below hb4 (show Blk w3 w.heap.size _ _ from hx3).lt
          have HR4 := Lib.hid (HRW3.out.below hb4 HRW3.out.lt)
          have r0 := HR4.out.cell 0
          have r1 := HR4.out.cell 1
          have rf0 := HR4.out.frozen 0
          have rf1 := HR4.out.frozen 1
          have rl := HR4.out.lt
          simp only [List.getElem?_toArray, List.getElem?_cons_zero, List.getElem?_cons_succ] at r0 r1
          clear hb4 hc4 hx3
          refine hK.out _ _ (fun _ => hx4) ?_
          clear hK K
          (try simp only [Act.put, List.setIfInBounds_toArray, List.set_cons_zero, List.set_cons_succ])
          refine wpAnyT_one (i := 6) rfl (by kernel_rfl) (fun K hK => ?_)
          go_simp
          refine hK.out _ _ (fun h => absurd h (by decide)) ?_
          clear hK K
          (try simp only [Act.put, List.setIfInBounds_toArray, List.set_cons_zero, List.set_cons_succ])
          refine wpAnyT_one (i := 7) rfl (by kernel_rfl) (fun K hK => ?_)
          go_simp
          refine hK.out _ _ (fun h => absurd h (by decide)) ?_
          clear hK K
          (try simp only [Act.put, List.setIfInBounds_toArray, List.set_cons_zero, List.set_cons_succ])
          refine wpAnyT_done (by kernel_rfl) ?_
          go_wp2
          obtain ⟨rfl, rfl, rfl⟩ := HE0.out HGT.out HALL.out
          have hw9 : Blk ((w4.setCell ⟨w.heap.size + 1, 0, none⟩ (.int .i64 ((m : Int) + 1))).setCell ⟨w.heap.size + 1, 1, none⟩ (.slice vA us.length vc)) (w.heap.size + 1) 34 #[.int .i64 ((m : Int) + 1), .slice vA us.length vc] := by
            have := (HR4.out.set_ 0 (.int .i64 ((m : Int) + 1))).set_ 1 (.slice vA us.length vc)
            simpa using this
          refine bodyPost_ret (results_cell_oneE (fn := Try.f15) (p := 4) (q := 5) rfl _ _ (w.heap.size + 1) 34 #[.int .i64 ((m : Int) + 1), .slice vA us.length vc] (0, 0) _ rfl hw9 Try.underlying34 rfl (by kernel_rfl) (.int .i64 0) rfl) rfl ?_
          have hbw := bt (bt (bt HB0.out (Nat.le_refl _) HBD.out) (Nat.le_refl _) HB3.out) (Nat.le_refl _) HB4.out
          exact ⟨(hbw.setCell (by simp) _).setCell (by simp) _, _, us, rfl, (HC4.out.far HR4.out (by decide) (by decide) (fun k _ hk => (Below.heap_setCell _ _ _ _ hk).trans (Below.heap_setCell _ _ _ _ hk))).base (by have := HB0.out.size; have := HBD.out.size; have := HB3.out.size; omega)⟩
  · have hq : (r != 0) = true := by simpa using h0
    have e0 : fitK C L = r := by unfold fitK; rw [if_pos (by rw [HRR.out]; exact h0)]; exact HRR.out
    have e1 : coneF C L = [] := if_neg (by rw [e0]; exact h0)
    have e2 : coneN C L = 0 := if_neg (by rw [e0]; exact h0)
    rw [e0, e1, e2]
    clear e0 e1 e2 hrr h0 hl
    go_enter Try.func15, Try.ntmps15
    go_upto_region 1 with (fail)
    rw [HW0.out]
    go_wp2_with (first
      | (refine wpList_load_row rfl 29 (.tmp 2) rfl w.heap.size rfl 29 (V.cells C.max) (0, 0) _ HBX.out Try.underlying29 rfl (by kernel_rfl) ?_)
      | (go_at_call 51; refine HCK.out.mono ?_; rintro e w1 ⟨hb1, v, out, rfl, _, _⟩; have HB1 := Lib.hid hb1; have HR1 := Lib.hid (H1.out.below hb1 H1.out.lt); have r0 := HR1.out.cell 0; have r1 := HR1.out.cell 1; have rf0 := HR1.out.frozen 0; have rf1 := HR1.out.frozen 1; have rl := HR1.out.lt; simp only [List.getElem?_toArray, List.getElem?_cons_zero, List.getElem?_cons_succ] at r0 r1; clear hb1))
    have hw9 : Blk ((w1.setCell ⟨w.heap.size + 1, 0, none⟩ (.int .i64 0)).setCell ⟨w.heap.size + 1, 1, none⟩ (.slice none 0 0)) (w.heap.size + 1) 34 #[.int .i64 0, .slice none 0 0] := by
      have := (HR1.out.set_ 0 (.int .i64 0)).set_ 1 (.slice none 0 0)
      simpa using this
    refine bodyPost_ret (results_cell_oneE (fn := Try.f15) (p := 4) (q := 5) rfl _ _ (w.heap.size + 1) 34 #[.int .i64 0, .slice none 0 0] (0, 0) _ rfl hw9 Try.underlying34 rfl (by kernel_rfl) (.int .i64 r) rfl) rfl ?_
    exact ⟨((bt HB0.out (Nat.le_refl _) HB1.out).setCell (by simp) _).setCell (by simp) _, _, [], rfl, crow_none _ _⟩
end Go.Proofs.Ytdodhbfplglbkaa
