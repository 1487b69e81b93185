/- SpoilCircuit walked. -/
import Derived.Test.YtilbgopdciiadaaAppF
import Derived.Test.YtilbgopdciiadaaRenE
import Derived.Laws.EntriesVeiled
import Derived.Deep.LoopGhost
import Derived.Deep.RegionWith
namespace Go.Proofs.Ytilbgopdciiadaa
open Go.RowKit

/-- One world keeps what another had but for some blocks. -/
structure KeepOut (S : Nat → Prop) (wx wy : World) : Prop where
  os : wy.os = wx.os
  tape : wy.tape = wx.tape
  output : wy.output = wx.output
  size : wx.heap.size ≤ wy.heap.size
  blk : ∀ k, k < wx.heap.size → ¬ S k → wy.heap[k]? = wx.heap[k]?
theorem KeepOut.refl (S : Nat → Prop) (w : World) : KeepOut S w w := ⟨rfl, rfl, rfl, Nat.le_refl _, fun _ _ _ => rfl⟩
theorem KeepOut.trans {S : Nat → Prop} {a b c : World} (h1 : KeepOut S a b) (h2 : KeepOut S b c) : KeepOut S a c :=
  ⟨h2.os.trans h1.os, h2.tape.trans h1.tape, h2.output.trans h1.output, Nat.le_trans h1.size h2.size, fun k hk hn => (h2.blk k (Nat.lt_of_lt_of_le hk h1.size) hn).trans (h1.blk k hk hn)⟩
theorem KeepOut.grown {S : Nat → Prop} {a b : World} {r : Option Nat} (h : a.grownBy b r) (hr : ∀ k, r = some k → S k) : KeepOut S a b :=
  ⟨h.os, h.tape, h.output, h.size, fun k hk hn => h.block k hk (fun e => hn (hr k e.symm))⟩
theorem KeepOut.set_ {S : Nat → Prop} {a b : World} (h : KeepOut S a b) {g : Nat} (hg : S g) (i : Nat) (u : Value) : KeepOut S a (b.setCell ⟨g, i, none⟩ u) :=
  ⟨h.os, h.tape, h.output, by simpa [World.setCell] using h.size, fun k hk hn => (Below.heap_setCell _ _ _ _ (by intro e; subst e; exact hn hg)).trans (h.blk k hk hn)⟩
theorem KeepOut.alloc {S : Nat → Prop} {a b : World} (h : KeepOut S a b) (o : Obj) : KeepOut S a (b.alloc o) :=
  ⟨h.os, h.tape, h.output, Nat.le_trans h.size (by simp), fun k hk hn => (Below.heap_alloc _ _ _ (Nat.lt_of_lt_of_le hk h.size)).trans (h.blk k hk hn)⟩
theorem KeepOut.drew {S : Nat → Prop} {a b : World} (h : KeepOut S a b) : KeepOut S a b.drew := ⟨h.os, h.tape, h.output, h.size, h.blk⟩
/-- A block of a type, of so many cells. -/
def TyBlk (w : World) (g : Nat) (t : TypeId) (n : Nat) : Prop := ∃ cs, Blk w g t cs ∧ cs.size = n
theorem TyBlk.at_ {w : World} {g n : Nat} {t : TypeId} (h : TyBlk w g t n) (i : Nat) (hi : i < n) : ∃ u, w.cell? ⟨g, i, none⟩ = some u := by
  obtain ⟨cs, hb, hs⟩ := h
  exact ⟨_, by rw [hb.cell, Array.getElem?_eq_getElem (by omega)]⟩
theorem TyBlk.free {w : World} {g n : Nat} {t : TypeId} (h : TyBlk w g t n) (i : Nat) : w.frozen? ⟨g, i, none⟩ = false := by
  obtain ⟨cs, hb, _⟩ := h
  exact hb.frozen i
theorem TyBlk.set_ {w : World} {g n : Nat} {t : TypeId} (h : TyBlk w g t n) (b i : Nat) (u : Value) : TyBlk (w.setCell ⟨b, i, none⟩ u) g t n := by
  obtain ⟨cs, hb, hs⟩ := h
  by_cases e : g = b
  · subst e
    exact ⟨_, hb.set_ i u, by simpa using hs⟩
  · exact ⟨cs, Blk.far hb (by simpa using e) u, hs⟩
theorem TyBlk.drew {w : World} {g n : Nat} {t : TypeId} (h : TyBlk w g t n) : TyBlk w.drew g t n := h
theorem TyBlk.grown {w w' : World} {g n b m : Nat} {t t' : TypeId} (h : TyBlk w g t n) (hg : w.grownBy w' (some b)) (hb : TyBlk w b t' m) (hne : t ≠ t') : TyBlk w' g t n := by
  obtain ⟨cs, h1, h2⟩ := h
  obtain ⟨cs', h3, _⟩ := hb
  exact ⟨cs, (hg.block g h1.lt (fun e => h1.ne_ h3 hne (by injection e))).trans h1, h2⟩
/-- What is known of a row's own block. -/
theorem own_ty {w : World} {B n k : Nat} {t : TypeId} {v : Value} {xs : List Value} (h : w.ownsRow B t k v n xs) : (v = .slice none 0 0 ∧ n = 0) ∨ ∃ g cap, v = .slice (some ⟨g, 0, none⟩) n cap ∧ B ≤ g ∧ n ≤ cap ∧ cap ≤ maxLen ∧ TyBlk w g t (cap * k) := by
  rcases h.2 with h | ⟨g, cap, cur, hv, hb, hg, h1, h2, h3, h4⟩
  · exact .inl h
  · exact .inr ⟨g, cap, hv, hb, h1, h2, cur, hg, h3⟩
/-- A slice whose block has a type, nothing said of what it holds. -/
def TySl (w : World) (B N : Nat) (t : TypeId) (k : Nat) (v : Value) (n : Nat) : Prop := (v = .slice none 0 0 ∧ n = 0) ∨ ∃ g cap, v = .slice (some ⟨g, 0, none⟩) n cap ∧ B ≤ g ∧ g < N ∧ n ≤ cap ∧ cap ≤ maxLen ∧ TyBlk w g t (cap * k)
theorem TySl.of_own {w0 w : World} {B n k : Nat} {t : TypeId} {v : Value} {xs : List Value} (h0 : w0.ownsRow B t k v n xs) (h : w.ownsRow B t k v n xs) : TySl w B w0.heap.size t k v n := by
  rcases own_ty h with h | ⟨g, cap, rfl, h1, h2, h3, h4⟩
  · exact .inl h
  · exact .inr ⟨g, cap, rfl, h1, (h0.lt g rfl).2, h2, h3, h4⟩
theorem TySl.set_ {w : World} {B N k n : Nat} {t : TypeId} {v : Value} (h : TySl w B N t k v n) (b i : Nat) (u : Value) : TySl (w.setCell ⟨b, i, none⟩ u) B N t k v n := by
  rcases h with h | ⟨g, cap, e, h1, h2, h3, h4, h5⟩
  · exact .inl h
  · exact .inr ⟨g, cap, e, h1, h2, h3, h4, h5.set_ b i u⟩
theorem TySl.drew {w : World} {B N k n : Nat} {t : TypeId} {v : Value} (h : TySl w B N t k v n) : TySl w.drew B N t k v n := h
theorem TySl.grown {w w' : World} {B N k n m b B' : Nat} {t : TypeId} {v v' : Value} {xs : List Value} (h : TySl w B N t k v n) (ho : w.ownsRow B' 3 b v' m xs) (hg : w.grownBy w' v'.ownBlock) (hne : t ≠ 3) : TySl w' B N t k v n := by
  rcases h with h | ⟨g, cap, e, h1, h2, h3, h4, h5⟩
  · exact .inl h
  · refine .inr ⟨g, cap, e, h1, h2, h3, h4, ?_⟩
    rcases own_ty ho with ⟨rfl, _⟩ | ⟨g', cap', rfl, _, _, _, h6⟩
    · obtain ⟨cs, h7, h8⟩ := h5
      exact ⟨cs, (hg.block g h7.lt (by simp [Value.ownBlock])).trans h7, h8⟩
    · exact h5.grown hg h6 hne
structure SpT (w wx : World) (B N : Nat) (m : Int) (V : CV) (C : Circ) : Prop where
  keep : KeepOut (fun k => B ≤ k ∧ k < N) w wx
  box : Blk wx w.heap.size 29 (V.cells m)
  l : TySl wx B N 78 3 V.l C.latches.length
  a : TySl wx B N 80 3 V.a C.ands.length
  s : TySl wx B N 97 3 V.s C.symbols.length
  t : TySl wx B N 9 1 V.t C.comments.length
  circ : ∀ k cs, Blk w k 29 cs → Blk wx k 29 cs
theorem SpT.set_ {w wx : World} {B N n : Nat} {m : Int} {V : CV} {C : Circ} {t : TypeId} (h : SpT w wx B N m V C) (hN : N ≤ w.heap.size) {g : Nat} (h1 : B ≤ g) (h2 : g < N) (ht : TyBlk wx g t n) (hne : 29 ≠ t) (i : Nat) (u : Value) : SpT w (wx.setCell ⟨g, i, none⟩ u) B N m V C :=
  ⟨h.keep.set_ ⟨h1, h2⟩ i u, Blk.far h.box (by simp; omega) u, h.l.set_ g i u, h.a.set_ g i u, h.s.set_ g i u, h.t.set_ g i u, fun k cs hb => Blk.far (h.circ k cs hb) (fun e => by
    obtain ⟨cs', hb', _⟩ := ht
    exact (h.circ k cs hb).ne_ hb' hne (by exact e)) u⟩
theorem SpT.set3 {w wx : World} {B N n : Nat} {m : Int} {V : CV} {C : Circ} {t : TypeId} (h : SpT w wx B N m V C) (hN : N ≤ w.heap.size) {g : Nat} (h1 : B ≤ g) (h2 : g < N) (ht : TyBlk wx g t n) (hne : 29 ≠ t) (i j k : Nat) (u v x : Value) : SpT w (((wx.setCell ⟨g, i, none⟩ u).setCell ⟨g, j, none⟩ v).setCell ⟨g, k, none⟩ x) B N m V C :=
  ((h.set_ hN h1 h2 ht hne i u).set_ hN h1 h2 (ht.set_ g i u) hne j v).set_ hN h1 h2 ((ht.set_ g i u).set_ g j v) hne k x
structure SpI (w wx : World) (B N : Nat) (m : Int) (V : CV) (us : List Value) (C : Circ) (k : Nat) : Prop where
  tt : SpT w wx B N m V C
  rows : ∀ (j : Nat) (p : Value × List Int), k ≤ j → (five V C ++ us.zip C.justice)[j]? = some p → wx.ownsRow B 3 1 p.1 p.2.length (p.2.map (Value.int .i64))
  j : wx.ownsRow B 22 1 V.j us.length us
theorem SpI.step {w wx wk : World} {B N : Nat} {m : Int} {V : CV} {us : List Value} {C : Circ} {k : Nat} {p : Value × List Int} (h : SpI w wx B N m V us C k) (hN : N ≤ w.heap.size) (hap : ∀ (i j : Nat) (a b : Value × List Int), i ≠ j → (five V C ++ us.zip C.justice)[i]? = some a → (five V C ++ us.zip C.justice)[j]? = some b → Apart a b)
    (hlt : ∀ (p : Value × List Int), p ∈ five V C ++ us.zip C.justice → ∀ g, p.1.ownBlock = some g → B ≤ g ∧ g < N) (hp : (five V C ++ us.zip C.justice)[k]? = some p) (hg : wx.grownBy wk p.1.ownBlock) : SpI w wk B N m V us C (k + 1) := by
  have ho := h.rows k p (Nat.le_refl _) hp
  have hS : ∀ g, p.1.ownBlock = some g → B ≤ g ∧ g < N := hlt p (List.mem_of_getElem? hp)
  refine ⟨⟨h.tt.keep.trans (KeepOut.grown hg hS), ?_, h.tt.l.grown ho hg (by decide), h.tt.a.grown ho hg (by decide), h.tt.s.grown ho hg (by decide), h.tt.t.grown ho hg (by decide), fun j cs hb => ?_⟩, fun j q hj hq => ?_, ?_⟩
  · exact (hg.block _ h.tt.box.lt (fun e => by have := (hS _ e.symm).2; omega)).trans h.tt.box
  · have hb2 := h.tt.circ j cs hb
    exact (hg.block j hb2.lt (fun e => by
      rcases own_ty ho with ⟨hv, _⟩ | ⟨g', cap', hv, _, _, _, cs', h6, _⟩
      · rw [hv] at e; cases e
      · rw [hv] at e
        have : j = g' := by simpa [Value.ownBlock] using e
        subst this
        exact hb2.ne_ h6 (by decide) rfl)).trans hb2
  · have hoq := h.rows j q (by omega) hq
    exact own_of_block hoq fun g hgg => hg.block g (hoq.lt g hgg).2 (fun e => hap k j p q (by omega) hp hq g e.symm hgg)
  · exact own_of_block h.j fun g hgg => hg.block g (h.j.lt g hgg).2 (fun e => by
      rcases own_ty ho with ⟨hv, _⟩ | ⟨g', cap', hv, _, _, _, cs, h6, _⟩
      · rw [hv] at e; cases e
      · rw [hv] at e
        have : g = g' := by simpa [Value.ownBlock] using e
        subst this
        exact own_blk_ne h.j h6 (by decide) hgg)
end Go.Proofs.Ytilbgopdciiadaa

namespace Go.Proofs.Ytilbgopdciiadaa
open Go.RowKit

set_option maxHeartbeats 4000000 in
set_option maxRecDepth 100000 in
theorem SpoilCircuit_any (w0 w : World) (B : Nat) (V : CV) (C : Circ) (us : List Value) (mk : Int) (h : Cop w0 B V us C) (hw : Cop w B V us C) (hN : w0.heap.size ≤ w.heap.size) :
    Calls Try.prog 12 #[V.val C.max, .int .i64 mk] w fun e w' => e = .returned (.tuple #[]) ∧ KeepOut (fun k => B ≤ k ∧ k < w0.heap.size) w w' ∧ ∀ k cs, Blk w k 29 cs → Blk w' k 29 cs := by
  obtain ⟨m, hmm⟩ : ∃ m, C.max = m := ⟨_, rfl⟩
  have HMM := Lib.hid hmm
  have HN := Lib.hid hN
  have HAP := Lib.hid h.fam.apart
  have HLT : Hid (∀ (p : Value × List Int), p ∈ five V C ++ us.zip C.justice → ∀ g, p.1.ownBlock = some g → B ≤ g ∧ g < w0.heap.size) := Lib.hid (fun p hp g hg => (h.fam.own p hp).lt g hg)
  have hal : Below w.heap.size w (w.alloc (.cells (V.cells m) 29)) := (Below.refl _ _).alloc (Nat.le_refl _) _
  have h2 := hw.below hal
  have HS0 : Hid (SpI w (w.alloc (.cells (V.cells m) 29)) B w0.heap.size m V us C 0) := Lib.hid ⟨⟨(KeepOut.refl _ w).alloc _, Blk.new w _ _, TySl.of_own h.l h2.l, TySl.of_own h.a h2.a, TySl.of_own h.s h2.s, TySl.of_own h.t h2.t, fun k cs hb => hb.alloc _⟩, fun j p _ hp => h2.fam.own p (List.mem_of_getElem? hp), h2.j⟩
  have hrow : ∀ (k : Nat) (p : Value × List Int), (five V C ++ us.zip C.justice)[k]? = some p → ∀ wx, SpI w wx B w0.heap.size m V us C k → Calls Try.prog 13 #[p.1, .int .i64 mk] wx fun e w' => e = .returned (.tuple #[]) ∧ SpI w w' B w0.heap.size m V us C (k + 1) := fun k p hp wx hs => by
    refine (SpoilInts_any wx B p.2.length p.1 _ mk (hs.rows k p (Nat.le_refl _) hp)).mono ?_
    rintro e w' ⟨rfl, hg⟩
    exact ⟨rfl, hs.step hN h.fam.apart HLT.out hp hg⟩
  have HROW := Lib.hid hrow
  have HUL := Lib.hid h.ul
  obtain ⟨Aj, cj, hVj⟩ := own_slice_k h.j
  have HRU : Hid (∀ (q : Nat) (u : Value) (zs : List Int), us[q]? = some u → C.justice[q]? = some zs → (five V C ++ us.zip C.justice)[5 + q]? = some (u, zs)) := Lib.hid (fun q u zs hu hz => by
    rw [List.getElem?_append_right (by simp)]
    simp only [five, List.length_cons, List.length_nil]
    rw [show 5 + q - 5 = q by omega, List.getElem?_zip_eq_some]
    exact ⟨hu, hz⟩)
  obtain ⟨Al, cl, hVl⟩ := own_slice_k h.l
  obtain ⟨Aa, ca, hVa⟩ := own_slice_k h.a
  obtain ⟨As, cs, hVs⟩ := own_slice_k h.s
  obtain ⟨At, ct, hVt⟩ := own_slice_k h.t
  have own_max : ∀ {t : TypeId} {k n : Nat} {v : Value} {xs : List Value}, w0.ownsRow B t k v n xs → n ≤ maxLen := fun ho => by
    rcases ho.2 with ⟨_, h0⟩ | ⟨_, cap, _, _, _, _, h1, h2, _⟩
    · omega
    · omega
  have hml := own_max h.l
  have hma := own_max h.a
  have hms := own_max h.s
  have hmt := own_max h.t
  have hul2 : us.length ≤ maxLen := by
    rcases h.j.2 with ⟨_, h0⟩ | ⟨_, cap, _, _, _, _, h1, h2, _⟩
    · omega
    · omega
  unfold maxLen at hul2 hml hma hms hmt
  clear own_max
  obtain ⟨Vi, Vl, Vo, Vb, Vc, Vj, Vf, Va, Vs, Vt⟩ := V
  simp only at hVj hVl hVa hVs hVt
  subst hVj hVl hVa hVs hVt
  rw [hmm]
  clear h hw hal h2 hrow hmm hN
  obtain ⟨c0, c1, c2, c3, c4, c5, c6, c7, c8, c9, c10⟩ := box_of HS0.out.tt.box
  go_enter Try.func12, Try.ntmps12
  go_upto_region 2 with (go_at_call 13; go_loud (refine (HROW.out 0 (Vi, C.inputs) rfl _ HS0.out).mono ?_; rintro e w1 ⟨rfl, h1⟩; have HS1 := Lib.hid h1; clear c0 c1 c2 c3 c4 c5 c6 c7 c8 c9 c10; obtain ⟨c0, c1, c2, c3, c4, c5, c6, c7, c8, c9, c10⟩ := box_of h1.tt.box; clear h1))
  go_upto_region 3 with (go_at_call 13; go_loud (refine (HROW.out 1 (Vo, C.outputs) rfl _ HS1.out).mono ?_; rintro e w2 ⟨rfl, h1⟩; have HS2 := Lib.hid h1; clear c0 c1 c2 c3 c4 c5 c6 c7 c8 c9 c10; obtain ⟨c0, c1, c2, c3, c4, c5, c6, c7, c8, c9, c10⟩ := box_of h1.tt.box; clear h1))
  go_upto_region 4 with (go_at_call 13; go_loud (refine (HROW.out 2 (Vb, C.bads) rfl _ HS2.out).mono ?_; rintro e w3 ⟨rfl, h1⟩; have HS3 := Lib.hid h1; clear c0 c1 c2 c3 c4 c5 c6 c7 c8 c9 c10; obtain ⟨c0, c1, c2, c3, c4, c5, c6, c7, c8, c9, c10⟩ := box_of h1.tt.box; clear h1))
  go_upto_region 5 with (go_at_call 13; go_loud (refine (HROW.out 3 (Vc, C.constraints) rfl _ HS3.out).mono ?_; rintro e w4 ⟨rfl, h1⟩; have HS4 := Lib.hid h1; clear c0 c1 c2 c3 c4 c5 c6 c7 c8 c9 c10; obtain ⟨c0, c1, c2, c3, c4, c5, c6, c7, c8, c9, c10⟩ := box_of h1.tt.box; clear h1))
  go_upto_region 6 with (go_at_call 13; go_loud (refine (HROW.out 4 (Vf, C.fairness) rfl _ HS4.out).mono ?_; rintro e w5 ⟨rfl, h1⟩; have HS5 := Lib.hid h1; clear c0 c1 c2 c3 c4 c5 c6 c7 c8 c9 c10; clear h1))
  go_wp2
  go_loopg [4] us.length (fun k j wx => ∃ q : Nat, q ≤ us.length ∧ k = us.length - q ∧ j = .int .i64 q ∧ SpI w wx B w0.heap.size m ⟨Vi, .slice Al C.latches.length cl, Vo, Vb, Vc, .slice Aj us.length cj, Vf, .slice Aa C.ands.length ca, .slice As C.symbols.length cs, .slice At C.comments.length ct⟩ us C (5 + q))
  case atStart => exact ⟨0, Nat.zero_le _, rfl, rfl, HS5.out⟩
  case round =>
    obtain ⟨q, hq, hgk, rfl, hst⟩ := hrel
    subst hgk
    have HST := Lib.hid hst
    obtain ⟨c0, c1, c2, c3, c4, c5, c6, c7, c8, c9, c10⟩ := box_of hst.tt.box
    by_cases hlt : q < us.length
    · obtain ⟨u, hu⟩ : ∃ u, us[q]? = some u := ⟨_, List.getElem?_eq_getElem hlt⟩
      obtain ⟨zs, hz⟩ : ∃ zs, C.justice[q]? = some zs := ⟨_, List.getElem?_eq_getElem (by rw [← HUL.out]; exact hlt)⟩
      obtain ⟨gj, capj, ej, _, _, _, hcj, _, _⟩ := own_cells_v hst.j (by omega)
      injection ej with e1 e2 e3
      subst e1 e3
      have o0 := hcj q u hu
      have hrw := HROW.out (5 + q) (u, zs) (HRU.out q u zs hu hz) wr hst
      have HRW := Lib.hid hrw
      clear hst hcj hu hz hrw
      go_wp2_with (go_at_call 13; go_loud (refine HRW.out.mono ?_; rintro e w6 ⟨rfl, h1⟩; have HS6 := Lib.hid h1; clear h1))
      go_roundg (us.length - (q + 1))
      case measure => omega
      case rel => exact ⟨q + 1, by omega, rfl, by go_num, HS6.out⟩
    · have hqe : q = us.length := by omega
      subst hqe
      have HT := Lib.hid hst.tt
      clear hst hq hlt
      clear c0 c1 c2 c3 c4 c5 c6 c7 c8 c9 c10
      obtain ⟨c0, c1, c2, c3, c4, c5, c6, c7, c8, c9, c10⟩ := box_of HT.out.box
      go_wp2
      clear c0 c1 c2 c3 c4 c5 c6 c7 c8 c9 c10
      go_loopg [5] C.latches.length (fun k j wx => ∃ q : Nat, q ≤ C.latches.length ∧ k = C.latches.length - q ∧ j = .int .i64 q ∧ SpT w wx B w0.heap.size m ⟨Vi, .slice Al C.latches.length cl, Vo, Vb, Vc, .slice Aj us.length cj, Vf, .slice Aa C.ands.length ca, .slice As C.symbols.length cs, .slice At C.comments.length ct⟩ C)
      case atStart => exact ⟨0, Nat.zero_le _, rfl, rfl, HT.out⟩
      case round =>
        obtain ⟨q, hq, hgk, rfl, hst⟩ := hrel
        subst hgk
        have HTT := Lib.hid hst
        obtain ⟨c0, c1, c2, c3, c4, c5, c6, c7, c8, c9, c10⟩ := box_of hst.box
        by_cases hlt : q < C.latches.length
        · obtain ⟨g, cap, eg, hg1, hg2, hg3, _, hty⟩ := hst.l.resolve_left (fun e => by have := e.2; omega)
          injection eg with e1 e2 e3
          subst e1 e3
          obtain ⟨x0, hx0⟩ := hty.at_ (q * 3) (by omega)
          have hf0 := hty.free (q * 3)
          obtain ⟨x1, hx1⟩ := hty.at_ (q * 3 + 1) (by omega)
          have hf1 := hty.free (q * 3 + 1)
          obtain ⟨x2, hx2⟩ := hty.at_ (q * 3 + 2) (by omega)
          have hf2 := hty.free (q * 3 + 2)
          have HTY := Lib.hid hty
          clear hst hty
          go_wp2
          go_roundg (C.latches.length - (q + 1))
          case measure => omega
          case rel => exact ⟨q + 1, by omega, rfl, by go_num, HTT.out.set3 HN.out hg1 hg2 HTY.out (by decide) _ _ _ _ _ _⟩
        · have hqe : q = C.latches.length := by omega
          subst hqe
          have HT1 := Lib.hid hst
          clear hst hq hlt c0 c1 c2 c3 c4 c5 c6 c7 c8 c9 c10
          obtain ⟨c0, c1, c2, c3, c4, c5, c6, c7, c8, c9, c10⟩ := box_of HT1.out.box
          go_wp2
          clear c0 c1 c2 c3 c4 c5 c6 c7 c8 c9 c10
          go_loopg [6] C.ands.length (fun k j wx => ∃ q : Nat, q ≤ C.ands.length ∧ k = C.ands.length - q ∧ j = .int .i64 q ∧ SpT w wx B w0.heap.size m ⟨Vi, .slice Al C.latches.length cl, Vo, Vb, Vc, .slice Aj us.length cj, Vf, .slice Aa C.ands.length ca, .slice As C.symbols.length cs, .slice At C.comments.length ct⟩ C)
          case atStart => exact ⟨0, Nat.zero_le _, rfl, rfl, HT1.out⟩
          case round =>
            obtain ⟨q, hq, hgk, rfl, hst⟩ := hrel
            subst hgk
            have HTT := Lib.hid hst
            obtain ⟨c0, c1, c2, c3, c4, c5, c6, c7, c8, c9, c10⟩ := box_of hst.box
            by_cases hlt : q < C.ands.length
            · obtain ⟨g, cap, eg, hg1, hg2, hg3, _, hty⟩ := hst.a.resolve_left (fun e => by have := e.2; omega)
              injection eg with e1 e2 e3
              subst e1 e3
              obtain ⟨x0, hx0⟩ := hty.at_ (q * 3) (by omega)
              have hf0 := hty.free (q * 3)
              obtain ⟨x1, hx1⟩ := hty.at_ (q * 3 + 1) (by omega)
              have hf1 := hty.free (q * 3 + 1)
              obtain ⟨x2, hx2⟩ := hty.at_ (q * 3 + 2) (by omega)
              have hf2 := hty.free (q * 3 + 2)
              have HTY := Lib.hid hty
              clear hst hty
              go_wp2
              go_roundg (C.ands.length - (q + 1))
              case measure => omega
              case rel => exact ⟨q + 1, by omega, rfl, by go_num, HTT.out.set3 HN.out hg1 hg2 HTY.out (by decide) _ _ _ _ _ _⟩
            · have hqe : q = C.ands.length := by omega
              subst hqe
              have HT2 := Lib.hid hst
              clear hst hq hlt c0 c1 c2 c3 c4 c5 c6 c7 c8 c9 c10
              obtain ⟨c0, c1, c2, c3, c4, c5, c6, c7, c8, c9, c10⟩ := box_of HT2.out.box
              go_wp2
              clear c0 c1 c2 c3 c4 c5 c6 c7 c8 c9 c10
              go_loopg [7] C.symbols.length (fun k j wx => ∃ q : Nat, q ≤ C.symbols.length ∧ k = C.symbols.length - q ∧ j = .int .i64 q ∧ SpT w wx B w0.heap.size m ⟨Vi, .slice Al C.latches.length cl, Vo, Vb, Vc, .slice Aj us.length cj, Vf, .slice Aa C.ands.length ca, .slice As C.symbols.length cs, .slice At C.comments.length ct⟩ C)
              case atStart => exact ⟨0, Nat.zero_le _, rfl, rfl, HT2.out⟩
              case round =>
                obtain ⟨q, hq, hgk, rfl, hst⟩ := hrel
                subst hgk
                have HTT := Lib.hid hst
                obtain ⟨c0, c1, c2, c3, c4, c5, c6, c7, c8, c9, c10⟩ := box_of hst.box
                by_cases hlt : q < C.symbols.length
                · obtain ⟨g, cap, eg, hg1, hg2, hg3, _, hty⟩ := hst.s.resolve_left (fun e => by have := e.2; omega)
                  injection eg with e1 e2 e3
                  subst e1 e3
                  obtain ⟨x0, hx0⟩ := hty.at_ (q * 3) (by omega)
                  have hf0 := hty.free (q * 3)
                  obtain ⟨x1, hx1⟩ := hty.at_ (q * 3 + 1) (by omega)
                  have hf1 := hty.free (q * 3 + 1)
                  obtain ⟨x2, hx2⟩ := hty.at_ (q * 3 + 2) (by omega)
                  have hf2 := hty.free (q * 3 + 2)
                  have HTY := Lib.hid hty
                  clear hst hty
                  go_wp2
                  go_roundg (C.symbols.length - (q + 1))
                  case measure => omega
                  case rel => exact ⟨q + 1, by omega, rfl, by go_num, HTT.out.set3 HN.out hg1 hg2 HTY.out (by decide) _ _ _ _ _ _⟩
                · have hqe : q = C.symbols.length := by omega
                  subst hqe
                  have HT3 := Lib.hid hst
                  clear hst hq hlt c0 c1 c2 c3 c4 c5 c6 c7 c8 c9 c10
                  obtain ⟨c0, c1, c2, c3, c4, c5, c6, c7, c8, c9, c10⟩ := box_of HT3.out.box
                  go_wp2
                  clear c0 c1 c2 c3 c4 c5 c6 c7 c8 c9 c10
                  go_loopg [8] C.comments.length (fun k j wx => ∃ q : Nat, q ≤ C.comments.length ∧ k = C.comments.length - q ∧ j = .int .i64 q ∧ SpT w wx B w0.heap.size m ⟨Vi, .slice Al C.latches.length cl, Vo, Vb, Vc, .slice Aj us.length cj, Vf, .slice Aa C.ands.length ca, .slice As C.symbols.length cs, .slice At C.comments.length ct⟩ C)
                  case atStart => exact ⟨0, Nat.zero_le _, rfl, rfl, HT3.out⟩
                  case round =>
                    obtain ⟨q, hq, hgk, rfl, hst⟩ := hrel
                    subst hgk
                    have HTT := Lib.hid hst
                    obtain ⟨c0, c1, c2, c3, c4, c5, c6, c7, c8, c9, c10⟩ := box_of hst.box
                    by_cases hlt : q < C.comments.length
                    · obtain ⟨g, cap, eg, hg1, hg2, hg3, _, hty⟩ := hst.t.resolve_left (fun e => by have := e.2; omega)
                      injection eg with e1 e2 e3
                      subst e1 e3
                      obtain ⟨x0, hx0⟩ := hty.at_ q (by omega)
                      have hf0 := hty.free q
                      have HTY := Lib.hid hty
                      clear hst hty
                      go_wp2
                      go_roundg (C.comments.length - (q + 1))
                      case measure => omega
                      case rel => exact ⟨q + 1, by omega, rfl, by go_num, HTT.out.set_ HN.out hg1 hg2 HTY.out (by decide) _ _⟩
                    · have hqe : q = C.comments.length := by omega
                      subst hqe
                      have HT4 := Lib.hid hst
                      clear hst hq hlt c0 c1 c2 c3 c4 c5 c6 c7 c8 c9 c10
                      obtain ⟨c0, c1, c2, c3, c4, c5, c6, c7, c8, c9, c10⟩ := box_of HT4.out.box
                      go_wp2
                      go_end0
                      exact ⟨rfl, HT4.out.keep, HT4.out.circ⟩
end Go.Proofs.Ytilbgopdciiadaa
