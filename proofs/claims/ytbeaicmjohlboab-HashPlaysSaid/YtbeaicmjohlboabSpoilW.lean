/- SpoilCircuit walked. -/
import Derived.Test.YtbeaicmjohlboabAppF
import Derived.Test.YtbeaicmjohlboabRenB
import Derived.Laws.EntriesVeiled
import Derived.Deep.LoopGhost
import Derived.Deep.RegionWith
namespace Go.Proofs.Ytbeaicmjohlboab
open Go.RowKit

/-- One world keeps what another had but for some blocks. -/
structure KeepOut (S : Nat → Prop) (wx wy : World) : Prop where
  os : wy.os = wx.os
  tape : wy.tape = wx.tape
  output : wy.output = wx.output
  size : wx.heap.size ≤ wy.heap.size
  blk : ∀ k, k < wx.heap.size → ¬ S k → wy.heap[k]? = wx.heap[k]?
theorem KeepOut.refl (S : Nat → Prop) (w : World) : KeepOut S w w := ⟨rfl, rfl, rfl, Nat.le_refl _, fun _ _ _ => rfl⟩
theorem KeepOut.trans {S : Nat → Prop} {a b c : World} (h1 : KeepOut S a b) (h2 : KeepOut S b c) : KeepOut S a c :=
  ⟨h2.os.trans h1.os, h2.tape.trans h1.tape, h2.output.trans h1.output, Nat.le_trans h1.size h2.size, fun k hk hn => (h2.blk k (Nat.lt_of_lt_of_le hk h1.size) hn).trans (h1.blk k hk hn)⟩
theorem KeepOut.grown {S : Nat → Prop} {a b : World} {r : Option Nat} (h : a.grownBy b r) (hr : ∀ k, r = some k → S k) : KeepOut S a b :=
  ⟨h.os, h.tape, h.output, h.size, fun k hk hn => h.block k hk (fun e => hn (hr k e.symm))⟩
theorem KeepOut.set_ {S : Nat → Prop} {a b : World} (h : KeepOut S a b) {g : Nat} (hg : S g) (i : Nat) (u : Value) : KeepOut S a (b.setCell ⟨g, i, none⟩ u) :=
  ⟨h.os, h.tape, h.output, by simpa [World.setCell] using h.size, fun k hk hn => (Below.heap_setCell _ _ _ _ (by intro e; subst e; exact hn hg)).trans (h.blk k hk hn)⟩
theorem KeepOut.alloc {S : Nat → Prop} {a b : World} (h : KeepOut S a b) (o : Obj) : KeepOut S a (b.alloc o) :=
  ⟨h.os, h.tape, h.output, Nat.le_trans h.size (by simp), fun k hk hn => (Below.heap_alloc _ _ _ (Nat.lt_of_lt_of_le hk h.size)).trans (h.blk k hk hn)⟩
theorem KeepOut.drew {S : Nat → Prop} {a b : World} (h : KeepOut S a b) : KeepOut S a b.drew := ⟨h.os, h.tape, h.output, h.size, h.blk⟩
/-- A block of a type, of so many cells. -/
def TyBlk (w : World) (g : Nat) (t : TypeId) (n : Nat) : Prop := ∃ cs, Blk w g t cs ∧ cs.size = n
theorem TyBlk.at_ {w : World} {g n : Nat} {t : TypeId} (h : TyBlk w g t n) (i : Nat) (hi : i < n) : ∃ u, w.cell? ⟨g, i, none⟩ = some u := by
  obtain ⟨cs, hb, hs⟩ := h
  exact ⟨_, by rw [hb.cell, Array.getElem?_eq_getElem (by omega)]⟩
theorem TyBlk.free {w : World} {g n : Nat} {t : TypeId} (h : TyBlk w g t n) (i : Nat) : w.frozen? ⟨g, i, none⟩ = false := by
  obtain ⟨cs, hb, _⟩ := h
  exact hb.frozen i
theorem TyBlk.set_ {w : World} {g n : Nat} {t : TypeId} (h : TyBlk w g t n) (b i : Nat) (u : Value) : TyBlk (w.setCell ⟨b, i, none⟩ u) g t n := by
  obtain ⟨cs, hb, hs⟩ := h
  by_cases e : g = b
  · subst e
    exact ⟨_, hb.set_ i u, by simpa using hs⟩
  · exact ⟨cs, Blk.far hb (by simpa using e) u, hs⟩
theorem TyBlk.drew {w : World} {g n : Nat} {t : TypeId} (h : TyBlk w g t n) : TyBlk w.drew g t n := h
theorem TyBlk.grown {w w' : World} {g n b m : Nat} {t t' : TypeId} (h : TyBlk w g t n) (hg : w.grownBy w' (some b)) (hb : TyBlk w b t' m) (hne : t ≠ t') : TyBlk w' g t n := by
  obtain ⟨cs, h1, h2⟩ := h
  obtain ⟨cs', h3, _⟩ := hb
  exact ⟨cs, (hg.block g h1.lt (fun e => h1.ne_ h3 hne (by injection e))).trans h1, h2⟩
/-- What is known of a row's own block. -/
theorem own_ty {w : World} {B n k : Nat} {t : TypeId} {v : Value} {xs : List Value} (h : w.ownsRow B t k v n xs) : (v = .slice none 0 0 ∧ n = 0) ∨ ∃ g cap, v = .slice (some ⟨g, 0, none⟩) n cap ∧ B ≤ g ∧ n ≤ cap ∧ cap ≤ maxLen ∧ TyBlk w g t (cap * k) := by
  rcases h.2 with h | ⟨g, cap, cur, hv, hb, hg, h1, h2, h3, h4⟩
  · exact .inl h
  · exact .inr ⟨g, cap, hv, hb, h1, h2, cur, hg, h3⟩
/-- A slice whose block has a type, nothing said of what it holds. -/
def TySl (w : World) (B N : Nat) (t : TypeId) (k : Nat) (v : Value) (n : Nat) : Prop := (v = .slice none 0 0 ∧ n = 0) ∨ ∃ g cap, v = .slice (some ⟨g, 0, none⟩) n cap ∧ B ≤ g ∧ g < N ∧ n ≤ cap ∧ cap ≤ maxLen ∧ TyBlk w g t (cap * k)
theorem TySl.of_own {w0 w : World} {B n k : Nat} {t : TypeId} {v : Value} {xs : List Value} (h0 : w0.ownsRow B t k v n xs) (h : w.ownsRow B t k v n xs) : TySl w B w0.heap.size t k v n := by
  rcases own_ty h with h | ⟨g, cap, rfl, h1, h2, h3, h4⟩
  · exact .inl h
  · exact .inr ⟨g, cap, rfl, h1, (h0.lt g rfl).2, h2, h3, h4⟩
theorem TySl.set_ {w : World} {B N k n : Nat} {t : TypeId} {v : Value} (h : TySl w B N t k v n) (b i : Nat) (u : Value) : TySl (w.setCell ⟨b, i, none⟩ u) B N t k v n := by
  rcases h with h | ⟨g, cap, e, h1, h2, h3, h4, h5⟩
  · exact .inl h
  · exact .inr ⟨g, cap, e, h1, h2, h3, h4, h5.set_ b i u⟩
theorem TySl.drew {w : World} {B N k n : Nat} {t : TypeId} {v : Value} (h : TySl w B N t k v n) : TySl w.drew B N t k v n := h
theorem TySl.grown {w w' : World} {B N k n m b B' : Nat} {t : TypeId} {v v' : Value} {xs : List Value} (h : TySl w B N t k v n) (ho : w.ownsRow B' 3 b v' m xs) (hg : w.grownBy w' v'.ownBlock) (hne : t ≠ 3) : TySl w' B N t k v n := by
  rcases h with h | ⟨g, cap, e, h1, h2, h3, h4, h5⟩
  · exact .inl h
  · refine .inr ⟨g, cap, e, h1, h2, h3, h4, ?_⟩
    rcases own_ty ho with ⟨rfl, _⟩ | ⟨g', cap', rfl, _, _, _, h6⟩
    · obtain ⟨cs, h7, h8⟩ := h5
      exact ⟨cs, (hg.block g h7.lt (by simp [Value.ownBlock])).trans h7, h8⟩
    · exact h5.grown hg h6 hne
structure SpT (w wx : World) (B N : Nat) (m : Int) (V : CV) (C : Circ) : Prop where
  keep : KeepOut (fun k => B ≤ k ∧ k < N) w wx
  box : Blk wx w.heap.size 51 (V.cells m)
  l : TySl wx B N 82 3 V.l C.latches.length
  a : TySl wx B N 43 3 V.a C.ands.length
  s : TySl wx B N 95 3 V.s C.symbols.length
  t : TySl wx B N 9 1 V.t C.comments.length
  circ : ∀ k cs, Blk w k 51 cs → Blk wx k 51 cs
theorem SpT.set_ {w wx : World} {B N n : Nat} {m : Int} {V : CV} {C : Circ} {t : TypeId} (h : SpT w wx B N m V C) (hN : N ≤ w.heap.size) {g : Nat} (h1 : B ≤ g) (h2 : g < N) (ht : TyBlk wx g t n) (hne : 51 ≠ t) (i : Nat) (u : Value) : SpT w (wx.setCell ⟨g, i, none⟩ u) B N m V C :=
  ⟨h.keep.set_ ⟨h1, h2⟩ i u, Blk.far h.box (by simp; omega) u, h.l.set_ g i u, h.a.set_ g i u, h.s.set_ g i u, h.t.set_ g i u, fun k cs hb => Blk.far (h.circ k cs hb) (fun e => by
    obtain ⟨cs', hb', _⟩ := ht
    exact (h.circ k cs hb).ne_ hb' hne (by exact e)) u⟩
structure SpI (w wx : World) (B N : Nat) (m : Int) (V : CV) (us : List Value) (C : Circ) (k : Nat) : Prop where
  tt : SpT w wx B N m V C
  rows : ∀ (j : Nat) (p : Value × List Int), k ≤ j → (five V C ++ us.zip C.justice)[j]? = some p → wx.ownsRow B 3 1 p.1 p.2.length (p.2.map (Value.int .i64))
  j : wx.ownsRow B 45 1 V.j us.length us
theorem SpI.step {w wx wk : World} {B N : Nat} {m : Int} {V : CV} {us : List Value} {C : Circ} {k : Nat} {p : Value × List Int} (h : SpI w wx B N m V us C k) (hN : N ≤ w.heap.size) (hap : ∀ (i j : Nat) (a b : Value × List Int), i ≠ j → (five V C ++ us.zip C.justice)[i]? = some a → (five V C ++ us.zip C.justice)[j]? = some b → Apart a b)
    (hlt : ∀ (p : Value × List Int), p ∈ five V C ++ us.zip C.justice → ∀ g, p.1.ownBlock = some g → B ≤ g ∧ g < N) (hp : (five V C ++ us.zip C.justice)[k]? = some p) (hg : wx.grownBy wk p.1.ownBlock) : SpI w wk B N m V us C (k + 1) := by
  have ho := h.rows k p (Nat.le_refl _) hp
  have hS : ∀ g, p.1.ownBlock = some g → B ≤ g ∧ g < N := hlt p (List.mem_of_getElem? hp)
  refine ⟨⟨h.tt.keep.trans (KeepOut.grown hg hS), ?_, h.tt.l.grown ho hg (by decide), h.tt.a.grown ho hg (by decide), h.tt.s.grown ho hg (by decide), h.tt.t.grown ho hg (by decide), fun j cs hb => ?_⟩, fun j q hj hq => ?_, ?_⟩
  · exact (hg.block _ h.tt.box.lt (fun e => by have := (hS _ e.symm).2; omega)).trans h.tt.box
  · have hb2 := h.tt.circ j cs hb
    exact (hg.block j hb2.lt (fun e => by
      rcases own_ty ho with ⟨hv, _⟩ | ⟨g', cap', hv, _, _, _, cs', h6, _⟩
      · rw [hv] at e; cases e
      · rw [hv] at e
        have : j = g' := by simpa [Value.ownBlock] using e
        subst this
        exact hb2.ne_ h6 (by decide) rfl)).trans hb2
  · have hoq := h.rows j q (by omega) hq
    exact own_of_block hoq fun g hgg => hg.block g (hoq.lt g hgg).2 (fun e => hap k j p q (by omega) hp hq g e.symm hgg)
  · exact own_of_block h.j fun g hgg => hg.block g (h.j.lt g hgg).2 (fun e => by
      rcases own_ty ho with ⟨hv, _⟩ | ⟨g', cap', hv, _, _, _, cs, h6, _⟩
      · rw [hv] at e; cases e
      · rw [hv] at e
        have : g = g' := by simpa [Value.ownBlock] using e
        subst this
        exact own_blk_ne h.j h6 (by decide) hgg)
end Go.Proofs.Ytbeaicmjohlboab

namespace Go.Proofs.Ytbeaicmjohlboab
open Go.RowKit

end Go.Proofs.Ytbeaicmjohlboab
