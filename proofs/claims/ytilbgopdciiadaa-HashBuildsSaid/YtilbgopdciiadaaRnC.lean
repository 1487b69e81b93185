/- What memory holds while the document's own Renumber writes. -/
import Derived.Test.YtilbgopdciiadaaRfO
import Derived.Test.YtilbgopdciiadaaRenE
import Derived.Test.YtilbgopdciiadaaBin
import Derived.Test.YtilbgopdciiadaaLendC
namespace Go.Proofs.Ytilbgopdciiadaa
open Go.RowKit

end Go.Proofs.Ytilbgopdciiadaa

namespace Go.Proofs.Ytilbgopdciiadaa
open Go.RowKit

end Go.Proofs.Ytilbgopdciiadaa

namespace Go.Proofs.Ytilbgopdciiadaa
open Go.RowKit

theorem own_far {w : World} {B k n g : Nat} {t t' : TypeId} {v : Value} {xs : List Value} {cs : Array Value} (h : w.ownsRow B t k v n xs) (hb : Blk w g t' cs) (ht : t ≠ t') (i : Nat) (u : Value) : (w.setCell ⟨g, i, none⟩ u).ownsRow B t k v n xs :=
  own_of_block h fun g2 hg2 => Below.heap_setCell _ _ _ _ (fun e => own_blk_ne h hb ht (by rw [hg2, e]))
theorem own_set1 {w : World} {B n cap g q : Nat} {t : TypeId} {xs : List Value} (h : w.ownsRow B t 1 (.slice (some ⟨g, 0, none⟩) n cap) n xs) (hq : q < n) (u : Value) :
    B ≤ g ∧ (∃ cs, Blk w g t cs) ∧ (∀ i, w.frozen? ⟨g, i, none⟩ = false) ∧ w.cell? ⟨g, q, none⟩ = xs[q]? ∧ (w.setCell ⟨g, q, none⟩ u).ownsRow B t 1 (.slice (some ⟨g, 0, none⟩) n cap) n (xs.set q u) := by
  have hl := h.1
  rcases h.2 with ⟨hv, hn0⟩ | ⟨g', cap', cur, hv, hB, hh, h1, h2, h3, h4⟩
  · omega
  · injection hv with e1 e2 e3
    injection e1 with e1
    injection e1 with e1
    subst e1 e3
    have hb : Blk w g t cur := hh
    refine ⟨hB, ⟨cur, hb⟩, fun i => hb.frozen i, ?_, by simpa using hl, .inr ⟨g, cap, cur.setIfInBounds q u, rfl, hB, Blk.set_ hb q u, h1, h2, by simpa using h3, ?_⟩⟩
    · rw [hb.cell, ← h4, List.getElem?_take, if_pos (by omega), Array.getElem?_toList]
    · rw [Array.toList_setIfInBounds, ← h4, List.take_set]
/-- What memory holds while the document's own Renumber writes. -/
structure RR (w0 wx : World) (Bc gm bo : Nat) (OUT : Array Value) (M : List Int) (V : CV) (I : List Int) (LL AA : List Tri) (C : Circ) (us : List Value) : Prop where
  below : Below w0.heap.size w0 wx
  w0l : w0.heap.size ≤ gm
  gml : gm < Bc
  bol : Bc ≤ bo
  nums : Nums wx gm M
  box : Blk wx bo 29 OUT
  i : wx.ownsRow Bc 3 1 V.i I.length (I.map (Value.int .i64))
  l : wx.ownsRow Bc 78 3 V.l LL.length (LL.flatMap encT)
  a : wx.ownsRow Bc 80 3 V.a AA.length (AA.flatMap encT)
  j : wx.ownsRow Bc 22 1 V.j us.length us
  s : wx.ownsRow Bc 97 3 V.s C.symbols.length (C.symbols.flatMap encS)
  t : wx.ownsRow Bc 9 1 V.t C.comments.length (C.comments.flatMap encB)
section
variable {w0 wx : World} {Bc gm bo : Nat} {OUT : Array Value} {M : List Int} {V : CV} {I : List Int} {LL AA : List Tri} {C : Circ} {us : List Value}
theorem RR.out_ (h : RR w0 wx Bc gm bo OUT M V I LL AA C us) {w' : World} (hb : Below w0.heap.size w0 w') (hk : ∀ g, w0.heap.size ≤ g → g < wx.heap.size → w'.heap[g]? = wx.heap[g]?) : RR w0 w' Bc gm bo OUT M V I LL AA C us := by
  have h0 := h.w0l
  have h1 := h.gml
  have h2 := h.bol
  have ho : ∀ {t : TypeId} {k n : Nat} {v : Value} {xs : List Value}, wx.ownsRow Bc t k v n xs → w'.ownsRow Bc t k v n xs := fun hr =>
    own_of_block hr fun g hg => by
      have := hr.lt g hg
      exact hk g (by omega) this.2
  exact ⟨hb, h0, h1, h2, (hk _ h0 (Blk.lt h.nums)).trans h.nums, (hk _ (by omega) (Blk.lt h.box)).trans h.box, ho h.i, ho h.l, ho h.a, ho h.j, ho h.s, ho h.t⟩
theorem RR.on (h : RR w0 wx Bc gm bo OUT M V I LL AA C us) {w' : World} (hb : Below wx.heap.size wx w') : RR w0 w' Bc gm bo OUT M V I LL AA C us :=
  h.out_ (h.below.trans (hb.mono h.below.size)) fun g _ hg => hb.block g hg
theorem RR.alloc (h : RR w0 wx Bc gm bo OUT M V I LL AA C us) (o : Obj) : RR w0 (wx.alloc o) Bc gm bo OUT M V I LL AA C us := h.on ((Below.refl _ _).alloc (Nat.le_refl _) o)
theorem RR.drew (h : RR w0 wx Bc gm bo OUT M V I LL AA C us) : RR w0 wx.drew Bc gm bo OUT M V I LL AA C us := h.out_ h.below.drew fun _ _ _ => rfl
theorem RR.drewN (h : RR w0 wx Bc gm bo OUT M V I LL AA C us) (k : Nat) : RR w0 (wx.drewN k) Bc gm bo OUT M V I LL AA C us := h.out_ (below_drewN h.below k) fun _ _ _ => rfl
theorem RR.setM (h : RR w0 wx Bc gm bo OUT M V I LL AA C us) (q : Nat) (x : Int) : RR w0 (wx.setCell ⟨gm, q, none⟩ (.int .i64 x)) Bc gm bo OUT (M.set q x) V I LL AA C us := by
  have h1 := h.gml
  have h2 := h.bol
  have ho : ∀ {t : TypeId} {k n : Nat} {v : Value} {xs : List Value}, wx.ownsRow Bc t k v n xs → (wx.setCell ⟨gm, q, none⟩ (.int .i64 x)).ownsRow Bc t k v n xs := fun hr =>
    own_of_block hr fun g hg => by
      have := hr.lt g hg
      exact Below.heap_setCell _ _ _ _ (by simp; omega)
  exact ⟨h.below.setCell h.w0l _, h.w0l, h1, h2, Nums.set_ h.nums q x, Blk.far h.box (by simp; omega) _, ho h.i, ho h.l, ho h.a, ho h.j, ho h.s, ho h.t⟩
theorem RR.setI (h : RR w0 wx Bc gm bo OUT M V I LL AA C us) {g N cap q : Nat} (hV : V.i = .slice (some ⟨g, 0, none⟩) N cap) (hq : q < I.length) (x : Int) :
    RR w0 (wx.setCell ⟨g, q, none⟩ (.int .i64 x)) Bc gm bo OUT M V (I.set q x) LL AA C us := by
  have h1 := h.gml
  have h0 := h.w0l
  have hi := h.i
  rw [hV] at hi
  have hN : N = I.length := by
    rcases hi.2 with ⟨hv, _⟩ | ⟨g', cap', cur, hv, _⟩
    · cases hv
    · injection hv
  rw [hN] at hi
  obtain ⟨hB, ⟨cs, hb⟩, _, _, hset⟩ := own_set1 hi hq (.int .i64 x)
  refine ⟨h.below.setCell (by simp; omega) _, h0, h1, h.bol, Blk.far h.nums (by simp; omega) _, Blk.far h.box (fun e => h.box.ne_ hb (by decide) e) _, ?_, own_far h.l hb (by decide) _ _, own_far h.a hb (by decide) _ _, own_far h.j hb (by decide) _ _, own_far h.s hb (by decide) _ _, own_far h.t hb (by decide) _ _⟩
  rw [hV, hN, List.length_set, List.map_set]
  exact hset
theorem RR.setJ (h : RR w0 wx Bc gm bo OUT M V I LL AA C us) {g N cap q : Nat} (hV : V.j = .slice (some ⟨g, 0, none⟩) N cap) (hq : q < us.length) (x : Value) :
    RR w0 (wx.setCell ⟨g, q, none⟩ x) Bc gm bo OUT M V I LL AA C (us.set q x) := by
  have h1 := h.gml
  have h0 := h.w0l
  have hi := h.j
  rw [hV] at hi
  have hN : N = us.length := by
    rcases hi.2 with ⟨hv, _⟩ | ⟨g', cap', cur, hv, _⟩
    · cases hv
    · injection hv
  rw [hN] at hi
  obtain ⟨hB, ⟨cs, hb⟩, _, _, hset⟩ := own_set1 hi hq x
  refine ⟨h.below.setCell (by simp; omega) _, h0, h1, h.bol, Blk.far h.nums (by simp; omega) _, Blk.far h.box (fun e => h.box.ne_ hb (by decide) e) _, own_far h.i hb (by decide) _ _, own_far h.l hb (by decide) _ _, own_far h.a hb (by decide) _ _, ?_, own_far h.s hb (by decide) _ _, own_far h.t hb (by decide) _ _⟩
  rw [hV, hN, List.length_set]
  exact hset
theorem RR.setB (h : RR w0 wx Bc gm bo OUT M V I LL AA C us) (k : Nat) (u : Value) : RR w0 (wx.setCell ⟨bo, k, none⟩ u) Bc gm bo (OUT.setIfInBounds k u) M V I LL AA C us := by
  have h1 := h.gml
  have h0 := h.w0l
  have h2 := h.bol
  have hb := h.box
  exact ⟨h.below.setCell (by simp; omega) _, h0, h1, h2, Blk.far h.nums (by simp; omega) _, Blk.set_ hb k u, own_far h.i hb (by decide) _ _, own_far h.l hb (by decide) _ _, own_far h.a hb (by decide) _ _, own_far h.j hb (by decide) _ _, own_far h.s hb (by decide) _ _, own_far h.t hb (by decide) _ _⟩
end
end Go.Proofs.Ytilbgopdciiadaa
