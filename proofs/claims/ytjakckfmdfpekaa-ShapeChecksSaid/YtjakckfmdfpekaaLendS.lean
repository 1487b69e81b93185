/- What memory holds in the midst of LendCircuit. -/
import Derived.Test.YtjakckfmdfpekaaCopyB
import Derived.Test.YtjakckfmdfpekaaWorks3
namespace Go.Proofs.Ytjakckfmdfpekaa
open Go.RowKit

theorem wp_store_slice {o : Oper} {a : Act} {w : World} {K : Act → World → Prop} {Q : Exit → Act → World → Prop} (x y : Operand) (ho : o.op = .store 22 x y) (b k : Nat) (A : Option Addr) (n c : Nat) (hx : a.eval x = .pointer (some ⟨b, k, none⟩)) (hy : a.eval y = .slice A n c)
    (u : Value) (hc : w.cell? ⟨b, k, none⟩ = some u) (hf : w.frozen? ⟨b, k, none⟩ = false) (h : K (a.put o.dst undef) (w.setCell ⟨b, k, none⟩ (.slice A n c))) : o.wp Try.prog a w K Q := by
  unfold Oper.wp execOp
  simp only [ho, hx, hy]
  simp [go_sem, hc, hf]
  exact h
def pick5 (C : Circ) (k : Nat) : Option (List Int) := if k = 1 then some C.inputs else if k = 3 then some C.outputs else if k = 4 then some C.bads else if k = 5 then some C.constraints else if k = 7 then some C.fairness else none
def GoodC (w : World) (B : Nat) (C : Circ) (k : Nat) (u : Value) : Prop := ∃ zs, pick5 C k = some zs ∧ Lent w B u zs
/-- From one world to another: but for the box nothing turns, and in the box what turns is a list that was lent. -/
structure StoG (B b : Nat) (C : Circ) (w1 w2 : World) : Prop where
  grown : w1.grownBy w2 (some b)
  box : ∀ cs, Blk w1 b 29 cs → ∃ cs', Blk w2 b 29 cs' ∧ cs'.size = cs.size ∧ ∀ k, cs'[k]? = cs[k]? ∨ ∃ u, cs'[k]? = some u ∧ GoodC w2 B C k u
theorem lent_on {w1 w2 : World} {B b : Nat} {v : Value} {zs : List Int} {cs : Array Value} (h : Lent w1 B v zs) (hb : Blk w1 b 29 cs) (hg : w1.grownBy w2 (some b)) : Lent w2 B v zs := by
  obtain ⟨g, cap, cur, rfl, hB, hgg, h⟩ := h
  have hne : g ≠ b := fun e => by
    subst e
    have h2 : w1.heap[g]? = some (.cells cs 29 (0, 0)) := hb
    rw [hgg] at h2
    injection h2 with h2
    injection h2 with _ h2 _
    exact absurd h2 (by decide)
  exact ⟨g, cap, cur, rfl, hB, (hg.block g (Array.getElem?_eq_some_iff.1 hgg).1 (fun e => hne (by injection e))).trans hgg, h⟩
theorem StoG.refl (B b : Nat) (C : Circ) (w : World) : StoG B b C w w := ⟨World.grownBy.refl w _, fun cs h => ⟨cs, h, rfl, fun _k => .inl rfl⟩⟩
theorem grown_transB {w1 w2 w3 : World} {b : Nat} (h1 : w1.grownBy w2 (some b)) (h2 : w2.grownBy w3 (some b)) : w1.grownBy w3 (some b) :=
  ⟨h2.os.trans h1.os, h2.tape.trans h1.tape, h2.output.trans h1.output, Nat.le_trans h1.size h2.size, fun k hk hne => (h2.block k (Nat.lt_of_lt_of_le hk h1.size) hne).trans (h1.block k hk hne)⟩
theorem StoG.trans {B b : Nat} {C : Circ} {w1 w2 w3 : World} (h1 : StoG B b C w1 w2) (h2 : StoG B b C w2 w3) : StoG B b C w1 w3 := by
  refine ⟨grown_transB h1.grown h2.grown, fun cs hcs => ?_⟩
  obtain ⟨cs', a1, a2, a3⟩ := h1.box cs hcs
  obtain ⟨cs'', c1, c2, c3⟩ := h2.box cs' a1
  refine ⟨cs'', c1, c2.trans a2, fun k => ?_⟩
  rcases c3 k with e | e
  · rcases a3 k with e' | ⟨u, e', zs, hz, hl⟩
    · exact .inl (e.trans e')
    · exact .inr ⟨u, e.trans e', zs, hz, lent_on hl a1 h2.grown⟩
  · exact .inr e
theorem StoG.below {B b : Nat} {C : Circ} {w1 w2 : World} (h : Below w1.heap.size w1 w2) : StoG B b C w1 w2 :=
  ⟨⟨h.os, h.tape, h.output, h.size, fun k hk _ => h.block k hk⟩, fun cs hcs => ⟨cs, hcs.below h hcs.lt, rfl, fun _ => .inl rfl⟩⟩
theorem StoG.store {B b k : Nat} {C : Circ} {w : World} {v : Value} {zs : List Int} {cs : Array Value} (hb : Blk w b 29 cs) (hk : k < cs.size) (hz : pick5 C k = some zs) (hl : Lent w B v zs) : StoG B b C w (w.setCell ⟨b, k, none⟩ v) := by
  have hg : w.grownBy (w.setCell ⟨b, k, none⟩ v) (some b) := only_setL (World.grownBy.refl w _) k v
  refine ⟨hg, fun cs0 hcs0 => ?_⟩
  have e : cs0 = cs := by
    have h1 : w.heap[b]? = some (.cells cs0 29 (0, 0)) := hcs0
    have h2 : w.heap[b]? = some (.cells cs 29 (0, 0)) := hb
    rw [h1] at h2
    injection h2 with h2
    injection h2
  subst e
  refine ⟨_, Blk.set_ hb k v, by simp, fun j => ?_⟩
  by_cases hj : j = k
  · subst hj
    exact .inr ⟨v, by simp [hk], zs, hz, lent_on hl hb hg⟩
  · exact .inl (by simp [Ne.symm hj])
/-- What an operation's answer says. -/
def lentV (B b : Nat) (_C : Circ) (zs : List Int) (v : Value) (w : World) : Prop := (∃ cs, Blk w b 29 cs) ∧ Lent w B v zs
def putV (B b : Nat) (C : Circ) (k : Nat) (_ : Value) (w : World) : Prop := ∃ cs u, Blk w b 29 cs ∧ cs[k]? = some u ∧ GoodC w B C k u
theorem lentV_on {B b : Nat} {C : Circ} {zs : List Int} : ∀ (v : Value) (w1 w2 : World), StoG B b C w1 w2 → lentV B b C zs v w1 → lentV B b C zs v w2 := by
  rintro v w1 w2 hg ⟨⟨cs, hb⟩, hl⟩
  obtain ⟨cs', h1, _, _⟩ := hg.box cs hb
  exact ⟨⟨cs', h1⟩, lent_on hl hb hg.grown⟩
theorem putV_on {B b : Nat} {C : Circ} {k : Nat} : ∀ (v : Value) (w1 w2 : World), StoG B b C w1 w2 → putV B b C k v w1 → putV B b C k v w2 := by
  rintro v w1 w2 hg ⟨cs, u, hb, hu, zs, hz, hl⟩
  obtain ⟨cs', h1, _, h3⟩ := hg.box cs hb
  rcases h3 k with e | ⟨u', e, hgood⟩
  · exact ⟨cs', u, h1, e.trans hu, zs, hz, lent_on hl hb hg.grown⟩
  · exact ⟨cs', u', h1, e, hgood⟩
/-- v is a list zs of the call's own, with one thing (-77, 0, 0) behind its end. -/
def LentT (w : World) (B : Nat) (t : TypeId) (v : Value) (zs : List Tri) : Prop :=
  ∃ g cap cur, v = .slice (some ⟨g, 0, none⟩) zs.length cap ∧ B ≤ g ∧ w.heap[g]? = some (.cells cur t (0, 0)) ∧ zs.length + 1 ≤ cap ∧ cap ≤ maxLen ∧ cur.size = cap * 3 ∧ cur.toList.take ((zs.length + 1) * 3) = zs.flatMap encT ++ [.int .i64 (-77), .int .i64 0, .int .i64 0]
theorem LentT.below {w w' : World} {B : Nat} {t : TypeId} {v : Value} {zs : List Tri} (h : LentT w B t v zs) (hb : Below w.heap.size w w') : LentT w' B t v zs := by
  obtain ⟨g, cap, cur, rfl, hB, hg, h⟩ := h
  exact ⟨g, cap, cur, rfl, hB, (hb.block g (Array.getElem?_eq_some_iff.1 hg).1).trans hg, h⟩
theorem LentT.reads {w : World} {B : Nat} {t : TypeId} {v : Value} {zs : List Tri} (h : LentT w B t v zs) : RowE 3 encT w v zs := by
  obtain ⟨g, cap, cur, rfl, hb, hg, h1, h2, h3, h4⟩ := h
  refine ⟨_, cap, rfl, by omega, h2, fun i z hz => ⟨g, 0, rfl, (Array.getElem?_eq_some_iff.1 hg).1, fun j u hu => ?_⟩⟩
  have hi : i < zs.length := (List.getElem?_eq_some_iff.1 hz).1
  have hj : j < 3 := by have := (List.getElem?_eq_some_iff.1 hu).1; simpa using this
  have hl : (zs.flatMap encT).length = zs.length * 3 := flat_len lenT zs
  have e : cur.toList[i * 3 + j]? = (zs.flatMap encT ++ [Value.int .i64 (-77), .int .i64 0, .int .i64 0])[i * 3 + j]? := by rw [← h4, List.getElem?_take, if_pos (by omega)]
  rw [Nat.zero_add, cell_of_row w g _ cur _ _ hg, ← Array.getElem?_toList, e, List.getElem?_append_left (by omega), flat_get lenT zs i z hz j hj]
  exact hu
theorem LentT.mark {w : World} {B : Nat} {t : TypeId} {v : Value} {zs : List Tri} (h : LentT w B t v zs) : ∃ g cap, v = .slice (some ⟨g, 0, none⟩) zs.length cap ∧ zs.length + 1 ≤ cap ∧ cap ≤ maxLen ∧ B ≤ g ∧ g < w.heap.size ∧ w.cell? ⟨g, zs.length * 3, none⟩ = some (.int .i64 (-77)) ∧ w.cell? ⟨g, zs.length * 3 + 1, none⟩ = some (.int .i64 0) ∧ w.cell? ⟨g, zs.length * 3 + 2, none⟩ = some (.int .i64 0) := by
  obtain ⟨g, cap, cur, rfl, hb, hg, h1, h2, h3, h4⟩ := h
  have hl : (zs.flatMap encT).length = zs.length * 3 := flat_len lenT zs
  have e : ∀ j, j < 3 → w.cell? ⟨g, zs.length * 3 + j, none⟩ = [Value.int .i64 (-77), .int .i64 0, .int .i64 0][j]? := fun j hj => by
    have e : cur.toList[zs.length * 3 + j]? = (zs.flatMap encT ++ [Value.int .i64 (-77), .int .i64 0, .int .i64 0])[zs.length * 3 + j]? := by rw [← h4, List.getElem?_take, if_pos (by omega)]
    rw [cell_of_row w g _ cur _ _ hg, ← Array.getElem?_toList, e, List.getElem?_append_right (by omega), hl, Nat.add_sub_cancel_left]
  exact ⟨g, cap, rfl, h1, h2, hb, (Array.getElem?_eq_some_iff.1 hg).1, e 0 (by omega), e 1 (by omega), e 2 (by omega)⟩
/-- A circuit that was lent. -/
structure LentC (w : World) (B : Nat) (C : Circ) (us : List Value) (V : CV) : Prop where
  i : Lent w B V.i C.inputs
  l : LentT w B 52 V.l C.latches
  o : Lent w B V.o C.outputs
  b : Lent w B V.b C.bads
  c : Lent w B V.c C.constraints
  j : JRow w B V.j us C.justice
  f : Lent w B V.f C.fairness
  a : LentT w B 49 V.a C.ands
  s : w.ownsRow B 78 3 V.s C.symbols.length (C.symbols.flatMap encS)
  t : w.ownsRow B 9 1 V.t C.comments.length (C.comments.flatMap encB)
theorem LentC.below {w w' : World} {B : Nat} {C : Circ} {us : List Value} {V : CV} (h : LentC w B C us V) (hb : Below w.heap.size w w') : LentC w' B C us V :=
  ⟨h.i.below hb, h.l.below hb, h.o.below hb, h.b.below hb, h.c.below hb, h.j.below hb, h.f.below hb, h.a.below hb, own_below h.s hb, own_below h.t hb⟩
theorem LentC.in_ {w : World} {B : Nat} {C : Circ} {us : List Value} {V : CV} (h : LentC w B C us V) : C.In w V :=
  ⟨h.i.reads, h.l.reads, h.o.reads, h.b.reads, h.c.reads, h.j.lists, h.f.reads, h.a.reads, own_rowe lenS h.s, own_rowe lenB h.t⟩
end Go.Proofs.Ytjakckfmdfpekaa

namespace Go.Proofs.Ytjakckfmdfpekaa
open Go.RowKit

theorem own_form3 {w : World} {B n : Nat} {t : TypeId} {v : Value} {xs : List Value} (h : w.ownsRow B t 3 v n xs) (hn : 0 < n) :
    ∃ g cap cur, v = .slice (some ⟨g, 0, none⟩) n cap ∧ B ≤ g ∧ w.heap[g]? = some (.cells cur t (0, 0)) ∧ n ≤ cap ∧ cap ≤ maxLen ∧ cur.size = cap * 3 ∧ cur.toList.take (n * 3) = xs := by
  rcases h.2 with ⟨_, h0⟩ | ⟨g, cap, cur, hv, hb, hg, h1, h2, h3, h4⟩
  · omega
  · exact ⟨g, cap, cur, hv, hb, hg, h1, h2, h3, h4⟩
def zeroC : Array Value := #[.int .i64 0, .slice none 0 0, .slice none 0 0, .slice none 0 0, .slice none 0 0, .slice none 0 0, .slice none 0 0, .slice none 0 0, .slice none 0 0, .slice none 0 0, .slice none 0 0]
structure LdS (w wx : World) (b : Nat) (C : Circ) (us : List Value) (V : CV) (m : Int) (U : CV) (PL PA : World → Value → Prop) : Prop where
  below : Below w.heap.size w wx
  box1 : Blk wx w.heap.size 29 (V.cells m)
  res : Blk wx (w.heap.size + 1) 29 zeroC
  box : Blk wx b 29 (U.cells m)
  i : Lent wx w.heap.size U.i C.inputs
  o : Lent wx w.heap.size U.o C.outputs
  b' : Lent wx w.heap.size U.b C.bads
  c : Lent wx w.heap.size U.c C.constraints
  f : Lent wx w.heap.size U.f C.fairness
  j : JRow wx w.heap.size U.j us C.justice
  s : wx.ownsRow w.heap.size 78 3 U.s C.symbols.length (C.symbols.flatMap encS)
  t : wx.ownsRow w.heap.size 9 1 U.t C.comments.length (C.comments.flatMap encB)
  l : PL wx U.l
  a : PA wx U.a
theorem LdS.on_below {w wx wy : World} {b : Nat} {C : Circ} {us : List Value} {V : CV} {m : Int} {U : CV} {PL PA : World → Value → Prop} (h : LdS w wx b C us V m U PL PA) (hb : Below wx.heap.size wx wy) (hl : PL wy U.l) (ha : PA wy U.a) : LdS w wy b C us V m U PL PA :=
  ⟨h.below.trans (hb.mono h.below.size), h.box1.below hb h.box1.lt, h.res.below hb h.res.lt, h.box.below hb h.box.lt, h.i.below hb, h.o.below hb, h.b'.below hb, h.c.below hb, h.f.below hb, h.j.below hb, own_below h.s hb, own_below h.t hb, hl, ha⟩
theorem reads_three (w : World) (a b c : Value) (t : TypeId) : Reads (w.alloc (.cells #[a, b, c] t)) (w.heap.size + 1) 3 (some ⟨w.heap.size, 0, none⟩) 1 [a, b, c] := by
  refine ⟨rfl, fun _ => ⟨_, rfl, by simp, fun j u hu => ?_⟩⟩
  rw [add_none, Nat.zero_add, cell_of_row _ _ _ #[a, b, c] t (0, 0) (heap_alloc_new w _)]
  simpa using hu
/-- One world keeps what another had, but for blocks of one type. -/
structure KeepBut (ty : TypeId) (wx wy : World) : Prop where
  os : wy.os = wx.os
  tape : wy.tape = wx.tape
  output : wy.output = wx.output
  size : wx.heap.size ≤ wy.heap.size
  blk : ∀ k, k < wx.heap.size → (∀ cs, ¬ Blk wx k ty cs) → wy.heap[k]? = wx.heap[k]?
section
variable {ty : TypeId} {wx wy : World}
theorem KeepBut.blk_ (h : KeepBut ty wx wy) {k : Nat} {t : TypeId} {cs : Array Value} (hb : Blk wx k t cs) (hne : t ≠ ty) : Blk wy k t cs :=
  (h.blk k hb.lt (fun _cs' hb' => hb.ne_ hb' hne rfl)).trans hb
theorem KeepBut.own (h : KeepBut ty wx wy) {B n k : Nat} {t : TypeId} {v : Value} {xs : List Value} (ho : wx.ownsRow B t k v n xs) (hne : t ≠ ty) : wy.ownsRow B t k v n xs :=
  own_of_block ho fun g hg => h.blk g (ho.lt g hg).2 (fun _cs hb => own_blk_ne ho hb hne hg)
theorem KeepBut.lent (h : KeepBut ty wx wy) {B : Nat} {v : Value} {zs : List Int} (hl : Lent wx B v zs) (hne : 3 ≠ ty) : Lent wy B v zs := by
  obtain ⟨g, cap, cur, e, hB, hg, hx⟩ := hl
  exact ⟨g, cap, cur, e, hB, h.blk_ (show Blk wx g 3 cur from hg) hne, hx⟩
theorem KeepBut.lentT (h : KeepBut ty wx wy) {B : Nat} {t : TypeId} {v : Value} {zs : List Tri} (hl : LentT wx B t v zs) (hne : t ≠ ty) : LentT wy B t v zs := by
  obtain ⟨g, cap, cur, e, hB, hg, hx⟩ := hl
  exact ⟨g, cap, cur, e, hB, h.blk_ (show Blk wx g t cur from hg) hne, hx⟩
theorem KeepBut.jrow (h : KeepBut ty wx wy) {B : Nat} {v : Value} {us : List Value} {zss : List (List Int)} (hj : JRow wx B v us zss) (h1 : 3 ≠ ty) (h2 : 22 ≠ ty) : JRow wy B v us zss :=
  ⟨hj.ul, h.own hj.own h2, fun i u zs hu hz => h.own (hj.each i u zs hu hz) h1⟩
theorem KeepBut.trans {wz : World} (h : KeepBut ty wx wy) (h2 : KeepBut ty wy wz) (hb : ∀ k cs, k < wx.heap.size → Blk wy k ty cs → ∃ cs', Blk wx k ty cs') : KeepBut ty wx wz :=
  ⟨h2.os.trans h.os, h2.tape.trans h.tape, h2.output.trans h.output, Nat.le_trans h.size h2.size, fun k hk hn => (h2.blk k (Nat.lt_of_lt_of_le hk h.size) (fun cs hc => by
    obtain ⟨cs', h'⟩ := hb k cs hk hc
    exact hn cs' h')).trans (h.blk k hk hn)⟩
end
/-- An append onto a row of the call's own, behind a new block. -/
theorem keep_app {wx w6 : World} {B n k : Nat} {ty : TypeId} {v : Value} {xs : List Value} {o : Obj} (ho : wx.ownsRow B ty k v n xs) (hg : (wx.alloc o).grownBy w6 v.ownBlock) : KeepBut ty wx w6 := by
  refine ⟨hg.os, hg.tape, hg.output, Nat.le_trans (by simp) hg.size, fun j hj hn => ?_⟩
  have h1 : (wx.alloc o).heap[j]? = wx.heap[j]? := Below.heap_alloc _ _ _ hj
  refine (hg.block j (by simp; omega) (fun e => ?_)).trans h1
  rcases ho.2 with ⟨rfl, _⟩ | ⟨g, cap, cur, rfl, _, hgg, _⟩
  · cases e
  · have : j = g := by simpa [Value.ownBlock] using e
    subst this
    exact hn cur hgg
/-- One more behind the latches' end. -/
theorem LdS.appL {w wx w6 : World} {b : Nat} {C : Circ} {us : List Value} {V : CV} {m : Int} {U : CV} {PA : World → Value → Prop} {o : Obj} {v6 : Value} (h : LdS w wx b C us V m U (fun w' v => w'.ownsRow w.heap.size 52 3 v C.latches.length (C.latches.flatMap encT)) PA)
    (hB : w.heap.size ≤ b) (hne : b ≠ w.heap.size ∧ b ≠ w.heap.size + 1) (hPA : ∀ w1 w2 v, KeepBut 52 w1 w2 → PA w1 v → PA w2 v) (hPA2 : ∀ w1 v k u, (∃ cs, Blk w1 b 29 cs) → PA w1 v → PA (w1.setCell ⟨b, k, none⟩ u) v)
    (hg : (wx.alloc o).grownBy w6 U.l.ownBlock) (ho6 : w6.ownsRow w.heap.size 52 3 v6 (C.latches.length + 1) (C.latches.flatMap encT ++ [.int .i64 (-77), .int .i64 0, .int .i64 0])) :
    ∃ g cap, v6 = .slice (some ⟨g, 0, none⟩) (C.latches.length + 1) cap ∧ C.latches.length + 1 ≤ cap ∧ cap ≤ maxLen ∧ Blk w6 w.heap.size 29 (V.cells m) ∧ Blk w6 b 29 (U.cells m) ∧
      LdS w (w6.setCell ⟨b, 2, none⟩ (.slice (some ⟨g, 0, none⟩) C.latches.length cap)) b C us V m { U with l := .slice (some ⟨g, 0, none⟩) C.latches.length cap } (fun w' v => LentT w' w.heap.size 52 v C.latches) PA := by
  have hk := keep_app h.l hg
  obtain ⟨g, cap, cur, rfl, hgB, hgg, h1, h2, h3, h4⟩ := own_form3 ho6 (by omega)
  have hb6 := hk.blk_ h.box (by decide)
  have hx6 := hk.blk_ h.box1 (by decide)
  have hr6 := hk.blk_ h.res (by decide)
  have hlo : ∀ g', U.l.ownBlock = some g' → w.heap.size ≤ g' := fun g' e => (h.l.lt g' e).1
  have hbel : Below w.heap.size w w6 := (h.below.alloc h.below.size o).grown hg (by have := h.below.size; simp; omega) hlo
  refine ⟨g, cap, rfl, h1, h2, hx6, hb6, ?_⟩
  generalize hv : Value.slice (some ⟨g, 0, none⟩) C.latches.length cap = v
  have keep : ∀ {t : TypeId} {k n : Nat} {u : Value} {xs : List Value}, w6.ownsRow w.heap.size t k u n xs → t ≠ 29 → (w6.setCell ⟨b, 2, none⟩ v).ownsRow w.heap.size t k u n xs := fun ho ht =>
    own_of_block ho fun g' hg' => Below.heap_setCell _ _ _ _ (fun e => own_blk_ne ho hb6 ht (by rw [hg', e]))
  have hl : ∀ {u : Value} {zs : List Int}, Lent w6 w.heap.size u zs → Lent (w6.setCell ⟨b, 2, none⟩ v) w.heap.size u zs := fun hl => lent_on hl hb6 (only_setL (World.grownBy.refl w6 _) 2 v)
  refine ⟨hbel.setCell hB _, Blk.far hx6 (by exact Ne.symm hne.1) _, Blk.far hr6 (by exact Ne.symm hne.2) _, by simpa [CV.cells] using Blk.set_ hb6 2 v, hl (hk.lent h.i (by decide)), hl (hk.lent h.o (by decide)), hl (hk.lent h.b' (by decide)), hl (hk.lent h.c (by decide)), hl (hk.lent h.f (by decide)), ?_, keep (hk.own h.s (by decide)) (by decide), keep (hk.own h.t (by decide)) (by decide), ?_, hPA2 _ _ _ _ ⟨_, hb6⟩ (hPA _ _ _ hk h.a)⟩
  · have hj := hk.jrow h.j (by decide) (by decide)
    exact ⟨hj.ul, keep hj.own (by decide), fun i u zs hu hz => keep (hj.each i u zs hu hz) (by decide)⟩
  · show LentT _ _ _ v _
    subst hv
    exact ⟨g, cap, cur, rfl, hgB, (Below.heap_setCell _ _ _ _ (fun e => by
      have h5 : Blk w6 g 52 cur := hgg
      exact h5.ne_ hb6 (by decide) e)).trans hgg, h1, h2, h3, h4⟩
/-- One more behind the gates' end. -/
theorem LdS.appA {w wx w6 : World} {b : Nat} {C : Circ} {us : List Value} {V : CV} {m : Int} {U : CV} {PL : World → Value → Prop} {o : Obj} {v6 : Value} (h : LdS w wx b C us V m U PL (fun w' v => w'.ownsRow w.heap.size 49 3 v C.ands.length (C.ands.flatMap encT)))
    (hB : w.heap.size ≤ b) (hne : b ≠ w.heap.size ∧ b ≠ w.heap.size + 1) (hPL : ∀ w1 w2 v, KeepBut 49 w1 w2 → PL w1 v → PL w2 v) (hPL2 : ∀ w1 v k u, (∃ cs, Blk w1 b 29 cs) → PL w1 v → PL (w1.setCell ⟨b, k, none⟩ u) v)
    (hg : (wx.alloc o).grownBy w6 U.a.ownBlock) (ho6 : w6.ownsRow w.heap.size 49 3 v6 (C.ands.length + 1) (C.ands.flatMap encT ++ [.int .i64 (-77), .int .i64 0, .int .i64 0])) :
    ∃ g cap, v6 = .slice (some ⟨g, 0, none⟩) (C.ands.length + 1) cap ∧ C.ands.length + 1 ≤ cap ∧ cap ≤ maxLen ∧ Blk w6 w.heap.size 29 (V.cells m) ∧ Blk w6 b 29 (U.cells m) ∧
      LdS w (w6.setCell ⟨b, 8, none⟩ (.slice (some ⟨g, 0, none⟩) C.ands.length cap)) b C us V m { U with a := .slice (some ⟨g, 0, none⟩) C.ands.length cap } PL (fun w' v => LentT w' w.heap.size 49 v C.ands) := by
  have hk := keep_app h.a hg
  obtain ⟨g, cap, cur, rfl, hgB, hgg, h1, h2, h3, h4⟩ := own_form3 ho6 (by omega)
  have hb6 := hk.blk_ h.box (by decide)
  have hx6 := hk.blk_ h.box1 (by decide)
  have hr6 := hk.blk_ h.res (by decide)
  have hlo : ∀ g', U.a.ownBlock = some g' → w.heap.size ≤ g' := fun g' e => (h.a.lt g' e).1
  have hbel : Below w.heap.size w w6 := (h.below.alloc h.below.size o).grown hg (by have := h.below.size; simp; omega) hlo
  refine ⟨g, cap, rfl, h1, h2, hx6, hb6, ?_⟩
  generalize hv : Value.slice (some ⟨g, 0, none⟩) C.ands.length cap = v
  have keep : ∀ {t : TypeId} {k n : Nat} {u : Value} {xs : List Value}, w6.ownsRow w.heap.size t k u n xs → t ≠ 29 → (w6.setCell ⟨b, 8, none⟩ v).ownsRow w.heap.size t k u n xs := fun ho ht =>
    own_of_block ho fun g' hg' => Below.heap_setCell _ _ _ _ (fun e => own_blk_ne ho hb6 ht (by rw [hg', e]))
  have hl : ∀ {u : Value} {zs : List Int}, Lent w6 w.heap.size u zs → Lent (w6.setCell ⟨b, 8, none⟩ v) w.heap.size u zs := fun hl => lent_on hl hb6 (only_setL (World.grownBy.refl w6 _) 8 v)
  refine ⟨hbel.setCell hB _, Blk.far hx6 (by exact Ne.symm hne.1) _, Blk.far hr6 (by exact Ne.symm hne.2) _, by simpa [CV.cells] using Blk.set_ hb6 8 v, hl (hk.lent h.i (by decide)), hl (hk.lent h.o (by decide)), hl (hk.lent h.b' (by decide)), hl (hk.lent h.c (by decide)), hl (hk.lent h.f (by decide)), ?_, keep (hk.own h.s (by decide)) (by decide), keep (hk.own h.t (by decide)) (by decide), hPL2 _ _ _ _ ⟨_, hb6⟩ (hPL _ _ _ hk h.l), ?_⟩
  · have hj := hk.jrow h.j (by decide) (by decide)
    exact ⟨hj.ul, keep hj.own (by decide), fun i u zs hu hz => keep (hj.each i u zs hu hz) (by decide)⟩
  · show LentT _ _ _ v _
    subst hv
    exact ⟨g, cap, cur, rfl, hgB, (Below.heap_setCell _ _ _ _ (fun e => by
      have h5 : Blk w6 g 49 cur := hgg
      exact h5.ne_ hb6 (by decide) e)).trans hgg, h1, h2, h3, h4⟩
theorem lentT_set {w1 : World} {b k B : Nat} {t : TypeId} {u v : Value} {zs : List Tri} (hb : ∃ cs, Blk w1 b 29 cs) (ht : t ≠ 29) (h : LentT w1 B t v zs) : LentT (w1.setCell ⟨b, k, none⟩ u) B t v zs := by
  obtain ⟨cs, hb⟩ := hb
  obtain ⟨g, cap, cur, e, hB, hg, hx⟩ := h
  exact ⟨g, cap, cur, e, hB, (Below.heap_setCell _ _ _ _ (fun e => Blk.ne_ (show Blk w1 g t cur from hg) hb ht e)).trans hg, hx⟩
theorem own_setC {w1 : World} {b k B n size : Nat} {t : TypeId} {u v : Value} {xs : List Value} (hb : ∃ cs, Blk w1 b 29 cs) (ht : t ≠ 29) (h : w1.ownsRow B t size v n xs) : (w1.setCell ⟨b, k, none⟩ u).ownsRow B t size v n xs := by
  obtain ⟨cs, hb⟩ := hb
  exact own_of_block h fun g' hg' => Below.heap_setCell _ _ _ _ (fun e => own_blk_ne h hb ht (by rw [hg', e]))
/-- The box when the five lists have been put there. -/
theorem sto_end {B b : Nat} {C : Circ} {X w' : World} {m : Int} {U : CV} (hX : Blk X b 29 (U.cells m)) (hg : StoG B b C X w') {v1 v3 v4 v5 v7 : Value} (p1 : putV B b C 1 v1 w') (p3 : putV B b C 3 v3 w') (p4 : putV B b C 4 v4 w') (p5 : putV B b C 5 v5 w') (p7 : putV B b C 7 v7 w') :
    ∃ u1 u3 u4 u5 u7, Blk w' b 29 #[.int .i64 m, u1, U.l, u3, u4, u5, U.j, u7, U.a, U.s, U.t] ∧ Lent w' B u1 C.inputs ∧ Lent w' B u3 C.outputs ∧ Lent w' B u4 C.bads ∧ Lent w' B u5 C.constraints ∧ Lent w' B u7 C.fairness := by
  obtain ⟨cs, hb, hs, hk⟩ := hg.box _ hX
  have same : ∀ {cs'}, Blk w' b 29 cs' → cs' = cs := fun {cs'} hb' => by
    have h1 : w'.heap[b]? = some (.cells cs' 29 (0, 0)) := hb'
    have h2 : w'.heap[b]? = some (.cells cs 29 (0, 0)) := hb
    rw [h1] at h2
    injection h2 with h2
    injection h2
  obtain ⟨cs1, u1, e1, a1, z1, y1, l1⟩ := p1
  obtain ⟨cs3, u3, e3, a3, z3, y3, l3⟩ := p3
  obtain ⟨cs4, u4, e4, a4, z4, y4, l4⟩ := p4
  obtain ⟨cs5, u5, e5, a5, z5, y5, l5⟩ := p5
  obtain ⟨cs7, u7, e7, a7, z7, y7, l7⟩ := p7
  have := same e1; subst this
  have := same e3; subst this
  have := same e4; subst this
  have := same e5; subst this
  have := same e7; subst this
  simp [pick5] at y1 y3 y4 y5 y7
  subst y1 y3 y4 y5 y7
  have old : ∀ k, pick5 C k = none → cs7[k]? = (U.cells m)[k]? := fun k hn => by
    rcases hk k with e | ⟨u, _, zs, hz, _⟩
    · exact e
    · rw [hn] at hz; cases hz
  have o0 := old 0 rfl
  have o2 := old 2 rfl
  have o6 := old 6 rfl
  have o8 := old 8 rfl
  have o9 := old 9 rfl
  have o10 := old 10 rfl
  have hcs : cs7 = #[.int .i64 m, u1, U.l, u3, u4, u5, U.j, u7, U.a, U.s, U.t] := by
    apply Array.ext_getElem?
    intro k
    by_cases hk11 : k < 11
    · have : k = 0 ∨ k = 1 ∨ k = 2 ∨ k = 3 ∨ k = 4 ∨ k = 5 ∨ k = 6 ∨ k = 7 ∨ k = 8 ∨ k = 9 ∨ k = 10 := by omega
      rcases this with rfl | rfl | rfl | rfl | rfl | rfl | rfl | rfl | rfl | rfl | rfl
      · exact o0
      · exact a1
      · exact o2
      · exact a3
      · exact a4
      · exact a5
      · exact o6
      · exact a7
      · exact o8
      · exact o9
      · exact o10
    · rw [Array.getElem?_eq_none (by rw [hs]; simp; omega), Array.getElem?_eq_none (by simp; omega)]
  rw [hcs] at hb
  exact ⟨u1, u3, u4, u5, u7, hb, l1, l3, l4, l5, l7⟩
end Go.Proofs.Ytjakckfmdfpekaa
