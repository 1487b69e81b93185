/- The contract of the statements' own LendCircuit: a copy of a circuit whose lists have one thing more behind their ends. -/
import Derived.Test.YtdodhbfplglbkaaAppF
import Derived.Deep.DeepCutAuto
import Derived.Deep.RegionHeld3
namespace Go.Proofs.Ytdodhbfplglbkaa
open Go.RowKit

/-- New lists of a circuit's members, the justice's own lists among them. -/
structure CopB (w : World) (B : Nat) (C : Circ) (us : List Value) (V : CV) : Prop where
  i : w.ownsRow B 3 1 V.i C.inputs.length (C.inputs.flatMap encI)
  l : w.ownsRow B 70 3 V.l C.latches.length (C.latches.flatMap encT)
  o : w.ownsRow B 3 1 V.o C.outputs.length (C.outputs.flatMap encI)
  b : w.ownsRow B 3 1 V.b C.bads.length (C.bads.flatMap encI)
  c : w.ownsRow B 3 1 V.c C.constraints.length (C.constraints.flatMap encI)
  j : JRow w B V.j us C.justice
  f : w.ownsRow B 3 1 V.f C.fairness.length (C.fairness.flatMap encI)
  a : w.ownsRow B 68 3 V.a C.ands.length (C.ands.flatMap encT)
  s : w.ownsRow B 155 3 V.s C.symbols.length (C.symbols.flatMap encS)
  t : w.ownsRow B 9 1 V.t C.comments.length (C.comments.flatMap encB)
theorem CopB.below {w w' : World} {B : Nat} {C : Circ} {us : List Value} {V : CV} (h : CopB w B C us V) (hb : Below w.heap.size w w') : CopB w' B C us V :=
  ⟨own_below h.i hb, own_below h.l hb, own_below h.o hb, own_below h.b hb, own_below h.c hb, h.j.below hb, own_below h.f hb, own_below h.a hb, own_below h.s hb, own_below h.t hb⟩
end Go.Proofs.Ytdodhbfplglbkaa

namespace Go.Proofs.Ytdodhbfplglbkaa
open Go.RowKit

def pick5 (C : Circ) (k : Nat) : Option (List Int) := if k = 1 then some C.inputs else if k = 3 then some C.outputs else if k = 4 then some C.bads else if k = 5 then some C.constraints else if k = 7 then some C.fairness else none
def GoodC (w : World) (B : Nat) (C : Circ) (k : Nat) (u : Value) : Prop := ∃ zs, pick5 C k = some zs ∧ Lent w B u zs
/-- From one world to another: but for the box nothing turns, and in the box what turns is a list that was lent. -/
structure StoG (B b : Nat) (C : Circ) (w1 w2 : World) : Prop where
  grown : w1.grownBy w2 (some b)
  box : ∀ cs, Blk w1 b 29 cs → ∃ cs', Blk w2 b 29 cs' ∧ cs'.size = cs.size ∧ ∀ k, cs'[k]? = cs[k]? ∨ ∃ u, cs'[k]? = some u ∧ GoodC w2 B C k u
theorem lent_on {w1 w2 : World} {B b : Nat} {v : Value} {zs : List Int} {cs : Array Value} (h : Lent w1 B v zs) (hb : Blk w1 b 29 cs) (hg : w1.grownBy w2 (some b)) : Lent w2 B v zs := by
  obtain ⟨g, cap, cur, rfl, hB, hgg, h⟩ := h
  have hne : g ≠ b := fun e => by
    subst e
    have h2 : w1.heap[g]? = some (.cells cs 29 (0, 0)) := hb
    rw [hgg] at h2
    injection h2 with h2
    injection h2 with _ h2 _
    exact absurd h2 (by decide)
  exact ⟨g, cap, cur, rfl, hB, (hg.block g (Array.getElem?_eq_some_iff.1 hgg).1 (fun e => hne (by injection e))).trans hgg, h⟩
theorem StoG.refl (B b : Nat) (C : Circ) (w : World) : StoG B b C w w := ⟨World.grownBy.refl w _, fun cs h => ⟨cs, h, rfl, fun _k => .inl rfl⟩⟩
theorem grown_transB {w1 w2 w3 : World} {b : Nat} (h1 : w1.grownBy w2 (some b)) (h2 : w2.grownBy w3 (some b)) : w1.grownBy w3 (some b) :=
  ⟨h2.os.trans h1.os, h2.tape.trans h1.tape, h2.output.trans h1.output, Nat.le_trans h1.size h2.size, fun k hk hne => (h2.block k (Nat.lt_of_lt_of_le hk h1.size) hne).trans (h1.block k hk hne)⟩
theorem StoG.trans {B b : Nat} {C : Circ} {w1 w2 w3 : World} (h1 : StoG B b C w1 w2) (h2 : StoG B b C w2 w3) : StoG B b C w1 w3 := by
  refine ⟨grown_transB h1.grown h2.grown, fun cs hcs => ?_⟩
  obtain ⟨cs', a1, a2, a3⟩ := h1.box cs hcs
  obtain ⟨cs'', c1, c2, c3⟩ := h2.box cs' a1
  refine ⟨cs'', c1, c2.trans a2, fun k => ?_⟩
  rcases c3 k with e | e
  · rcases a3 k with e' | ⟨u, e', zs, hz, hl⟩
    · exact .inl (e.trans e')
    · exact .inr ⟨u, e.trans e', zs, hz, lent_on hl a1 h2.grown⟩
  · exact .inr e
theorem StoG.below {B b : Nat} {C : Circ} {w1 w2 : World} (h : Below w1.heap.size w1 w2) : StoG B b C w1 w2 :=
  ⟨⟨h.os, h.tape, h.output, h.size, fun k hk _ => h.block k hk⟩, fun cs hcs => ⟨cs, hcs.below h hcs.lt, rfl, fun _ => .inl rfl⟩⟩
/-- v is a list zs of the call's own, with one thing (-77, 0, 0) behind its end. -/
def LentT (w : World) (B : Nat) (t : TypeId) (v : Value) (zs : List Tri) : Prop :=
  ∃ g cap cur, v = .slice (some ⟨g, 0, none⟩) zs.length cap ∧ B ≤ g ∧ w.heap[g]? = some (.cells cur t (0, 0)) ∧ zs.length + 1 ≤ cap ∧ cap ≤ maxLen ∧ cur.size = cap * 3 ∧ cur.toList.take ((zs.length + 1) * 3) = zs.flatMap encT ++ [.int .i64 (-77), .int .i64 0, .int .i64 0]
theorem LentT.below {w w' : World} {B : Nat} {t : TypeId} {v : Value} {zs : List Tri} (h : LentT w B t v zs) (hb : Below w.heap.size w w') : LentT w' B t v zs := by
  obtain ⟨g, cap, cur, rfl, hB, hg, h⟩ := h
  exact ⟨g, cap, cur, rfl, hB, (hb.block g (Array.getElem?_eq_some_iff.1 hg).1).trans hg, h⟩
theorem LentT.reads {w : World} {B : Nat} {t : TypeId} {v : Value} {zs : List Tri} (h : LentT w B t v zs) : RowE 3 encT w v zs := by
  obtain ⟨g, cap, cur, rfl, hb, hg, h1, h2, h3, h4⟩ := h
  refine ⟨_, cap, rfl, by omega, h2, fun i z hz => ⟨g, 0, rfl, (Array.getElem?_eq_some_iff.1 hg).1, fun j u hu => ?_⟩⟩
  have hi : i < zs.length := (List.getElem?_eq_some_iff.1 hz).1
  have hj : j < 3 := by have := (List.getElem?_eq_some_iff.1 hu).1; simpa using this
  have hl : (zs.flatMap encT).length = zs.length * 3 := flat_len lenT zs
  have e : cur.toList[i * 3 + j]? = (zs.flatMap encT ++ [Value.int .i64 (-77), .int .i64 0, .int .i64 0])[i * 3 + j]? := by rw [← h4, List.getElem?_take, if_pos (by omega)]
  rw [Nat.zero_add, cell_of_row w g _ cur _ _ hg, ← Array.getElem?_toList, e, List.getElem?_append_left (by omega), flat_get lenT zs i z hz j hj]
  exact hu
/-- A circuit that was lent. -/
structure LentC (w : World) (B : Nat) (C : Circ) (us : List Value) (V : CV) : Prop where
  i : Lent w B V.i C.inputs
  l : LentT w B 70 V.l C.latches
  o : Lent w B V.o C.outputs
  b : Lent w B V.b C.bads
  c : Lent w B V.c C.constraints
  j : JRow w B V.j us C.justice
  f : Lent w B V.f C.fairness
  a : LentT w B 68 V.a C.ands
  s : w.ownsRow B 155 3 V.s C.symbols.length (C.symbols.flatMap encS)
  t : w.ownsRow B 9 1 V.t C.comments.length (C.comments.flatMap encB)
theorem LentC.below {w w' : World} {B : Nat} {C : Circ} {us : List Value} {V : CV} (h : LentC w B C us V) (hb : Below w.heap.size w w') : LentC w' B C us V :=
  ⟨h.i.below hb, h.l.below hb, h.o.below hb, h.b.below hb, h.c.below hb, h.j.below hb, h.f.below hb, h.a.below hb, own_below h.s hb, own_below h.t hb⟩
end Go.Proofs.Ytdodhbfplglbkaa

namespace Go.Proofs.Ytdodhbfplglbkaa
open Go.RowKit

/-- One world keeps what another had, but for blocks of one type. -/
structure KeepBut (ty : TypeId) (wx wy : World) : Prop where
  os : wy.os = wx.os
  tape : wy.tape = wx.tape
  output : wy.output = wx.output
  size : wx.heap.size ≤ wy.heap.size
  blk : ∀ k, k < wx.heap.size → (∀ cs, ¬ Blk wx k ty cs) → wy.heap[k]? = wx.heap[k]?
section
variable {ty : TypeId} {wx wy : World}
theorem KeepBut.blk_ (h : KeepBut ty wx wy) {k : Nat} {t : TypeId} {cs : Array Value} (hb : Blk wx k t cs) (hne : t ≠ ty) : Blk wy k t cs :=
  (h.blk k hb.lt (fun _cs' hb' => hb.ne_ hb' hne rfl)).trans hb
theorem KeepBut.own (h : KeepBut ty wx wy) {B n k : Nat} {t : TypeId} {v : Value} {xs : List Value} (ho : wx.ownsRow B t k v n xs) (hne : t ≠ ty) : wy.ownsRow B t k v n xs :=
  own_of_block ho fun g hg => h.blk g (ho.lt g hg).2 (fun _cs hb => own_blk_ne ho hb hne hg)
theorem KeepBut.trans {wz : World} (h : KeepBut ty wx wy) (h2 : KeepBut ty wy wz) (hb : ∀ k cs, k < wx.heap.size → Blk wy k ty cs → ∃ cs', Blk wx k ty cs') : KeepBut ty wx wz :=
  ⟨h2.os.trans h.os, h2.tape.trans h.tape, h2.output.trans h.output, Nat.le_trans h.size h2.size, fun k hk hn => (h2.blk k (Nat.lt_of_lt_of_le hk h.size) (fun cs hc => by
    obtain ⟨cs', h'⟩ := hb k cs hk hc
    exact hn cs' h')).trans (h.blk k hk hn)⟩
end
end Go.Proofs.Ytdodhbfplglbkaa

namespace Go.Proofs.Ytdodhbfplglbkaa
open Go.RowKit

end Go.Proofs.Ytdodhbfplglbkaa
