/- An append onto an empty list that was just written down: new memory, nothing that was there turns; lists of lists, copied. -/
import Derived.Test.YtjbglgmbnjdhcaaDoorCopyR
import Derived.Test.YtjbglgmbnjdhcaaDoorCopy
import Derived.Test.YtjbglgmbnjdhcaaDoorSame3
namespace Go.Proofs.YtjbglgmbnjdhcaaDoor
open Go.RowKit

abbrev ints (zs : List Int) : List Value := zs.map (Value.int .i64)

abbrev Ints (w : World) (v : Value) (zs : List Int) : Prop := RowE 1 encI w v zs
theorem Ints.reads {w : World} {v : Value} {zs : List Int} (h : Ints w v zs) : ∃ A c, v = .slice A zs.length c ∧ Reads w w.heap.size 1 A zs.length (ints zs) := by
  obtain ⟨A, c, e, hr⟩ := RowE.reads lenI (by omega) h
  rw [flat_ints] at hr
  exact ⟨A, c, e, hr⟩
/-- v is a list zs of the call's own (in block g), with -77 behind its end. -/
def Lent (w : World) (B : Nat) (v : Value) (zs : List Int) : Prop :=
  ∃ g cap cur, v = .slice (some ⟨g, 0, none⟩) zs.length cap ∧ B ≤ g ∧ w.heap[g]? = some (.cells cur 3 (0, 0)) ∧ zs.length + 1 ≤ cap ∧ cap ≤ maxLen ∧ cur.size = cap ∧ cur.toList.take (zs.length + 1) = ints zs ++ [.int .i64 (-77)]

theorem Lent.reads {w : World} {B : Nat} {v : Value} {zs : List Int} (h : Lent w B v zs) : Ints w v zs := by
  obtain ⟨g, cap, cur, rfl, hb, hg, h1, h2, h3, h4⟩ := h
  refine ⟨_, cap, rfl, by omega, h2, fun i z hz => ⟨g, 0, rfl, (Array.getElem?_eq_some_iff.1 hg).1, fun j u hu => ?_⟩⟩
  have hi : i < zs.length := (List.getElem?_eq_some_iff.1 hz).1
  have hj : j = 0 := by have := (List.getElem?_eq_some_iff.1 hu).1; simp at this; exact this
  subst hj
  have e : cur.toList[i]? = (ints zs ++ [.int .i64 (-77)])[i]? := by rw [← h4, List.getElem?_take, if_pos (by omega)]
  rw [Nat.zero_add, Nat.mul_one, Nat.add_zero, cell_of_row w g _ cur _ _ hg, ← Array.getElem?_toList, e, List.getElem?_append_left (by simpa using hi), ← hu]
  simp [hz]
theorem Lent.below {w w' : World} {B : Nat} {v : Value} {zs : List Int} (h : Lent w B v zs) (hb : Below w.heap.size w w') : Lent w' B v zs := by
  obtain ⟨g, cap, cur, rfl, hB, hg, h⟩ := h
  exact ⟨g, cap, cur, rfl, hB, (hb.block g (Array.getElem?_eq_some_iff.1 hg).1).trans hg, h⟩

/-- All cells of block g hold some int; nothing else is said of them. -/
def IntBlk (w : World) (g cap : Nat) : Prop := ∃ cur : Array Value, w.heap[g]? = some (.cells cur 3 (0, 0)) ∧ cur.size = cap

theorem IntBlk.at_ {w : World} {g cap : Nat} (h : IntBlk w g cap) (i : Nat) (hi : i < cap) : ∃ u, w.cell? ⟨g, i, none⟩ = some u := by
  obtain ⟨cur, hg, hs⟩ := h
  exact ⟨_, by rw [cell_of_row w g _ cur _ _ hg, Array.getElem?_eq_getElem (by omega)]⟩
theorem IntBlk.free {w : World} {g cap : Nat} (h : IntBlk w g cap) (i : Nat) : w.frozen? ⟨g, i, none⟩ = false := by
  obtain ⟨cur, hg, hs⟩ := h
  exact Blk.frozen hg i
theorem IntBlk.set_ {w : World} {g cap : Nat} (h : IntBlk w g cap) (i : Nat) (u : Value) : IntBlk (w.setCell ⟨g, i, none⟩ u) g cap := by
  obtain ⟨cur, hg, hs⟩ := h
  exact ⟨_, Blk.set_ hg i u, by simpa using hs⟩
theorem only_setL {w wr : World} {g : Nat} (h : w.grownBy wr (some g)) (i : Nat) (u : Value) : w.grownBy (wr.setCell ⟨g, i, none⟩ u) (some g) :=
  ⟨h.os, h.tape, h.output, by simpa [World.setCell] using h.size, fun k hk hne => (Below.heap_setCell _ _ _ _ (by intro e; exact hne (by rw [e]))).trans (h.block k hk hne)⟩
end Go.Proofs.YtjbglgmbnjdhcaaDoor

namespace Go.Proofs.YtjbglgmbnjdhcaaDoor
open Go.RowKit

end Go.Proofs.YtjbglgmbnjdhcaaDoor
