/- An append onto an empty list that was just written down: new memory, nothing that was there turns; lists of lists, copied. -/
import Derived.Test.YtdodhbfplglbkaaCopyR
import Derived.Test.YtdodhbfplglbkaaCopy
import Derived.Test.YtdodhbfplglbkaaSame3
namespace Go.Proofs.Ytdodhbfplglbkaa
open Go.RowKit

abbrev ints (zs : List Int) : List Value := zs.map (Value.int .i64)

abbrev Ints (w : World) (v : Value) (zs : List Int) : Prop := RowE 1 encI w v zs
theorem Ints.reads {w : World} {v : Value} {zs : List Int} (h : Ints w v zs) : ∃ A c, v = .slice A zs.length c ∧ Reads w w.heap.size 1 A zs.length (ints zs) := by
  obtain ⟨A, c, e, hr⟩ := RowE.reads lenI (by omega) h
  rw [flat_ints] at hr
  exact ⟨A, c, e, hr⟩
/-- v is a list zs of the call's own (in block g), with -77 behind its end. -/
def Lent (w : World) (B : Nat) (v : Value) (zs : List Int) : Prop :=
  ∃ g cap cur, v = .slice (some ⟨g, 0, none⟩) zs.length cap ∧ B ≤ g ∧ w.heap[g]? = some (.cells cur 3 (0, 0)) ∧ zs.length + 1 ≤ cap ∧ cap ≤ maxLen ∧ cur.size = cap ∧ cur.toList.take (zs.length + 1) = ints zs ++ [.int .i64 (-77)]

theorem Lent.reads {w : World} {B : Nat} {v : Value} {zs : List Int} (h : Lent w B v zs) : Ints w v zs := by
  obtain ⟨g, cap, cur, rfl, hb, hg, h1, h2, h3, h4⟩ := h
  refine ⟨_, cap, rfl, by omega, h2, fun i z hz => ⟨g, 0, rfl, (Array.getElem?_eq_some_iff.1 hg).1, fun j u hu => ?_⟩⟩
  have hi : i < zs.length := (List.getElem?_eq_some_iff.1 hz).1
  have hj : j = 0 := by have := (List.getElem?_eq_some_iff.1 hu).1; simp at this; exact this
  subst hj
  have e : cur.toList[i]? = (ints zs ++ [.int .i64 (-77)])[i]? := by rw [← h4, List.getElem?_take, if_pos (by omega)]
  rw [Nat.zero_add, Nat.mul_one, Nat.add_zero, cell_of_row w g _ cur _ _ hg, ← Array.getElem?_toList, e, List.getElem?_append_left (by simpa using hi), ← hu]
  simp [hz]
theorem Lent.below {w w' : World} {B : Nat} {v : Value} {zs : List Int} (h : Lent w B v zs) (hb : Below w.heap.size w w') : Lent w' B v zs := by
  obtain ⟨g, cap, cur, rfl, hB, hg, h⟩ := h
  exact ⟨g, cap, cur, rfl, hB, (hb.block g (Array.getElem?_eq_some_iff.1 hg).1).trans hg, h⟩

/-- All cells of block g hold some int; nothing else is said of them. -/
def IntBlk (w : World) (g cap : Nat) : Prop := ∃ cur : Array Value, w.heap[g]? = some (.cells cur 3 (0, 0)) ∧ cur.size = cap

theorem IntBlk.at_ {w : World} {g cap : Nat} (h : IntBlk w g cap) (i : Nat) (hi : i < cap) : ∃ u, w.cell? ⟨g, i, none⟩ = some u := by
  obtain ⟨cur, hg, hs⟩ := h
  exact ⟨_, by rw [cell_of_row w g _ cur _ _ hg, Array.getElem?_eq_getElem (by omega)]⟩
theorem IntBlk.free {w : World} {g cap : Nat} (h : IntBlk w g cap) (i : Nat) : w.frozen? ⟨g, i, none⟩ = false := by
  obtain ⟨cur, hg, hs⟩ := h
  exact Blk.frozen hg i
theorem IntBlk.set_ {w : World} {g cap : Nat} (h : IntBlk w g cap) (i : Nat) (u : Value) : IntBlk (w.setCell ⟨g, i, none⟩ u) g cap := by
  obtain ⟨cur, hg, hs⟩ := h
  exact ⟨_, Blk.set_ hg i u, by simpa using hs⟩
end Go.Proofs.Ytdodhbfplglbkaa

namespace Go.Proofs.Ytdodhbfplglbkaa
open Go.RowKit

/-- A list of lists that a call has made: us are the values of its lists. -/
structure JRow (w : World) (B : Nat) (v : Value) (us : List Value) (zss : List (List Int)) : Prop where
  ul : us.length = zss.length
  own : w.ownsRow B 22 1 v us.length us
  each : ∀ (i : Nat) (u : Value) (zs : List Int), us[i]? = some u → zss[i]? = some zs → w.ownsRow B 3 1 u zs.length (zs.flatMap encI)
theorem JRow.below {w w' : World} {B : Nat} {v : Value} {us : List Value} {zss : List (List Int)} (h : JRow w B v us zss) (hb : Below w.heap.size w w') : JRow w' B v us zss :=
  ⟨h.ul, own_below h.own hb, fun i u zs hu hz => own_below (h.each i u zs hu hz) hb⟩
theorem JRow.base {w : World} {B B' : Nat} {v : Value} {us : List Value} {zss : List (List Int)} (h : JRow w B v us zss) (hB : B' ≤ B) : JRow w B' v us zss :=
  ⟨h.ul, own_base h.own hB, fun i u zs hu hz => own_base (h.each i u zs hu hz) hB⟩
theorem JRow.lists {w : World} {B : Nat} {v : Value} {us : List Value} {zss : List (List Int)} (h : JRow w B v us zss) : Lists w v zss :=
  ⟨us, own_rowe lenV (by rw [flat_vals]; exact h.own), h.ul, fun i u zs hu hz => own_rowe lenI (h.each i u zs hu hz)⟩
theorem JRow.snoc {w w1 w2 : World} {B : Nat} {v v2 u : Value} {us : List Value} {zss : List (List Int)} {zs : List Int} (h : JRow w B v us (zss.take us.length)) (hz : zss[us.length]? = some zs) (hb : Below w.heap.size w w1) (hBw : B ≤ w.heap.size)
    (hu : w1.ownsRow w.heap.size 3 1 u zs.length (zs.flatMap encI)) (hg : w1.grownBy w2 v.ownBlock) (ho : w2.ownsRow B 22 1 v2 (us.length + 1) (us ++ [u])) : JRow w2 B v2 (us ++ [u]) (zss.take (us.length + 1)) := by
  have hlt : us.length < zss.length := (List.getElem?_eq_some_iff.1 hz).1
  have hown1 := own_below h.own hb
  have keep : ∀ {u' : Value} {n : Nat} {xs : List Value}, w1.ownsRow B 3 1 u' n xs → w2.ownsRow B 3 1 u' n xs := fun hh =>
    own_of_block hh fun k hk => hg.block k (hh.lt k hk).2 (fun e => by
      rcases hown1.2 with ⟨hv, _⟩ | ⟨g, cap, cur, hv, _, hgg, _⟩
      · rw [hv] at e; cases e
      · rw [hv] at e
        have e2 : k = g := by simpa [Value.ownBlock] using e
        exact own_blk_ne hh hgg (by decide) (by rw [hk, e2]))
  refine ⟨by simp; omega, by simpa using ho, fun i u' zs' hu' hz' => ?_⟩
  by_cases hi : i < us.length
  · rw [List.getElem?_append_left hi] at hu'
    rw [List.getElem?_take, if_pos (by omega)] at hz'
    exact keep (own_below (h.each i u' zs' hu' (by rw [List.getElem?_take, if_pos hi]; exact hz')) hb)
  · have : i < (us ++ [u]).length := (List.getElem?_eq_some_iff.1 hu').1
    have hi2 : i = us.length := by simp at this; omega
    subst hi2
    rw [List.getElem?_take, if_pos (by omega), hz] at hz'
    simp at hu' hz'
    subst hu' hz'
    exact keep (own_base hu hBw)
end Go.Proofs.Ytdodhbfplglbkaa
