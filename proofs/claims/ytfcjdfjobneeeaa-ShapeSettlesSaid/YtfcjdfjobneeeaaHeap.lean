/- The contracts of package heap over the row of numbers. -/
import Derived.Test.YtfcjdfjobneeeaaOrdP
import Derived.BigRegion
import Derived.OwnWalk
namespace Go.Proofs.Ytfcjdfjobneeeaa
open Go.RowKit

/-- A block that holds a row of numbers: the row's own reading, for stores and loads. -/
theorem own_cells {w : World} {B : Nat} {v : Value} {xs : List Int} (h : w.ownsRow B 3 1 v xs.length (xs.map (Value.int .i64))) (hn : 0 < xs.length) :
    ∃ g cap, v = .slice (some ⟨g, 0, none⟩) xs.length cap ∧ B ≤ g ∧ xs.length ≤ cap ∧ cap ≤ maxLen ∧ g < w.heap.size ∧ (∀ k, k < xs.length → w.cell? ⟨g, k, none⟩ = some (.int .i64 (xs.getD k 0))) ∧ (∀ k, w.frozen? ⟨g, k, none⟩ = false) ∧
      (∀ k, k < xs.length → ∀ x : Int, (w.setCell ⟨g, k, none⟩ (.int .i64 x)).ownsRow B 3 1 v xs.length ((xs.set k x).map (Value.int .i64))) := by
  obtain ⟨g, cap, cur, rfl, hB, hb, h1, h2, h3, h4⟩ := own_some h hn
  refine ⟨g, cap, rfl, hB, h1, h2, hb.lt, fun k hk => ?_, fun k => hb.frozen k, fun k hk x => ?_⟩
  · rw [hb.cell]
    have : (cur.toList.take xs.length)[k]? = (xs.map (Value.int .i64))[k]? := by rw [h4]
    rw [List.getElem?_take, if_pos hk, Array.getElem?_toList, List.getElem?_map, getD_some hk (d := 0)] at this
    simpa using this
  · refine ⟨by simp, .inr ⟨g, cap, cur.setIfInBounds k (.int .i64 x), rfl, hB, Blk.set_ hb k _, h1, h2, by simpa using h3, ?_⟩⟩
    rw [Array.toList_setIfInBounds, List.map_set, ← h4]
    simp [List.take_set]

set_option maxHeartbeats 1000000 in
set_option maxRecDepth 100000 in
theorem Len_any (w : World) (A : Option Addr) (n c : Nat) :
    Calls Try.prog 81 #[.slice A n c] w fun e w' => e = .returned (.int .i64 n) ∧ w' = w := by
  go_enter Try.func81, Try.ntmps81
  go_wp2
  go_ret
  exact ⟨rfl, rfl⟩

set_option maxHeartbeats 1000000 in
set_option maxRecDepth 100000 in
theorem Less_any (w : World) (g n c i j : Nat) (x y : Int) (hi : (i : Int) < (n : Int)) (hj : (j : Int) < (n : Int)) (hn : n ≤ 100000) (hx : w.cell? ⟨g, i, none⟩ = some (.int .i64 x)) (hy : w.cell? ⟨g, j, none⟩ = some (.int .i64 y)) :
    Calls Try.prog 112 #[.slice (some ⟨g, 0, none⟩) n c, .int .i64 i, .int .i64 j] w fun e w' => e = .returned (.bool (decide (x < y))) ∧ ∃ k, w' = w.drewN k := by
  go_enter Try.func112, Try.ntmps112
  go_wp2
  go_quiet (fail)
  go_wp2
  go_ret
  exact ⟨rfl, _, rfl⟩

set_option maxHeartbeats 1000000 in
set_option maxRecDepth 100000 in
theorem Swap_any (w : World) (g n c i j : Nat) (x y : Int) (hi : (i : Int) < (n : Int)) (hj : (j : Int) < (n : Int)) (hn : n ≤ 100000) (hx : w.cell? ⟨g, i, none⟩ = some (.int .i64 x)) (hy : w.cell? ⟨g, j, none⟩ = some (.int .i64 y)) (fi : w.frozen? ⟨g, i, none⟩ = false) (fj : w.frozen? ⟨g, j, none⟩ = false) :
    Calls Try.prog 116 #[.slice (some ⟨g, 0, none⟩) n c, .int .i64 i, .int .i64 j] w fun e w' => e = .returned (.tuple #[]) ∧ ∃ k, w' = ((w.setCell ⟨g, i, none⟩ (.int .i64 y)).setCell ⟨g, j, none⟩ (.int .i64 x)).drewN k := by
  obtain ⟨z, hz⟩ : ∃ z, (w.setCell ⟨g, i, none⟩ (.int .i64 y)).cell? ⟨g, j, none⟩ = some z := by
    by_cases e : i = j
    · subst e
      exact ⟨_, World.cell?_setCell_same w ⟨g, i, none⟩ (.int .i64 y) hx⟩
    · exact ⟨_, (World.cell?_setCell_other w _ _ _ (by intro h; injection h; omega)).trans hy⟩
  have fz : (w.setCell ⟨g, i, none⟩ (.int .i64 y)).frozen? ⟨g, j, none⟩ = false := by rw [World.frozen?_setCell]; exact fj
  go_enter Try.func116, Try.ntmps116
  go_wp2
  go_region
  go_wp2
  go_end0
  exact ⟨rfl, _, rfl⟩
end Go.Proofs.Ytfcjdfjobneeeaa
