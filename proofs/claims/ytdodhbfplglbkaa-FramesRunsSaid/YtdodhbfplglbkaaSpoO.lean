/- The contracts of SpoilBools and SameBools. -/
import Derived.Test.YtdodhbfplglbkaaAppF
import Derived.Test.YtdodhbfplglbkaaSimB
namespace Go.Proofs.Ytdodhbfplglbkaa
open Go.RowKit

/-- The first n cells of block g hold truths; nothing else is said of them. -/
def BoolBlk (w : World) (g n cap : Nat) : Prop := ∃ cur : Array Value, w.heap[g]? = some (.cells cur 4 (0, 0)) ∧ cur.size = cap ∧ ∀ i, i < n → ∃ b, cur[i]? = some (.bool b)
theorem BoolBlk.at_ {w : World} {g n cap : Nat} (h : BoolBlk w g n cap) (i : Nat) (hi : i < n) : ∃ b, w.cell? ⟨g, i, none⟩ = some (.bool b) := by
  obtain ⟨cur, hg, _, hb⟩ := h
  obtain ⟨b, hb⟩ := hb i hi
  exact ⟨b, by rw [cell_of_row w g _ cur _ _ hg, hb]⟩
theorem BoolBlk.free {w : World} {g n cap : Nat} (h : BoolBlk w g n cap) (i : Nat) : w.frozen? ⟨g, i, none⟩ = false := by
  obtain ⟨cur, hg, _⟩ := h
  exact Blk.frozen hg i
theorem BoolBlk.set_ {w : World} {g n cap : Nat} (h : BoolBlk w g n cap) (i : Nat) (x : Bool) : BoolBlk (w.setCell ⟨g, i, none⟩ (.bool x)) g n cap := by
  obtain ⟨cur, hg, hs, hb⟩ := h
  refine ⟨_, Blk.set_ hg i _, by simpa using hs, fun k hk => ?_⟩
  obtain ⟨b, hb⟩ := hb k hk
  have hlt := (Array.getElem?_eq_some_iff.1 hb).1
  by_cases e : i = k
  · subst e; exact ⟨x, by simp [hlt]⟩
  · exact ⟨b, by simp [e, hb]⟩
end Go.Proofs.Ytdodhbfplglbkaa
