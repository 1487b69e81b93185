/- Tern: the contract of the document's Lift. -/
import Derived.Test.YtbeaicmjohlboabDoorTrnB
import Derived.Test.YtbeaicmjohlboabDoorTrnH
namespace Go.Proofs.YtbeaicmjohlboabDoor
open Go.RowKit

end Go.Proofs.YtbeaicmjohlboabDoor

namespace Go.Proofs.YtbeaicmjohlboabDoor
open Go.RowKit

theorem own_set1U {w : World} {B n cap g q : Nat} {t : TypeId} {xs : List Value} (h : w.ownsRow B t 1 (.slice (some ⟨g, 0, none⟩) n cap) n xs) (hq : q < n) (u : Value) :
    B ≤ g ∧ (∃ cs, Blk w g t cs) ∧ (∀ i, w.frozen? ⟨g, i, none⟩ = false) ∧ w.cell? ⟨g, q, none⟩ = xs[q]? ∧ (w.setCell ⟨g, q, none⟩ u).ownsRow B t 1 (.slice (some ⟨g, 0, none⟩) n cap) n (xs.set q u) := by
  have hl := h.1
  rcases h.2 with ⟨hv, hn0⟩ | ⟨g', cap', cur, hv, hB, hh, h1, h2, h3, h4⟩
  · omega
  · injection hv with e1 e2 e3
    injection e1 with e1
    injection e1 with e1
    subst e1 e3
    have hb : Blk w g t cur := hh
    refine ⟨hB, ⟨cur, hb⟩, fun i => hb.frozen i, ?_, by simpa using hl, .inr ⟨g, cap, cur.setIfInBounds q u, rfl, hB, Blk.set_ hb q u, h1, h2, by simpa using h3, ?_⟩⟩
    · rw [hb.cell, ← h4, List.getElem?_take, if_pos (by omega), Array.getElem?_toList]
    · rw [Array.toList_setIfInBounds, ← h4, List.take_set]

end Go.Proofs.YtbeaicmjohlboabDoor
