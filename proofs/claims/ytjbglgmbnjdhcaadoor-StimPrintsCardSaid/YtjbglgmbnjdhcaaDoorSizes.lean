/- The contract of checkSizes: the greatest variable, and how many members there are. -/
import Derived.Test.YtjbglgmbnjdhcaaDoorCirc
import Derived.Laws.Tables
namespace Go.Proofs.YtjbglgmbnjdhcaaDoor
open Go.RowKit

/-- All members of the justice properties together, as they are added up. -/
def sumW (zss : List (List Int)) : Int := zss.foldl (fun s zs => wrap64 (s + (zs.length : Int))) 0
/-- The numbers that are looked at. -/
def sizesL (C : Circ) : List Int := [(C.inputs.length : Int), C.latches.length, C.outputs.length, C.bads.length, C.constraints.length, C.justice.length, sumW C.justice, C.fairness.length, C.ands.length, C.symbols.length, C.comments.length]
def sizesE (C : Circ) : Int := if C.max < 0 ∨ 16384 < C.max then 1 else if ∃ x ∈ sizesL C, 16384 < x then 2 else 0
theorem sizesE_range {C : Circ} (h : C.max < 0 ∨ 16384 < C.max) : sizesE C = 1 := if_pos h
theorem sizesE_long {C : Circ} (h : ¬ (C.max < 0 ∨ 16384 < C.max)) {x : Int} (hx : x ∈ sizesL C) (hl : 16384 < x) : sizesE C = 2 := by unfold sizesE; rw [if_neg h, if_pos ⟨x, hx, hl⟩]
/-- Where a circuit's list of lists lies. -/
theorem Lists.at_ {w : World} {v : Value} {zss : List (List Int)} (h : Lists w v zss) : ∃ A c, v = .slice A zss.length c ∧ zss.length ≤ maxLen ∧ ∀ (i : Nat) (zs : List Int), zss[i]? = some zs → ∃ b off u, A = some ⟨b, off, none⟩ ∧ b < w.heap.size ∧ w.cell? ⟨b, off + i, none⟩ = some u ∧ RowE 1 encI w u zs := by
  obtain ⟨vs, h1, h2, h3⟩ := h
  have hl := h1.len
  obtain ⟨A, c, rfl, _, _, h6⟩ := h1
  refine ⟨A, c, by rw [h2], by rw [← h2]; exact hl, fun i zs hz => ?_⟩
  have hi : i < vs.length := by rw [h2]; exact (List.getElem?_eq_some_iff.1 hz).1
  obtain ⟨b, off, e, hb, hc⟩ := h6 i _ (List.getElem?_eq_getElem hi)
  have := hc 0 _ rfl
  simp only [Nat.add_zero, Nat.mul_one] at this
  exact ⟨b, off, _, e, hb, this, h3 i _ zs (List.getElem?_eq_getElem hi) hz⟩

end Go.Proofs.YtjbglgmbnjdhcaaDoor
