/- Sim: the contracts of the calls Starts: the program's and the document's. -/
import Derived.Test.YtfbnhkndlohalaaSimE
namespace Go.Proofs.Ytfbnhkndlohalaa
open Go.RowKit

def startE (C : Circ) (st : List Bool) : Int := if (checkR C).2 = 0 then (if st.length = C.latches.length then 0 else 4) else (checkR C).2
def startB (C : Circ) (st : List Bool) : Bool := decide (startE C st = 0) && startsF C st
def startP (p : Tri × Bool) : Bool := decide (p.1.2.2 = p.1.1) || (p.2 == decide (p.1.2.2 = 1))
theorem startsF_eq (C : Circ) (st : List Bool) : startsF C st = (C.latches.zip st).all startP := rfl
theorem start_snoc {C : Circ} {st : List Bool} {q : Nat} {z : Tri} {y : Bool} (hz : C.latches[q]? = some z) (hy : st[q]? = some y) : (C.latches.zip st).take (q + 1) = (C.latches.zip st).take q ++ [(z, y)] := by
  have : (C.latches.zip st)[q]? = some (z, y) := by rw [List.getElem?_zip_eq_some]; exact ⟨hz, hy⟩
  rw [List.take_add_one, this]; rfl
theorem start_mem {C : Circ} {st : List Bool} {q : Nat} {z : Tri} {y : Bool} (hz : C.latches[q]? = some z) (hy : st[q]? = some y) : (z, y) ∈ C.latches.zip st := by
  have : (C.latches.zip st)[q]? = some (z, y) := by rw [List.getElem?_zip_eq_some]; exact ⟨hz, hy⟩
  exact List.mem_of_getElem? this
theorem start_no {C : Circ} {st : List Bool} {q : Nat} {z : Tri} {y : Bool} (hz : C.latches[q]? = some z) (hy : st[q]? = some y) (h : startP (z, y) = false) : startsF C st = false := by
  rw [startsF_eq, List.all_eq_false]
  exact ⟨(z, y), start_mem hz hy, by rw [h]; decide⟩
theorem start_yes {C : Circ} {st : List Bool} {q : Nat} {z : Tri} {y : Bool} (hz : C.latches[q]? = some z) (hy : st[q]? = some y) (h : startP (z, y) = true) (ha : ((C.latches.zip st).take q).all startP = true) : ((C.latches.zip st).take (q + 1)).all startP = true := by
  rw [start_snoc hz hy, List.all_append, ha]; simp [h]
theorem start_end {C : Circ} {st : List Bool} {n : Nat} (hn : C.latches.length = n) (ha : ((C.latches.zip st).take n).all startP = true) : startsF C st = true := by
  rw [List.take_of_length_le (by rw [List.length_zip]; omega)] at ha
  rw [startsF_eq]; exact ha
theorem startE_bad {C : Circ} {st : List Bool} (h : (checkR C).2 ≠ 0) : startE C st = (checkR C).2 := by unfold startE; rw [if_neg h]
theorem startE_not {C : Circ} {st : List Bool} (h : (checkR C).2 = 0) (h1 : st.length ≠ C.latches.length) : startE C st = 4 := by unfold startE; rw [if_pos h, if_neg h1]
theorem startE_ok {C : Circ} {st : List Bool} (h : (checkR C).2 = 0) (h1 : st.length = C.latches.length) : startE C st = 0 := by unfold startE; rw [if_pos h, if_pos h1]
theorem startB_not {C : Circ} {st : List Bool} (h : startE C st ≠ 0) : startB C st = false := by unfold startB; rw [decide_eq_false h]; rfl
theorem startB_ok {C : Circ} {st : List Bool} (h : startE C st = 0) : startB C st = startsF C st := by unfold startB; rw [decide_eq_true h]; rfl
theorem two_ret {a b : Bool} {x y : Int} (h : a = b) (h2 : x = y) : Ending.returned (.tuple #[.bool a, .int .i64 x]) = .returned (.tuple #[.bool b, .int .i64 y]) := by rw [h, h2]

end Go.Proofs.Ytfbnhkndlohalaa

namespace Go.Proofs.Ytfbnhkndlohalaa
open Go.RowKit

end Go.Proofs.Ytfbnhkndlohalaa
