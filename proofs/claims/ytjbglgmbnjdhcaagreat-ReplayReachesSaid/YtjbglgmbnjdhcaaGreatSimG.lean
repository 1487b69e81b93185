import Derived.Test.YtjbglgmbnjdhcaaGreatSimE
namespace Go.Proofs.YtjbglgmbnjdhcaaGreat
open Go.RowKit

def startP (p : Tri × Bool) : Bool := decide (p.1.2.2 = p.1.1) || (p.2 == decide (p.1.2.2 = 1))
theorem start_snoc {C : Circ} {st : List Bool} {q : Nat} {z : Tri} {y : Bool} (hz : C.latches[q]? = some z) (hy : st[q]? = some y) : (C.latches.zip st).take (q + 1) = (C.latches.zip st).take q ++ [(z,y)] := by
 have : (C.latches.zip st)[q]? = some (z,y):=by rw [List.getElem?_zip_eq_some]; exact ⟨hz,hy⟩
 rw [List.take_add_one,this]; rfl
theorem start_yes {C : Circ} {st : List Bool} {q : Nat} {z : Tri} {y : Bool} (hz : C.latches[q]? = some z) (hy : st[q]? = some y) (h : startP (z,y) = true) (ha : ((C.latches.zip st).take q).all startP = true) : ((C.latches.zip st).take (q + 1)).all startP = true := by
 rw [start_snoc hz hy,List.all_append,ha]; simp [h]
open Go.RowKit

end Go.Proofs.YtjbglgmbnjdhcaaGreat
