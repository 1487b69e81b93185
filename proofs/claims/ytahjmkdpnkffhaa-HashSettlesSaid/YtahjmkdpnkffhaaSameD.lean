/- Whether two circuits are the same: the contract of the statements' helper. -/
import Derived.Test.YtahjmkdpnkffhaaSame3
import Derived.Test.YtahjmkdpnkffhaaSizes
import Derived.Deep.DeepCutAuto
import Derived.Deep.RegionWith
namespace Go.Proofs.Ytahjmkdpnkffhaa
open Go.RowKit

end Go.Proofs.Ytahjmkdpnkffhaa

namespace Go.Proofs.Ytahjmkdpnkffhaa
open Go.RowKit

theorem two_boxes {w w' : World} {m m' : Int} {Vi Vl Vo Vb Vc Vj Vf Va Vs Vt Ui Ul Uo Ub Uc Uj Uf Ua Us Ut : Value} (hb : Below ((w.alloc (.cells #[.int .i64 m, Vi, Vl, Vo, Vb, Vc, Vj, Vf, Va, Vs, Vt] 51)).alloc (.cells #[.int .i64 m', Ui, Ul, Uo, Ub, Uc, Uj, Uf, Ua, Us, Ut] 51)).heap.size ((w.alloc (.cells #[.int .i64 m, Vi, Vl, Vo, Vb, Vc, Vj, Vf, Va, Vs, Vt] 51)).alloc (.cells #[.int .i64 m', Ui, Ul, Uo, Ub, Uc, Uj, Uf, Ua, Us, Ut] 51)) w') :
    w'.cell? ⟨w.heap.size, 0, none⟩ = some (.int .i64 m) ∧ w'.cell? ⟨w.heap.size, 1, none⟩ = some (Vi) ∧ w'.cell? ⟨w.heap.size, 2, none⟩ = some (Vl) ∧ w'.cell? ⟨w.heap.size, 3, none⟩ = some (Vo) ∧ w'.cell? ⟨w.heap.size, 4, none⟩ = some (Vb) ∧ w'.cell? ⟨w.heap.size, 5, none⟩ = some (Vc) ∧ w'.cell? ⟨w.heap.size, 6, none⟩ = some (Vj) ∧ w'.cell? ⟨w.heap.size, 7, none⟩ = some (Vf) ∧ w'.cell? ⟨w.heap.size, 8, none⟩ = some (Va) ∧ w'.cell? ⟨w.heap.size, 9, none⟩ = some (Vs) ∧ w'.cell? ⟨w.heap.size, 10, none⟩ = some (Vt) ∧ w'.cell? ⟨w.heap.size + 1, 0, none⟩ = some (.int .i64 m') ∧ w'.cell? ⟨w.heap.size + 1, 1, none⟩ = some (Ui) ∧ w'.cell? ⟨w.heap.size + 1, 2, none⟩ = some (Ul) ∧ w'.cell? ⟨w.heap.size + 1, 3, none⟩ = some (Uo) ∧ w'.cell? ⟨w.heap.size + 1, 4, none⟩ = some (Ub) ∧ w'.cell? ⟨w.heap.size + 1, 5, none⟩ = some (Uc) ∧ w'.cell? ⟨w.heap.size + 1, 6, none⟩ = some (Uj) ∧ w'.cell? ⟨w.heap.size + 1, 7, none⟩ = some (Uf) ∧ w'.cell? ⟨w.heap.size + 1, 8, none⟩ = some (Ua) ∧ w'.cell? ⟨w.heap.size + 1, 9, none⟩ = some (Us) ∧ w'.cell? ⟨w.heap.size + 1, 10, none⟩ = some (Ut) := by
  have h := ((Blk.new w 51 #[.int .i64 m, Vi, Vl, Vo, Vb, Vc, Vj, Vf, Va, Vs, Vt]).alloc (.cells #[.int .i64 m', Ui, Ul, Uo, Ub, Uc, Uj, Uf, Ua, Us, Ut] 51)).below hb (by simp; omega)
  have g := (Blk.new (w.alloc (.cells #[.int .i64 m, Vi, Vl, Vo, Vb, Vc, Vj, Vf, Va, Vs, Vt] 51)) 51 #[.int .i64 m', Ui, Ul, Uo, Ub, Uc, Uj, Uf, Ua, Us, Ut]).below hb (by simp)
  rw [show (w.alloc (.cells #[.int .i64 m, Vi, Vl, Vo, Vb, Vc, Vj, Vf, Va, Vs, Vt] 51)).heap.size = w.heap.size + 1 by simp] at g
  exact ⟨h.cell 0, h.cell 1, h.cell 2, h.cell 3, h.cell 4, h.cell 5, h.cell 6, h.cell 7, h.cell 8, h.cell 9, h.cell 10, g.cell 0, g.cell 1, g.cell 2, g.cell 3, g.cell 4, g.cell 5, g.cell 6, g.cell 7, g.cell 8, g.cell 9, g.cell 10⟩

/-- It is told whether the two are the same; nothing that was there has turned. -/
def SameAns (A B : Circ) (w : World) (e : Ending) (w' : World) : Prop := ∃ r, e = .returned (.bool r) ∧ (r = true ↔ A = B) ∧ Below w.heap.size w w'
theorem same_ans {A B : Circ} {w w' : World} {e : Ending} (r : Bool) (h1 : e = .returned (.bool r)) (h2 : r = true ↔ A = B) (h3 : Below w.heap.size w w') : SameAns A B w e w' := ⟨r, h1, h2, h3⟩

end Go.Proofs.Ytahjmkdpnkffhaa
