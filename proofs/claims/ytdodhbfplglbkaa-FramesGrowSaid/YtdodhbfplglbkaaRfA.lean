/- The document's own Check, first part: sizes, what is defined, what is used: each answers what the program's answers. -/
import Derived.Test.YtdodhbfplglbkaaSizes
import Derived.Test.YtdodhbfplglbkaaUsed
namespace Go.Proofs.Ytdodhbfplglbkaa
open Go.RowKit

end Go.Proofs.Ytdodhbfplglbkaa

namespace Go.Proofs.Ytdodhbfplglbkaa
open Go.RowKit

theorem rbox_of {w' : World} {b : Nat} {m : Int} {Vi Vl Vo Vb Vc Vj Vf Va Vs Vt : Value} (h : Blk w' b 29 #[.int .i64 m, Vi, Vl, Vo, Vb, Vc, Vj, Vf, Va, Vs, Vt]) :
    w'.cell? ⟨b, 0, none⟩ = some (.int .i64 m) ∧ w'.cell? ⟨b, 1, none⟩ = some Vi ∧ w'.cell? ⟨b, 2, none⟩ = some Vl ∧ w'.cell? ⟨b, 3, none⟩ = some Vo ∧ w'.cell? ⟨b, 4, none⟩ = some Vb ∧ w'.cell? ⟨b, 5, none⟩ = some Vc ∧ w'.cell? ⟨b, 6, none⟩ = some Vj ∧ w'.cell? ⟨b, 7, none⟩ = some Vf ∧ w'.cell? ⟨b, 8, none⟩ = some Va ∧ w'.cell? ⟨b, 9, none⟩ = some Vs ∧ w'.cell? ⟨b, 10, none⟩ = some Vt :=
  ⟨h.cell 0, h.cell 1, h.cell 2, h.cell 3, h.cell 4, h.cell 5, h.cell 6, h.cell 7, h.cell 8, h.cell 9, h.cell 10⟩


theorem Mid.drew {w0 w : World} {bx g : Nat} {cs : Array Value} {tb : List Bool} (h : Mid w0 w bx g cs tb) : Mid w0 w.drew bx g cs tb := ⟨h.below.drew, h.box.drew, Blk.drew h.tab⟩
theorem Mid.on {w0 w w' : World} {bx g : Nat} {cs : Array Value} {tb : List Bool} (h : Mid w0 w bx g cs tb) (hb : Below w.heap.size w w') : Mid w0 w' bx g cs tb :=
  ⟨h.below.trans (hb.mono h.below.size), h.box.below hb h.box.lt, Blk.below h.tab hb (Blk.lt h.tab)⟩
end Go.Proofs.Ytdodhbfplglbkaa
