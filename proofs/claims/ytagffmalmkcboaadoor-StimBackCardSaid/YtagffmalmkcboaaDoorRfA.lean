/- The document's own Check, first part: sizes, what is defined, what is used: each answers what the program's answers. -/
import Derived.Test.YtagffmalmkcboaaDoorSizes
import Derived.Test.YtagffmalmkcboaaDoorUsed
namespace Go.Proofs.YtagffmalmkcboaaDoor
open Go.RowKit

end Go.Proofs.YtagffmalmkcboaaDoor

namespace Go.Proofs.YtagffmalmkcboaaDoor
open Go.RowKit

theorem Mid.drew {w0 w : World} {bx g : Nat} {cs : Array Value} {tb : List Bool} (h : Mid w0 w bx g cs tb) : Mid w0 w.drew bx g cs tb := ⟨h.below.drew, h.box.drew, Blk.drew h.tab⟩
theorem Mid.on {w0 w w' : World} {bx g : Nat} {cs : Array Value} {tb : List Bool} (h : Mid w0 w bx g cs tb) (hb : Below w.heap.size w w') : Mid w0 w' bx g cs tb :=
  ⟨h.below.trans (hb.mono h.below.size), h.box.below hb h.box.lt, Blk.below h.tab hb (Blk.lt h.tab)⟩
end Go.Proofs.YtagffmalmkcboaaDoor
