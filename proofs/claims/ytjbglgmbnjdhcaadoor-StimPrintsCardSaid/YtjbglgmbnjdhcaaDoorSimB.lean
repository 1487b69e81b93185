/- Sim: the contracts of what goes through the values, gate by gate: the program's and the document's. -/
import Derived.Test.YtjbglgmbnjdhcaaDoorRight
import Derived.Test.YtjbglgmbnjdhcaaDoorCopyR
import Derived.Deep.RegionHeld3
import Derived.Deep.RegionWith
import Derived.Laws.EntriesVeiled
import Derived.Deep.LoopGhost
namespace Go.Proofs.YtjbglgmbnjdhcaaDoor
open Go.RowKit

abbrev encO (b : Bool) : List Value := [.bool b]
theorem lenO (b : Bool) : (encO b).length = 1 := rfl
theorem oneO (b : Bool) : ∀ u ∈ encO b, u.oneCell' = true := by simp [Value.oneCell']
theorem flat_bools (zs : List Bool) : zs.flatMap encO = zs.map Value.bool := by
  induction zs with
  | nil => rfl
  | cons a r ih => simp only [List.flatMap_cons, List.map_cons, ih]; rfl

end Go.Proofs.YtjbglgmbnjdhcaaDoor

namespace Go.Proofs.YtjbglgmbnjdhcaaDoor
open Go.RowKit

section
variable {w0 wr : World} {bx g bq n : Nat} {cs : Array Value} {T : List Bool}
end
end Go.Proofs.YtjbglgmbnjdhcaaDoor
