/- A statement's arguments that are rows of truths, traces, numbers. -/
import Derived.Test.YtjbglgmbnjdhcaaDoorArgR
import Derived.Test.YtjbglgmbnjdhcaaDoorSimN
namespace Go.Proofs.YtjbglgmbnjdhcaaDoor
open Go.ChangeShapes Go.WideShapes Go.ChangeAt Go.RowKit

section
variable {H : Type} {enc : TypeId × Value → H} {W : World}
end
end Go.Proofs.YtjbglgmbnjdhcaaDoor
