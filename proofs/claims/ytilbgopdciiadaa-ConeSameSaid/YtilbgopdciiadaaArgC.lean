/- A statement's argument that is a list of numbers. -/
import Derived.Test.YtilbgopdciiadaaArgR
namespace Go.Proofs.Ytilbgopdciiadaa
open Go.ChangeShapes Go.WideShapes Go.ChangeAt Go.RowKit

section
variable {H : Type} {enc : TypeId × Value → H} {W : World}
end
end Go.Proofs.Ytilbgopdciiadaa
