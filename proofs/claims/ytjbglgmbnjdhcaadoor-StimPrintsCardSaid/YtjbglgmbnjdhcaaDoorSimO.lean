/- Sim: the contracts of the document's next state, constraints, and of its calls Values, Next, Holds. -/
import Derived.Test.YtjbglgmbnjdhcaaDoorSimB
import Derived.Test.YtjbglgmbnjdhcaaDoorSimE
namespace Go.Proofs.YtjbglgmbnjdhcaaDoor
open Go.RowKit

end Go.Proofs.YtjbglgmbnjdhcaaDoor

namespace Go.Proofs.YtjbglgmbnjdhcaaDoor
open Go.RowKit

end Go.Proofs.YtjbglgmbnjdhcaaDoor
