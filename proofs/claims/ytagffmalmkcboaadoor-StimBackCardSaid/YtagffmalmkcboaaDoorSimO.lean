/- Sim: the contracts of the document's next state, constraints, and of its calls Values, Next, Holds. -/
import Derived.Test.YtagffmalmkcboaaDoorSimB
import Derived.Test.YtagffmalmkcboaaDoorSimE
namespace Go.Proofs.YtagffmalmkcboaaDoor
open Go.RowKit

end Go.Proofs.YtagffmalmkcboaaDoor

namespace Go.Proofs.YtagffmalmkcboaaDoor
open Go.RowKit

end Go.Proofs.YtagffmalmkcboaaDoor
