/- Sim: the contracts of the document's next state, constraints, and of its calls Values, Next, Holds. -/
import Derived.Test.YtagffmalmkcboaaSimB
import Derived.Test.YtagffmalmkcboaaSimE
namespace Go.Proofs.Ytagffmalmkcboaa
open Go.RowKit

open Go.RowKit

end Go.Proofs.Ytagffmalmkcboaa
