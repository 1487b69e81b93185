/- Sim: the contracts of the document's next state, constraints, and of its calls Values, Next, Holds. -/
import Derived.Test.YtilbgopdciiadaaSimB
import Derived.Test.YtilbgopdciiadaaSimE
namespace Go.Proofs.Ytilbgopdciiadaa
open Go.RowKit

end Go.Proofs.Ytilbgopdciiadaa

namespace Go.Proofs.Ytilbgopdciiadaa
open Go.RowKit

end Go.Proofs.Ytilbgopdciiadaa
