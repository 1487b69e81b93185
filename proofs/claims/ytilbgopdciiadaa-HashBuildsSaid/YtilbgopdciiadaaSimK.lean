/- Sim: the contract of a moment: what there is to tell of a step. -/
import Derived.Test.YtilbgopdciiadaaSimE
import Derived.Test.YtilbgopdciiadaaClone
import Derived.Test.YtilbgopdciiadaaOrdW
namespace Go.Proofs.Ytilbgopdciiadaa
open Go.RowKit

end Go.Proofs.Ytilbgopdciiadaa

namespace Go.Proofs.Ytilbgopdciiadaa
open Go.RowKit

end Go.Proofs.Ytilbgopdciiadaa

namespace Go.Proofs.Ytilbgopdciiadaa
open Go.RowKit

end Go.Proofs.Ytilbgopdciiadaa
