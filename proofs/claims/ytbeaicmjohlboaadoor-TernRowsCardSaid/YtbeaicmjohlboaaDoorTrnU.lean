/- Tern: the contract of the document's Lift. -/
import Derived.Test.YtbeaicmjohlboaaDoorTrnB
import Derived.Test.YtbeaicmjohlboaaDoorTrnH
namespace Go.Proofs.YtbeaicmjohlboaaDoor
open Go.RowKit

end Go.Proofs.YtbeaicmjohlboaaDoor

namespace Go.Proofs.YtbeaicmjohlboaaDoor
open Go.RowKit

end Go.Proofs.YtbeaicmjohlboaaDoor
