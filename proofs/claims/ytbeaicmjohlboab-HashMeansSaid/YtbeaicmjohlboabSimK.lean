/- Sim: the contract of a moment: what there is to tell of a step. -/
import Derived.Test.YtbeaicmjohlboabSimD
import Derived.Test.YtbeaicmjohlboabClone
import Derived.Test.YtbeaicmjohlboabOrdM
namespace Go.Proofs.Ytbeaicmjohlboab
open Go.RowKit

end Go.Proofs.Ytbeaicmjohlboab

namespace Go.Proofs.Ytbeaicmjohlboab
open Go.RowKit

end Go.Proofs.Ytbeaicmjohlboab

namespace Go.Proofs.Ytbeaicmjohlboab
open Go.RowKit

end Go.Proofs.Ytbeaicmjohlboab
