/- Sim: the contracts of the program's calls Values, Next, Holds. -/
import Derived.Test.YtbeaicmjohlboaaDoorSimD
namespace Go.Proofs.YtbeaicmjohlboaaDoor
open Go.RowKit

end Go.Proofs.YtbeaicmjohlboaaDoor
