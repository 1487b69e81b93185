/- The contract of the statements' own KeptCircuit: a circuit that was lent, and has not turned, is found as it was. -/
import Derived.Test.YtbeaicmjohlboaaDoorLendC
import Derived.Test.YtbeaicmjohlboaaDoorSameD
namespace Go.Proofs.YtbeaicmjohlboaaDoor
open Go.RowKit

end Go.Proofs.YtbeaicmjohlboaaDoor
