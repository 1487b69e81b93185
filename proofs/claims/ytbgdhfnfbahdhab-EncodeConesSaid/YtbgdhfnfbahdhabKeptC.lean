/- The contract of the statements' own KeptCircuit: a circuit that was lent, and has not turned, is found as it was. -/
import Derived.Test.YtbgdhfnfbahdhabLendC
import Derived.Test.YtbgdhfnfbahdhabSameD
namespace Go.Proofs.Ytbgdhfnfbahdhab
open Go.RowKit

end Go.Proofs.Ytbgdhfnfbahdhab
