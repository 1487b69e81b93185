/- The contract of the statements' own KeptCircuit: a circuit that was lent, and has not turned, is found as it was. -/
import Derived.Test.YtdodhbfplglbkaaLendC
import Derived.Test.YtdodhbfplglbkaaSameD
namespace Go.Proofs.Ytdodhbfplglbkaa
open Go.RowKit

end Go.Proofs.Ytdodhbfplglbkaa
