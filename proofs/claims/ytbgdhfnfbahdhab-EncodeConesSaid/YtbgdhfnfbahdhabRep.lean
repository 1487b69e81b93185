/- The contract of slices.Repeat at numbers. -/
import Derived.Test.YtbgdhfnfbahdhabUses
import Derived.Laws.CopyOwn
import Derived.Test.YtbgdhfnfbahdhabMul
import Derived.Test.YtbgdhfnfbahdhabTrnF
namespace Go.Proofs.Ytbgdhfnfbahdhab
open Go.RowKit

end Go.Proofs.Ytbgdhfnfbahdhab
