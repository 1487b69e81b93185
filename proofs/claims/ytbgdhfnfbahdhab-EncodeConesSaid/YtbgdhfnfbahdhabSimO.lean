/- Sim: the contracts of the document's next state, constraints, and of its calls Values, Next, Holds. -/
import Derived.Test.YtbgdhfnfbahdhabSimB
import Derived.Test.YtbgdhfnfbahdhabSimE
namespace Go.Proofs.Ytbgdhfnfbahdhab
open Go.RowKit

end Go.Proofs.Ytbgdhfnfbahdhab

namespace Go.Proofs.Ytbgdhfnfbahdhab
open Go.RowKit

end Go.Proofs.Ytbgdhfnfbahdhab
