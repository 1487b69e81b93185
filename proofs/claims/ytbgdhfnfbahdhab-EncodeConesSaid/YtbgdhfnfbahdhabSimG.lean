/- Sim: the contracts of the calls Starts: the program's and the document's. -/
import Derived.Test.YtbgdhfnfbahdhabSimE
namespace Go.Proofs.Ytbgdhfnfbahdhab
open Go.RowKit

end Go.Proofs.Ytbgdhfnfbahdhab

namespace Go.Proofs.Ytbgdhfnfbahdhab
open Go.RowKit

end Go.Proofs.Ytbgdhfnfbahdhab
