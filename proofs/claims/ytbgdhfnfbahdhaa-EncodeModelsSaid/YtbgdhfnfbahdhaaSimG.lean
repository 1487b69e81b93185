/- Sim: the contracts of the calls Starts: the program's and the document's. -/
import Derived.Test.YtbgdhfnfbahdhaaSimE
namespace Go.Proofs.Ytbgdhfnfbahdhaa
open Go.RowKit

end Go.Proofs.Ytbgdhfnfbahdhaa

namespace Go.Proofs.Ytbgdhfnfbahdhaa
open Go.RowKit

end Go.Proofs.Ytbgdhfnfbahdhaa
