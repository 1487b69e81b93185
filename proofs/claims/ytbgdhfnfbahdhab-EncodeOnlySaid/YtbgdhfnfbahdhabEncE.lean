/- Encode: the contracts of the document's Model and Step. -/
import Derived.Test.YtbgdhfnfbahdhabEncD
namespace Go.Proofs.Ytbgdhfnfbahdhab
open Go.RowKit

end Go.Proofs.Ytbgdhfnfbahdhab
