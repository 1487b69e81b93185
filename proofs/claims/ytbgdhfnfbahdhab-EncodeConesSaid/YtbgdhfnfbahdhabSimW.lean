/- Sim: the statements' own example: trestlelaw07.works answers true in whatever world. -/
import Derived.Test.YtbgdhfnfbahdhabSimN
namespace Go.Proofs.Ytbgdhfnfbahdhab
open Go.RowKit

end Go.Proofs.Ytbgdhfnfbahdhab
