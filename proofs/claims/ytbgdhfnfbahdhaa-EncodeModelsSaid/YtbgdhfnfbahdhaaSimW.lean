/- Sim: the statements' own example: trestlelaw07.works answers true in whatever world. -/
import Derived.Test.YtbgdhfnfbahdhaaSimN
namespace Go.Proofs.Ytbgdhfnfbahdhaa
open Go.RowKit

end Go.Proofs.Ytbgdhfnfbahdhaa
