/- Whether two circuits are the same: the contract of the statements' helper. -/
import Derived.Test.YtbgdhfnfbahdhabSame3
import Derived.Test.YtbgdhfnfbahdhabSizes
import Derived.Deep.DeepCutAuto
import Derived.Deep.RegionWith
namespace Go.Proofs.Ytbgdhfnfbahdhab
open Go.RowKit

end Go.Proofs.Ytbgdhfnfbahdhab

namespace Go.Proofs.Ytbgdhfnfbahdhab
open Go.RowKit

end Go.Proofs.Ytbgdhfnfbahdhab
