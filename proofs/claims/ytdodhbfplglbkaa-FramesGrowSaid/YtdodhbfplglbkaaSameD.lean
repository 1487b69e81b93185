/- Whether two circuits are the same: the contract of the statements' helper. -/
import Derived.Test.YtdodhbfplglbkaaSame3
import Derived.Test.YtdodhbfplglbkaaSizes
import Derived.Deep.DeepCutAuto
import Derived.Deep.RegionWith
namespace Go.Proofs.Ytdodhbfplglbkaa
open Go.RowKit

end Go.Proofs.Ytdodhbfplglbkaa

namespace Go.Proofs.Ytdodhbfplglbkaa
open Go.RowKit

end Go.Proofs.Ytdodhbfplglbkaa
