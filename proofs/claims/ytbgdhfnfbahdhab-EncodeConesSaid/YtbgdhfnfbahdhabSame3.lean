/- Whether two lists have the same members: the contracts of the statements' helpers and of slices.Equal at each type of member. -/
import Derived.Test.YtbgdhfnfbahdhabCirc
import Derived.Laws.StructEq
namespace Go.Proofs.Ytbgdhfnfbahdhab
open Go.RowKit

end Go.Proofs.Ytbgdhfnfbahdhab
