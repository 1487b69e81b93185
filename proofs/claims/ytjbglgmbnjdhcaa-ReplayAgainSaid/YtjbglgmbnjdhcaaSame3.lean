/- Whether two lists have the same members: the contracts of the statements' helpers and of slices.Equal at each type of member. -/
import Derived.Test.YtjbglgmbnjdhcaaCirc
import Derived.Laws.StructEq
namespace Go.Proofs.Ytjbglgmbnjdhcaa
open Go.RowKit

end Go.Proofs.Ytjbglgmbnjdhcaa
