/- Whether two lists have the same members: the contracts of the statements' helpers and of slices.Equal at each type of member. -/
import Derived.Test.YtbeaicmjohlboabDoorSpan
import Derived.Laws.StructEq
namespace Go.Proofs.YtbeaicmjohlboabDoor
open Go.RowKit

end Go.Proofs.YtbeaicmjohlboabDoor
