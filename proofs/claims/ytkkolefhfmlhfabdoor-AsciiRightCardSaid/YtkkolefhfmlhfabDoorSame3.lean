/- Whether two lists have the same members: the contracts of the statements' helpers and of slices.Equal at each type of member. -/
import Derived.Test.YtkkolefhfmlhfabDoorCirc
import Derived.Laws.StructEq
namespace Go.Proofs.YtkkolefhfmlhfabDoor
open Go.RowKit

end Go.Proofs.YtkkolefhfmlhfabDoor
