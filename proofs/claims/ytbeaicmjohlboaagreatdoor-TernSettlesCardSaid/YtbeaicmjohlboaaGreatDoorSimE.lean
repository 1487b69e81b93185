/- Sim: the contracts of the program's calls Values, Next, Holds. -/
import Derived.Test.YtbeaicmjohlboaaGreatDoorSimD
namespace Go.Proofs.YtbeaicmjohlboaaGreatDoor
open Go.RowKit

end Go.Proofs.YtbeaicmjohlboaaGreatDoor
