/- Sim: the contracts of the program's calls Values, Next, Holds. -/
import Derived.Test.YtbeaicmjohlboabDoorSimD
namespace Go.Proofs.YtbeaicmjohlboabDoor
open Go.RowKit

end Go.Proofs.YtbeaicmjohlboabDoor
