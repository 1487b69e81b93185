/- Tern: the contract of the document's Lift. -/
import Derived.Test.YtbeaicmjohlboaaGreatDoorTrnB
import Derived.Test.YtbeaicmjohlboaaGreatDoorTrnH
namespace Go.Proofs.YtbeaicmjohlboaaGreatDoor
open Go.RowKit

end Go.Proofs.YtbeaicmjohlboaaGreatDoor

namespace Go.Proofs.YtbeaicmjohlboaaGreatDoor
open Go.RowKit

end Go.Proofs.YtbeaicmjohlboaaGreatDoor
