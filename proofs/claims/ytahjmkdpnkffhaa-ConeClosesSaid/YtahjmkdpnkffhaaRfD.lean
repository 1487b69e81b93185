/- The document's own look at what is defined: it answers what the program's answers. -/
import Derived.Test.YtahjmkdpnkffhaaRfA
import Derived.Deep.RegionHeld3
import Derived.Deep.RegionWith
import Derived.StillTailTactics
namespace Go.Proofs.Ytahjmkdpnkffhaa
open Go.RowKit

end Go.Proofs.Ytahjmkdpnkffhaa

namespace Go.Proofs.Ytahjmkdpnkffhaa
open Go.RowKit

end Go.Proofs.Ytahjmkdpnkffhaa
