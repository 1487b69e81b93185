/- The contract of heap's down. -/
import Derived.Test.YtahjmkdpnkffhaaHeapU
import Derived.BigRegion
import Derived.BigQuiet
import Derived.Deep.RegionWith
namespace Go.Proofs.Ytahjmkdpnkffhaa
open Go.RowKit

end Go.Proofs.Ytahjmkdpnkffhaa
