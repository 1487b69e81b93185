/- Sim: the contract of a moment: what there is to tell of a step. -/
import Derived.Test.YtahjmkdpnkffhaaSimD
import Derived.Test.YtahjmkdpnkffhaaClone
import Derived.Test.YtahjmkdpnkffhaaOrdM
namespace Go.Proofs.Ytahjmkdpnkffhaa
open Go.RowKit

end Go.Proofs.Ytahjmkdpnkffhaa

namespace Go.Proofs.Ytahjmkdpnkffhaa
open Go.RowKit

end Go.Proofs.Ytahjmkdpnkffhaa

namespace Go.Proofs.Ytahjmkdpnkffhaa
open Go.RowKit

end Go.Proofs.Ytahjmkdpnkffhaa
