/- Sim: the contracts of the program's calls Values, Next, Holds. -/
import Derived.Test.YtahjmkdpnkffhaaSimD
namespace Go.Proofs.Ytahjmkdpnkffhaa
open Go.RowKit

end Go.Proofs.Ytahjmkdpnkffhaa
