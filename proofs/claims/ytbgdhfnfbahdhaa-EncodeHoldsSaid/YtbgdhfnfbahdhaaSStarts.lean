/- The walk of SimStarts: for whatever circuit and state the statement's Go function answers true, and nothing that was there has turned. -/
import Derived.Test.YtbgdhfnfbahdhaaSpoO
import Derived.Test.YtbgdhfnfbahdhaaSimB
import Derived.Test.YtbgdhfnfbahdhaaAppF
import Derived.Test.YtbgdhfnfbahdhaaSimW
import Derived.Test.YtbgdhfnfbahdhaaSimG
import Derived.Test.YtbgdhfnfbahdhaaSimQ
import Derived.Test.YtbgdhfnfbahdhaaLendC
import Derived.Test.YtbgdhfnfbahdhaaKeptC
import Derived.Test.YtbgdhfnfbahdhaaArgR
namespace Go.Proofs.Ytbgdhfnfbahdhaa
open Go.RowKit

end Go.Proofs.Ytbgdhfnfbahdhaa

namespace Go.Proofs.Ytbgdhfnfbahdhaa
open Go.RowKit

end Go.Proofs.Ytbgdhfnfbahdhaa
