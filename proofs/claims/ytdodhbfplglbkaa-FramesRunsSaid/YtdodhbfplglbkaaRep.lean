/- The contract of slices.Repeat at numbers. -/
import Derived.Test.YtdodhbfplglbkaaUses
import Derived.Laws.CopyOwn
import Derived.Test.YtdodhbfplglbkaaMul
import Derived.Test.YtdodhbfplglbkaaTrnF
namespace Go.Proofs.Ytdodhbfplglbkaa
open Go.RowKit

end Go.Proofs.Ytdodhbfplglbkaa
