/- Sim: the contracts of the calls Starts: the program's and the document's. -/
import Derived.Test.YtdodhbfplglbkaaSimE
namespace Go.Proofs.Ytdodhbfplglbkaa
open Go.RowKit

end Go.Proofs.Ytdodhbfplglbkaa

namespace Go.Proofs.Ytdodhbfplglbkaa
open Go.RowKit

end Go.Proofs.Ytdodhbfplglbkaa
