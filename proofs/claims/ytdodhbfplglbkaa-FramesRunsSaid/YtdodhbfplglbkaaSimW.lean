/- Sim: the statements' own example: trestlelaw07.works answers true in whatever world. -/
import Derived.Test.YtdodhbfplglbkaaSimN
namespace Go.Proofs.Ytdodhbfplglbkaa
open Go.RowKit

end Go.Proofs.Ytdodhbfplglbkaa
