import Derived.Test.YtdodhbfplglbkaaChecked
namespace Go.Proofs.Ytdodhbfplglbkaa
end Go.Proofs.Ytdodhbfplglbkaa
