/-
  No cell of these rows narrows 'for every input' (looked for: loops, veiled, ifaces, maps, wideKeys, modest, calm, conditions, laid).
  DERIVED. THE GIVEN ROWS OF THIS SEAT. 7 by the template 'for every input the law returns true; each argument reads behind the call as it read before'; 0 by the template 'total and deterministic' (their statements: YthchemgkfjmhjaaTotals.lean).
  GIVEN WITH THE SEED: the statements are not yours to turn. If you find one false, say at which input.
  Laid BY PROGRAM, IN A SANDBOX (cutbox-rows.mjs): the forced cells as the released guide's own fill.sh prints them over the translation 8124109bd1e47c31… (all of the seat's roots in one cut). By AI agents, Wed Nov 11 2026. No macro, syntax, notation, axiom, sorry.
-/
import Derived.Test.YthchemgkfjmhjaaChecked
import GoSem.Claim
import GoSem.ClaimJoined
import GoSem.ClaimMapViews
import Derived.JoinedTies
import Derived.KernelRfl
namespace Go.Proofs.Ythchemgkfjmhjaa
/- THE CELL 'sum', in the pinned program and in every row, IS THE sha256 OF THE DUMP (.gsa) THAT YthchemgkfjmhjaaProg.lean LOADS. Nothing in Lean hashes anything: it is a label: what it is worth is what the hold of that sum in a sandbox is worth. -/
noncomputable def Try.pinned : Pinned := { name := "ythchemgkfjmhjaa", sum := "8124109bd1e47c31090d4e54f959bb3345990a842fd8cf51ea81efa4bfc3da85", checked := Try.checked }
namespace Rows
def none {H : Type} : Left H := { results := [], args := [] }

/-- 'trestlelaw02.WordsRows': WHATEVER THE INPUT: true; the input reads as it did. -/
def wordsRowsSpec : ChangeSpec := { name := "wordsRows", fn := fun _ => fun
  | [d] => { results := [.lit (.bool true)], args := [d] }
  | _ => none }
def wordsRowsRow : OpenClaim := { program := "ythchemgkfjmhjaa", sum := "8124109bd1e47c31090d4e54f959bb3345990a842fd8cf51ea81efa4bfc3da85", func := "trestle/trestlelaw02.WordsRows", spec := "wordsRows", unfollowed := true, recurses := true, apart := false }
def WordsRowsSaid : Prop := wordsRowsRow.holds Try.pinned (OpenSpec.ofChange wordsRowsSpec)

/-- ITS FALSE NEIGHBOUR: 'it returns false'. Refute it at one input. -/
def wordsRowsWrong : ChangeSpec := { name := "wordsRows", fn := fun _ => fun
  | [d] => { results := [.lit (.bool false)], args := [d] }
  | _ => none }
def WordsRowsWrongFalsely : Prop := wordsRowsRow.holds Try.pinned (OpenSpec.ofChange wordsRowsWrong)

/-- 'trestlelaw02.WordsTexts': WHATEVER THE INPUT: true; the input reads as it did. -/
def wordsTextsSpec : ChangeSpec := { name := "wordsTexts", fn := fun _ => fun
  | [d1, d2, d3] => { results := [.lit (.bool true)], args := [d1, d2, d3] }
  | _ => none }
def wordsTextsRow : OpenClaim := { program := "ythchemgkfjmhjaa", sum := "8124109bd1e47c31090d4e54f959bb3345990a842fd8cf51ea81efa4bfc3da85", func := "trestle/trestlelaw02.WordsTexts", spec := "wordsTexts", unfollowed := true, recurses := true, apart := false }
def WordsTextsSaid : Prop := wordsTextsRow.holds Try.pinned (OpenSpec.ofChange wordsTextsSpec)

/-- ITS FALSE NEIGHBOUR: 'it returns false'. Refute it at one input. -/
def wordsTextsWrong : ChangeSpec := { name := "wordsTexts", fn := fun _ => fun
  | [d1, d2, d3] => { results := [.lit (.bool false)], args := [d1, d2, d3] }
  | _ => none }
def WordsTextsWrongFalsely : Prop := wordsTextsRow.holds Try.pinned (OpenSpec.ofChange wordsTextsWrong)

/-- 'trestlelaw02.WordsShifts': WHATEVER THE INPUT: true; the input reads as it did. -/
def wordsShiftsSpec : ChangeSpec := { name := "wordsShifts", fn := fun _ => fun
  | [d1, d2, d3] => { results := [.lit (.bool true)], args := [d1, d2, d3] }
  | _ => none }
def wordsShiftsRow : OpenClaim := { program := "ythchemgkfjmhjaa", sum := "8124109bd1e47c31090d4e54f959bb3345990a842fd8cf51ea81efa4bfc3da85", func := "trestle/trestlelaw02.WordsShifts", spec := "wordsShifts", unfollowed := true, recurses := true, apart := false }
def WordsShiftsSaid : Prop := wordsShiftsRow.holds Try.pinned (OpenSpec.ofChange wordsShiftsSpec)

/-- ITS FALSE NEIGHBOUR: 'it returns false'. Refute it at one input. -/
def wordsShiftsWrong : ChangeSpec := { name := "wordsShifts", fn := fun _ => fun
  | [d1, d2, d3] => { results := [.lit (.bool false)], args := [d1, d2, d3] }
  | _ => none }
def WordsShiftsWrongFalsely : Prop := wordsShiftsRow.holds Try.pinned (OpenSpec.ofChange wordsShiftsWrong)

/-- 'trestlelaw02.WordsPairs': WHATEVER THE INPUT: true; the input reads as it did. -/
def wordsPairsSpec : ChangeSpec := { name := "wordsPairs", fn := fun _ => fun
  | [d1, d2] => { results := [.lit (.bool true)], args := [d1, d2] }
  | _ => none }
def wordsPairsRow : OpenClaim := { program := "ythchemgkfjmhjaa", sum := "8124109bd1e47c31090d4e54f959bb3345990a842fd8cf51ea81efa4bfc3da85", func := "trestle/trestlelaw02.WordsPairs", spec := "wordsPairs", unfollowed := true, recurses := true, apart := false }
def WordsPairsSaid : Prop := wordsPairsRow.holds Try.pinned (OpenSpec.ofChange wordsPairsSpec)

/-- ITS FALSE NEIGHBOUR: 'it returns false'. Refute it at one input. -/
def wordsPairsWrong : ChangeSpec := { name := "wordsPairs", fn := fun _ => fun
  | [d1, d2] => { results := [.lit (.bool false)], args := [d1, d2] }
  | _ => none }
def WordsPairsWrongFalsely : Prop := wordsPairsRow.holds Try.pinned (OpenSpec.ofChange wordsPairsWrong)

/-- 'trestlelaw02.WordsOnly': WHATEVER THE INPUT: true; the input reads as it did. -/
def wordsOnlySpec : ChangeSpec := { name := "wordsOnly", fn := fun _ => fun
  | [d1, d2] => { results := [.lit (.bool true)], args := [d1, d2] }
  | _ => none }
def wordsOnlyRow : OpenClaim := { program := "ythchemgkfjmhjaa", sum := "8124109bd1e47c31090d4e54f959bb3345990a842fd8cf51ea81efa4bfc3da85", func := "trestle/trestlelaw02.WordsOnly", spec := "wordsOnly", unfollowed := true, recurses := true, apart := false }
def WordsOnlySaid : Prop := wordsOnlyRow.holds Try.pinned (OpenSpec.ofChange wordsOnlySpec)

/-- ITS FALSE NEIGHBOUR: 'it returns false'. Refute it at one input. -/
def wordsOnlyWrong : ChangeSpec := { name := "wordsOnly", fn := fun _ => fun
  | [d1, d2] => { results := [.lit (.bool false)], args := [d1, d2] }
  | _ => none }
def WordsOnlyWrongFalsely : Prop := wordsOnlyRow.holds Try.pinned (OpenSpec.ofChange wordsOnlyWrong)

/-- 'trestlelaw02.WordsRound': WHATEVER THE INPUT: true; the input reads as it did. -/
def wordsRoundSpec : ChangeSpec := { name := "wordsRound", fn := fun _ => fun
  | [d] => { results := [.lit (.bool true)], args := [d] }
  | _ => none }
def wordsRoundRow : OpenClaim := { program := "ythchemgkfjmhjaa", sum := "8124109bd1e47c31090d4e54f959bb3345990a842fd8cf51ea81efa4bfc3da85", func := "trestle/trestlelaw02.WordsRound", spec := "wordsRound", unfollowed := true, recurses := true, apart := false }
def WordsRoundSaid : Prop := wordsRoundRow.holds Try.pinned (OpenSpec.ofChange wordsRoundSpec)

/-- ITS FALSE NEIGHBOUR: 'it returns false'. Refute it at one input. -/
def wordsRoundWrong : ChangeSpec := { name := "wordsRound", fn := fun _ => fun
  | [d] => { results := [.lit (.bool false)], args := [d] }
  | _ => none }
def WordsRoundWrongFalsely : Prop := wordsRoundRow.holds Try.pinned (OpenSpec.ofChange wordsRoundWrong)

/-- 'trestlelaw02.WordsTwice': WHATEVER THE INPUT: true; the input reads as it did. -/
def wordsTwiceSpec : ChangeSpec := { name := "wordsTwice", fn := fun _ => fun
  | [d1, d2, d3] => { results := [.lit (.bool true)], args := [d1, d2, d3] }
  | _ => none }
def wordsTwiceRow : OpenClaim := { program := "ythchemgkfjmhjaa", sum := "8124109bd1e47c31090d4e54f959bb3345990a842fd8cf51ea81efa4bfc3da85", func := "trestle/trestlelaw02.WordsTwice", spec := "wordsTwice", unfollowed := true, recurses := true, apart := false }
def WordsTwiceSaid : Prop := wordsTwiceRow.holds Try.pinned (OpenSpec.ofChange wordsTwiceSpec)

/-- ITS FALSE NEIGHBOUR: 'it returns false'. Refute it at one input. -/
def wordsTwiceWrong : ChangeSpec := { name := "wordsTwice", fn := fun _ => fun
  | [d1, d2, d3] => { results := [.lit (.bool false)], args := [d1, d2, d3] }
  | _ => none }
def WordsTwiceWrongFalsely : Prop := wordsTwiceRow.holds Try.pinned (OpenSpec.ofChange wordsTwiceWrong)

/- THE SECOND FORM. 'bulk': how many values and letters a reading holds, each counted each time it is reached (what is shared counts as often as it is met; a slice's spare places count too). A statement '..UptoSaid' is the law's where the arguments, and the package variables that the reading takes, are together of bulk at most 1048576: NARROWER than '..Said'. Prove '..Said' where nothing that the law and all that it calls make is longer than what came in: it says more and counts as full. Else prove '..UptoSaid'. A law counts once. -/
mutual
def uptoBulk {H : Type} : DataW H → Nat
  | .lit (.string bytes) => bytes.length + 1
  | .lit _ => 1
  | .nil => 1
  | .ptr d => uptoBulk d + 1
  | .slice elems spare => uptoBulkAll elems + uptoBulkAll spare + 1
  | .agg parts => uptoBulkAll parts + 1
  | .iface _ d => uptoBulk d + 1
  | .map entries => uptoBulkEntries entries + 1
  | .held _ => 1
def uptoBulkAll {H : Type} : List (DataW H) → Nat
  | [] => 0
  | d :: r => uptoBulk d + uptoBulkAll r
def uptoBulkEntries {H : Type} : List (Lit × DataW H) → Nat
  | [] => 0
  | x :: r => uptoBulkEntry x + uptoBulkEntries r
def uptoBulkEntry {H : Type} : Lit × DataW H → Nat
  | (.string bytes, d) => bytes.length + uptoBulk d + 1
  | (_, d) => uptoBulk d + 1
 end
def uptoSmall : (H : Type) → List (DataW H) → Bool := fun _ ds => decide (uptoBulkAll ds ≤ 1048576)
def OpenSpec.upto (s : _root_.Go.ChangeSpec) : _root_.Go.OpenSpec := { _root_.Go.OpenSpec.ofChange s with cond := some uptoSmall }

/-- 'trestlelaw02.WordsRows', WHERE WHAT IT READS IS OF BULK AT MOST 1048576: true; the input reads as it did. -/
def wordsRowsUptoRow : OpenClaim := { program := "ythchemgkfjmhjaa", sum := "8124109bd1e47c31090d4e54f959bb3345990a842fd8cf51ea81efa4bfc3da85", func := "trestle/trestlelaw02.WordsRows", spec := "wordsRows", unfollowed := true, recurses := true, apart := false, narrowed := true }
def WordsRowsUptoSaid : Prop := wordsRowsUptoRow.holds Try.pinned (OpenSpec.upto wordsRowsSpec)

/-- 'trestlelaw02.WordsTexts', WHERE WHAT IT READS IS OF BULK AT MOST 1048576: true; the input reads as it did. -/
def wordsTextsUptoRow : OpenClaim := { program := "ythchemgkfjmhjaa", sum := "8124109bd1e47c31090d4e54f959bb3345990a842fd8cf51ea81efa4bfc3da85", func := "trestle/trestlelaw02.WordsTexts", spec := "wordsTexts", unfollowed := true, recurses := true, apart := false, narrowed := true }
def WordsTextsUptoSaid : Prop := wordsTextsUptoRow.holds Try.pinned (OpenSpec.upto wordsTextsSpec)

/-- 'trestlelaw02.WordsShifts', WHERE WHAT IT READS IS OF BULK AT MOST 1048576: true; the input reads as it did. -/
def wordsShiftsUptoRow : OpenClaim := { program := "ythchemgkfjmhjaa", sum := "8124109bd1e47c31090d4e54f959bb3345990a842fd8cf51ea81efa4bfc3da85", func := "trestle/trestlelaw02.WordsShifts", spec := "wordsShifts", unfollowed := true, recurses := true, apart := false, narrowed := true }
def WordsShiftsUptoSaid : Prop := wordsShiftsUptoRow.holds Try.pinned (OpenSpec.upto wordsShiftsSpec)

/-- 'trestlelaw02.WordsPairs', WHERE WHAT IT READS IS OF BULK AT MOST 1048576: true; the input reads as it did. -/
def wordsPairsUptoRow : OpenClaim := { program := "ythchemgkfjmhjaa", sum := "8124109bd1e47c31090d4e54f959bb3345990a842fd8cf51ea81efa4bfc3da85", func := "trestle/trestlelaw02.WordsPairs", spec := "wordsPairs", unfollowed := true, recurses := true, apart := false, narrowed := true }
def WordsPairsUptoSaid : Prop := wordsPairsUptoRow.holds Try.pinned (OpenSpec.upto wordsPairsSpec)

/-- 'trestlelaw02.WordsOnly', WHERE WHAT IT READS IS OF BULK AT MOST 1048576: true; the input reads as it did. -/
def wordsOnlyUptoRow : OpenClaim := { program := "ythchemgkfjmhjaa", sum := "8124109bd1e47c31090d4e54f959bb3345990a842fd8cf51ea81efa4bfc3da85", func := "trestle/trestlelaw02.WordsOnly", spec := "wordsOnly", unfollowed := true, recurses := true, apart := false, narrowed := true }
def WordsOnlyUptoSaid : Prop := wordsOnlyUptoRow.holds Try.pinned (OpenSpec.upto wordsOnlySpec)

/-- 'trestlelaw02.WordsRound', WHERE WHAT IT READS IS OF BULK AT MOST 1048576: true; the input reads as it did. -/
def wordsRoundUptoRow : OpenClaim := { program := "ythchemgkfjmhjaa", sum := "8124109bd1e47c31090d4e54f959bb3345990a842fd8cf51ea81efa4bfc3da85", func := "trestle/trestlelaw02.WordsRound", spec := "wordsRound", unfollowed := true, recurses := true, apart := false, narrowed := true }
def WordsRoundUptoSaid : Prop := wordsRoundUptoRow.holds Try.pinned (OpenSpec.upto wordsRoundSpec)

/-- 'trestlelaw02.WordsTwice', WHERE WHAT IT READS IS OF BULK AT MOST 1048576: true; the input reads as it did. -/
def wordsTwiceUptoRow : OpenClaim := { program := "ythchemgkfjmhjaa", sum := "8124109bd1e47c31090d4e54f959bb3345990a842fd8cf51ea81efa4bfc3da85", func := "trestle/trestlelaw02.WordsTwice", spec := "wordsTwice", unfollowed := true, recurses := true, apart := false, narrowed := true }
def WordsTwiceUptoSaid : Prop := wordsTwiceUptoRow.holds Try.pinned (OpenSpec.upto wordsTwiceSpec)

end Rows
end Go.Proofs.Ythchemgkfjmhjaa
