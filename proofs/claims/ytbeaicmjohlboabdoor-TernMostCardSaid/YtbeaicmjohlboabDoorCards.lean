/-
  DERIVED. GIVEN WITH THE SEED: THE CARDS: each row of YtbeaicmjohlboabDoorRows.lean that lists a variable, with what it lists TIED to the program's text (the seventh form; the later family's looks); each row that meets fmt, with fmt's text TOLD by the authors' own Lean function (tested against real Go, not proved from fmt's source: count such statements apart). THE CARD IS WHAT COUNTS. Prove the row's statement (the work); the ties are given (YtbeaicmjohlboabDoorTie.lean); close each card by the builder's one call (the guide's Derived/Test/ToyasCard.lean, 'card_holds'). Laid BY PROGRAM, IN A SANDBOX (cutbox-door.mjs). By AI agents, Wed Nov 11 2026. No macro, syntax, notation, axiom, sorry.
-/
import Derived.Test.YtbeaicmjohlboabDoorRows
import GoSem.ClaimSeven
namespace Go.Proofs.YtbeaicmjohlboabDoor
namespace Rows

/-- THE TIED CARD OF 'trestlelaw08.TernMost'. -/
def ternMostCard : Claim7 := { stood := { row := ternMostRow, standIns := [], harness := (true, "0f65403f8e9fdf978593ab7e5902890c46a4db0dc3dc60fffafcdb826701a0c2"), looks := true }, kinds := [], alts := [], laidByText := true, laidKinds := [.data, .data], laidTests := true, laidLooks := .later }
def TernMostCardSaid : Prop := Claim7.holds Tryd.pinned (.plain (OpenSpec.ofChange ternMostSpec)) ternMostCard

/-- THE SECOND FORM's CARD OF 'trestlelaw08.TernMost'. -/
def ternMostUptoCard : Claim7 := { stood := { row := ternMostUptoRow, standIns := [], harness := (true, "0f65403f8e9fdf978593ab7e5902890c46a4db0dc3dc60fffafcdb826701a0c2"), looks := true }, kinds := [], alts := [], laidByText := true, laidKinds := [.data, .data], laidTests := true, laidLooks := .later }
def TernMostUptoCardSaid : Prop := Claim7.holds Tryd.pinned (.plain (OpenSpec.upto ternMostSpec)) ternMostUptoCard
end Rows
end Go.Proofs.YtbeaicmjohlboabDoor
