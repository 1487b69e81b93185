/-
  DERIVED. GIVEN WITH THE SEED: THE CARDS: each row of YtbeaicmjohlboaaGreatDoorRows.lean that lists a variable, with what it lists TIED to the program's text (the seventh form; the later family's looks); each row that meets fmt, with fmt's text TOLD by the authors' own Lean function (tested against real Go, not proved from fmt's source: count such statements apart). THE CARD IS WHAT COUNTS. Prove the row's statement (the work); the ties are given (YtbeaicmjohlboaaGreatDoorTie.lean); close each card by the builder's one call (the guide's Derived/Test/ToyasCard.lean, 'card_holds'). Laid BY PROGRAM, IN A SANDBOX (cutbox-door.mjs). By AI agents, Wed Nov 11 2026. No macro, syntax, notation, axiom, sorry.
-/
import Derived.Test.YtbeaicmjohlboaaGreatDoorRows
import GoSem.ClaimSeven
namespace Go.Proofs.YtbeaicmjohlboaaGreatDoor
namespace Rows

/-- THE TIED CARD OF 'trestlelaw08.TernSettles'. -/
def ternSettlesCard : Claim7 := { stood := { row := ternSettlesRow, standIns := [], harness := (true, "4c1e60eb944fcae84ff62c22ba585204ebd11b86a7d23db405e6b9922abe06f1"), looks := true }, kinds := [], alts := [], laidByText := true, laidKinds := [.data, .data], laidTests := true, laidLooks := .later }
def TernSettlesCardSaid : Prop := Claim7.holds Tryz.pinned (.plain (OpenSpec.ofChange ternSettlesSpec)) ternSettlesCard

/-- THE SECOND FORM's CARD OF 'trestlelaw08.TernSettles'. -/
def ternSettlesUptoCard : Claim7 := { stood := { row := ternSettlesUptoRow, standIns := [], harness := (true, "4c1e60eb944fcae84ff62c22ba585204ebd11b86a7d23db405e6b9922abe06f1"), looks := true }, kinds := [], alts := [], laidByText := true, laidKinds := [.data, .data], laidTests := true, laidLooks := .later }
def TernSettlesUptoCardSaid : Prop := Claim7.holds Tryz.pinned (.plain (OpenSpec.upto ternSettlesSpec)) ternSettlesUptoCard
end Rows
end Go.Proofs.YtbeaicmjohlboaaGreatDoor
