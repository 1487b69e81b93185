/-
  DERIVED. GIVEN WITH THE SEED: THE CARDS: each row of YtagffmalmkcboaaDoorRows.lean that lists a variable, with what it lists TIED to the program's text (the seventh form; the later family's looks); each row that meets fmt, with fmt's text TOLD by the authors' own Lean function (tested against real Go, not proved from fmt's source: count such statements apart). THE CARD IS WHAT COUNTS. Prove the row's statement (the work); the ties are given (YtagffmalmkcboaaDoorTie.lean); close each card by the builder's one call (the guide's Derived/Test/ToyasCard.lean, 'card_holds'). Laid BY PROGRAM, IN A SANDBOX (cutbox-door.mjs). By AI agents, Wed Nov 11 2026. No macro, syntax, notation, axiom, sorry.
-/
import Derived.Test.YtagffmalmkcboaaDoorRows
import GoSem.ClaimSeven
namespace Go.Proofs.YtagffmalmkcboaaDoor
namespace Rows

/-- THE TIED CARD OF 'trestlelaw11.SweepSettles'. -/
def sweepSettlesCard : Claim7 := { stood := { row := sweepSettlesRow, standIns := [], harness := (true, "08220bc88075a48fac9760d5dd860549ba95f004d7e1ad365e1b42b1af5ed8ac"), looks := true }, kinds := [], alts := [], laidByText := true, laidKinds := [.data, .data], laidTests := true, laidLooks := .later }
def SweepSettlesCardSaid : Prop := Claim7.holds Tryd.pinned (.plain (OpenSpec.ofChange sweepSettlesSpec)) sweepSettlesCard

/-- THE TIED CARD OF 'trestlelaw12.StimPrints'. -/
def stimPrintsCard : Claim7 := { stood := { row := stimPrintsRow, standIns := [], harness := (true, "08220bc88075a48fac9760d5dd860549ba95f004d7e1ad365e1b42b1af5ed8ac"), looks := true }, kinds := [], alts := [], laidByText := true, laidKinds := [.data, .data, .data, .data, .sentinel, .sentinel, .pinned], laidTests := true, laidLooks := .later }
def StimPrintsCardSaid : Prop := Claim7.holds Tryd.pinned (.plain (OpenSpec.ofChange stimPrintsSpec)) stimPrintsCard

/-- THE TIED CARD OF 'trestlelaw12.StimBack'. -/
def stimBackCard : Claim7 := { stood := { row := stimBackRow, standIns := [], harness := (true, "08220bc88075a48fac9760d5dd860549ba95f004d7e1ad365e1b42b1af5ed8ac"), looks := true }, kinds := [], alts := [], laidByText := true, laidKinds := [.data, .data, .data, .data, .sentinel, .sentinel, .pinned], laidTests := true, laidLooks := .later }
def StimBackCardSaid : Prop := Claim7.holds Tryd.pinned (.plain (OpenSpec.ofChange stimBackSpec)) stimBackCard

/-- THE TIED CARD OF 'trestlelaw12.StimForth'. -/
def stimForthCard : Claim7 := { stood := { row := stimForthRow, standIns := [], harness := (true, "08220bc88075a48fac9760d5dd860549ba95f004d7e1ad365e1b42b1af5ed8ac"), looks := true }, kinds := [], alts := [], laidByText := true, laidKinds := [.data, .data, .data, .data, .sentinel, .sentinel, .pinned], laidTests := true, laidLooks := .later }
def StimForthCardSaid : Prop := Claim7.holds Tryd.pinned (.plain (OpenSpec.ofChange stimForthSpec)) stimForthCard

/-- THE SECOND FORM's CARD OF 'trestlelaw11.SweepSettles'. -/
def sweepSettlesUptoCard : Claim7 := { stood := { row := sweepSettlesUptoRow, standIns := [], harness := (true, "08220bc88075a48fac9760d5dd860549ba95f004d7e1ad365e1b42b1af5ed8ac"), looks := true }, kinds := [], alts := [], laidByText := true, laidKinds := [.data, .data], laidTests := true, laidLooks := .later }
def SweepSettlesUptoCardSaid : Prop := Claim7.holds Tryd.pinned (.plain (OpenSpec.upto sweepSettlesSpec)) sweepSettlesUptoCard

/-- THE SECOND FORM's CARD OF 'trestlelaw12.StimPrints'. -/
def stimPrintsUptoCard : Claim7 := { stood := { row := stimPrintsUptoRow, standIns := [], harness := (true, "08220bc88075a48fac9760d5dd860549ba95f004d7e1ad365e1b42b1af5ed8ac"), looks := true }, kinds := [], alts := [], laidByText := true, laidKinds := [.data, .data, .data, .data, .sentinel, .sentinel, .pinned], laidTests := true, laidLooks := .later }
def StimPrintsUptoCardSaid : Prop := Claim7.holds Tryd.pinned (.plain (OpenSpec.upto stimPrintsSpec)) stimPrintsUptoCard

/-- THE SECOND FORM's CARD OF 'trestlelaw12.StimBack'. -/
def stimBackUptoCard : Claim7 := { stood := { row := stimBackUptoRow, standIns := [], harness := (true, "08220bc88075a48fac9760d5dd860549ba95f004d7e1ad365e1b42b1af5ed8ac"), looks := true }, kinds := [], alts := [], laidByText := true, laidKinds := [.data, .data, .data, .data, .sentinel, .sentinel, .pinned], laidTests := true, laidLooks := .later }
def StimBackUptoCardSaid : Prop := Claim7.holds Tryd.pinned (.plain (OpenSpec.upto stimBackSpec)) stimBackUptoCard

/-- THE SECOND FORM's CARD OF 'trestlelaw12.StimForth'. -/
def stimForthUptoCard : Claim7 := { stood := { row := stimForthUptoRow, standIns := [], harness := (true, "08220bc88075a48fac9760d5dd860549ba95f004d7e1ad365e1b42b1af5ed8ac"), looks := true }, kinds := [], alts := [], laidByText := true, laidKinds := [.data, .data, .data, .data, .sentinel, .sentinel, .pinned], laidTests := true, laidLooks := .later }
def StimForthUptoCardSaid : Prop := Claim7.holds Tryd.pinned (.plain (OpenSpec.upto stimForthSpec)) stimForthUptoCard
end Rows
end Go.Proofs.YtagffmalmkcboaaDoor
