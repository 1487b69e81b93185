/-
  DERIVED. GIVEN WITH THE SEED: THE CARDS: each row of YtjbglgmbnjdhcaaDoorRows.lean that lists a variable, with what it lists TIED to the program's text (the seventh form; the later family's looks); each row that meets fmt, with fmt's text TOLD by the authors' own Lean function (tested against real Go, not proved from fmt's source: count such statements apart). THE CARD IS WHAT COUNTS. Prove the row's statement (the work); the ties are given (YtjbglgmbnjdhcaaDoorTie.lean); close each card by the builder's one call (the guide's Derived/Test/ToyasCard.lean, 'card_holds'). Laid BY PROGRAM, IN A SANDBOX (cutbox-door.mjs). By AI agents, Wed Nov 11 2026. No macro, syntax, notation, axiom, sorry.
-/
import Derived.Test.YtjbglgmbnjdhcaaDoorRows
import GoSem.ClaimSeven
namespace Go.Proofs.YtjbglgmbnjdhcaaDoor
namespace Rows

/-- THE TIED CARD OF 'trestlelaw12.StimPrints'. -/
def stimPrintsCard : Claim7 := { stood := { row := stimPrintsRow, standIns := [], harness := (true, "64f5591be7cc099d2aad007b3d94b2f429fcdea17ede7af440ed20d4663ca830"), looks := true }, kinds := [], alts := [], laidByText := true, laidKinds := [.data, .data, .data, .data, .sentinel, .sentinel, .pinned], laidTests := true, laidLooks := .later }
def StimPrintsCardSaid : Prop := Claim7.holds Tryd.pinned (.plain (OpenSpec.ofChange stimPrintsSpec)) stimPrintsCard

/-- THE TIED CARD OF 'trestlelaw12.StimForth'. -/
def stimForthCard : Claim7 := { stood := { row := stimForthRow, standIns := [], harness := (true, "64f5591be7cc099d2aad007b3d94b2f429fcdea17ede7af440ed20d4663ca830"), looks := true }, kinds := [], alts := [], laidByText := true, laidKinds := [.data, .data, .data, .data, .sentinel, .sentinel, .pinned], laidTests := true, laidLooks := .later }
def StimForthCardSaid : Prop := Claim7.holds Tryd.pinned (.plain (OpenSpec.ofChange stimForthSpec)) stimForthCard

/-- THE SECOND FORM's CARD OF 'trestlelaw12.StimPrints'. -/
def stimPrintsUptoCard : Claim7 := { stood := { row := stimPrintsUptoRow, standIns := [], harness := (true, "64f5591be7cc099d2aad007b3d94b2f429fcdea17ede7af440ed20d4663ca830"), looks := true }, kinds := [], alts := [], laidByText := true, laidKinds := [.data, .data, .data, .data, .sentinel, .sentinel, .pinned], laidTests := true, laidLooks := .later }
def StimPrintsUptoCardSaid : Prop := Claim7.holds Tryd.pinned (.plain (OpenSpec.upto stimPrintsSpec)) stimPrintsUptoCard

/-- THE SECOND FORM's CARD OF 'trestlelaw12.StimForth'. -/
def stimForthUptoCard : Claim7 := { stood := { row := stimForthUptoRow, standIns := [], harness := (true, "64f5591be7cc099d2aad007b3d94b2f429fcdea17ede7af440ed20d4663ca830"), looks := true }, kinds := [], alts := [], laidByText := true, laidKinds := [.data, .data, .data, .data, .sentinel, .sentinel, .pinned], laidTests := true, laidLooks := .later }
def StimForthUptoCardSaid : Prop := Claim7.holds Tryd.pinned (.plain (OpenSpec.upto stimForthSpec)) stimForthUptoCard
end Rows
end Go.Proofs.YtjbglgmbnjdhcaaDoor
