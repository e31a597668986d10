/-
  DERIVED. GIVEN WITH THE SEED: THE CARDS: each row of YtlopmpogmoiofaaGreatDoorRows.lean that lists a variable, with what it lists TIED to the program's text (the seventh form; the later family's looks); each row that meets fmt, with fmt's text TOLD by the authors' own Lean function (tested against real Go, not proved from fmt's source: count such statements apart). THE CARD IS WHAT COUNTS. Prove the row's statement (the work); the ties are given (YtlopmpogmoiofaaGreatDoorTie.lean); close each card by the builder's one call (the guide's Derived/Test/ToyasCard.lean, 'card_holds'). Laid BY PROGRAM, IN A SANDBOX (cutbox-door.mjs). By AI agents, Wed Nov 11 2026. No macro, syntax, notation, axiom, sorry.
-/
import Derived.Test.YtlopmpogmoiofaaGreatDoorRows
import GoSem.ClaimSeven
namespace Go.Proofs.YtlopmpogmoiofaaGreatDoor
namespace Rows

/-- THE TIED CARD OF 'corollarylaw12.CoverNames'. -/
def coverNamesCard : Claim7 := { stood := { row := coverNamesRow, standIns := [], harness := (true, "4595d9a3eb2d488ca473767cdd3f86b9e8e5d95b1b4ccfe0935c23a308606a5c"), looks := true }, kinds := [], alts := [], laidByText := true, laidKinds := [.data, .data, .data, .handle], laidTests := true, laidLooks := .later }
def CoverNamesCardSaid : Prop := Claim7.holds Tryz.pinned (.plain (OpenSpec.ofChange coverNamesSpec)) coverNamesCard

/-- THE SECOND FORM's CARD OF 'corollarylaw12.CoverNames'. -/
def coverNamesUptoCard : Claim7 := { stood := { row := coverNamesUptoRow, standIns := [], harness := (true, "4595d9a3eb2d488ca473767cdd3f86b9e8e5d95b1b4ccfe0935c23a308606a5c"), looks := true }, kinds := [], alts := [], laidByText := true, laidKinds := [.data, .data, .data, .handle], laidTests := true, laidLooks := .later }
def CoverNamesUptoCardSaid : Prop := Claim7.holds Tryz.pinned (.plain (OpenSpec.upto coverNamesSpec)) coverNamesUptoCard
end Rows
end Go.Proofs.YtlopmpogmoiofaaGreatDoor
