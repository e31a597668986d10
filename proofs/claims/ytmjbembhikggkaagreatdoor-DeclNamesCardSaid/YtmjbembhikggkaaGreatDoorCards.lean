/-
  DERIVED. GIVEN WITH THE SEED: THE CARDS: each row of YtmjbembhikggkaaGreatDoorRows.lean that lists a variable, with what it lists TIED to the program's text (the seventh form; the later family's looks); each row that meets fmt, with fmt's text TOLD by the authors' own Lean function (tested against real Go, not proved from fmt's source: count such statements apart). THE CARD IS WHAT COUNTS. Prove the row's statement (the work); the ties are given (YtmjbembhikggkaaGreatDoorTie.lean); close each card by the builder's one call (the guide's Derived/Test/ToyasCard.lean, 'card_holds'). Laid BY PROGRAM, IN A SANDBOX (cutbox-door.mjs). By AI agents, Wed Nov 11 2026. No macro, syntax, notation, axiom, sorry.
-/
import Derived.Test.YtmjbembhikggkaaGreatDoorRows
import GoSem.ClaimSeven
namespace Go.Proofs.YtmjbembhikggkaaGreatDoor
namespace Rows

/-- THE TIED CARD OF 'corollarylaw10.DeclNames'. -/
def declNamesCard : Claim7 := { stood := { row := declNamesRow, standIns := [], harness := (true, "79fa38b38f43df132355e3259a32648354c10f299e62cc890e10ab358a03c91b"), looks := true }, kinds := [], alts := [], laidByText := true, laidKinds := [.handle], laidTests := true, laidLooks := .later }
def DeclNamesCardSaid : Prop := Claim7.holds Tryz.pinned (.plain (OpenSpec.ofChange declNamesSpec)) declNamesCard

/-- THE SECOND FORM's CARD OF 'corollarylaw10.DeclNames'. -/
def declNamesUptoCard : Claim7 := { stood := { row := declNamesUptoRow, standIns := [], harness := (true, "79fa38b38f43df132355e3259a32648354c10f299e62cc890e10ab358a03c91b"), looks := true }, kinds := [], alts := [], laidByText := true, laidKinds := [.handle], laidTests := true, laidLooks := .later }
def DeclNamesUptoCardSaid : Prop := Claim7.holds Tryz.pinned (.plain (OpenSpec.upto declNamesSpec)) declNamesUptoCard
end Rows
end Go.Proofs.YtmjbembhikggkaaGreatDoor
