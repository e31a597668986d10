/-
  DERIVED. GIVEN WITH THE SEED: THE CARDS: each row of YtagmgkkicodbiaaGreatDoorRows.lean that lists a variable, with what it lists TIED to the program's text (the seventh form; the later family's looks); each row that meets fmt, with fmt's text TOLD by the authors' own Lean function (tested against real Go, not proved from fmt's source: count such statements apart). THE CARD IS WHAT COUNTS. Prove the row's statement (the work); the ties are given (YtagmgkkicodbiaaGreatDoorTie.lean); close each card by the builder's one call (the guide's Derived/Test/ToyasCard.lean, 'card_holds'). Laid BY PROGRAM, IN A SANDBOX (cutbox-door.mjs). By AI agents, Wed Nov 11 2026. No macro, syntax, notation, axiom, sorry.
-/
import Derived.Test.YtagmgkkicodbiaaGreatDoorRows
import GoSem.ClaimSeven
namespace Go.Proofs.YtagmgkkicodbiaaGreatDoor
namespace Rows

/-- THE TIED CARD OF 'corollarylaw10.DeclPuts'. -/
def declPutsCard : Claim7 := { stood := { row := declPutsRow, standIns := [], harness := (true, "214b568210968f9a24c27094a6984bc11567a341654fefc2aa100d989d48dbe2"), looks := true }, kinds := [], alts := [], laidByText := true, laidKinds := [.handle], laidTests := true, laidLooks := .later }
def DeclPutsCardSaid : Prop := Claim7.holds Tryz.pinned (.plain (OpenSpec.ofChange declPutsSpec)) declPutsCard

/-- THE SECOND FORM's CARD OF 'corollarylaw10.DeclPuts'. -/
def declPutsUptoCard : Claim7 := { stood := { row := declPutsUptoRow, standIns := [], harness := (true, "214b568210968f9a24c27094a6984bc11567a341654fefc2aa100d989d48dbe2"), looks := true }, kinds := [], alts := [], laidByText := true, laidKinds := [.handle], laidTests := true, laidLooks := .later }
def DeclPutsUptoCardSaid : Prop := Claim7.holds Tryz.pinned (.plain (OpenSpec.upto declPutsSpec)) declPutsUptoCard
end Rows
end Go.Proofs.YtagmgkkicodbiaaGreatDoor
