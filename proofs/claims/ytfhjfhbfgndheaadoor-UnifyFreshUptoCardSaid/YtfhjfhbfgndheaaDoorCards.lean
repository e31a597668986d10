/-
  DERIVED. GIVEN WITH THE SEED: THE CARDS: each row of YtfhjfhbfgndheaaDoorRows.lean that lists a variable, with what it lists TIED to the program's text (the seventh form; the later family's looks); each row that meets fmt, with fmt's text TOLD by the authors' own Lean function (tested against real Go, not proved from fmt's source: count such statements apart). THE CARD IS WHAT COUNTS. Prove the row's statement (the work); the ties are given (YtfhjfhbfgndheaaDoorTie.lean); close each card by the builder's one call (the guide's Derived/Test/ToyasCard.lean, 'card_holds'). Laid BY PROGRAM, IN A SANDBOX (cutbox-door.mjs). By AI agents, Wed Nov 11 2026. No macro, syntax, notation, axiom, sorry.
-/
import Derived.Test.YtfhjfhbfgndheaaDoorRows
import GoSem.ClaimSeven
namespace Go.Proofs.YtfhjfhbfgndheaaDoor
namespace Rows

/-- THE TIED CARD OF 'corollarylaw09.UnifyFresh'. -/
def unifyFreshCard : Claim7 := { stood := { row := unifyFreshRow, standIns := [], harness := (true, "9a968b4b692d4b9dee751eb3b03e045d63c708e9c7672622573f6331ea769a39"), looks := true }, kinds := [], alts := [], laidByText := true, laidKinds := [.data, .data, .data, .sentinel, .sentinel], laidTests := true, laidLooks := .later }
def UnifyFreshCardSaid : Prop := Claim7.holds Tryd.pinned (.plain (OpenSpec.ofChange unifyFreshSpec)) unifyFreshCard

/-- THE SECOND FORM's CARD OF 'corollarylaw09.UnifyFresh'. -/
def unifyFreshUptoCard : Claim7 := { stood := { row := unifyFreshUptoRow, standIns := [], harness := (true, "9a968b4b692d4b9dee751eb3b03e045d63c708e9c7672622573f6331ea769a39"), looks := true }, kinds := [], alts := [], laidByText := true, laidKinds := [.data, .data, .data, .sentinel, .sentinel], laidTests := true, laidLooks := .later }
def UnifyFreshUptoCardSaid : Prop := Claim7.holds Tryd.pinned (.plain (OpenSpec.upto unifyFreshSpec)) unifyFreshUptoCard
end Rows
end Go.Proofs.YtfhjfhbfgndheaaDoor
