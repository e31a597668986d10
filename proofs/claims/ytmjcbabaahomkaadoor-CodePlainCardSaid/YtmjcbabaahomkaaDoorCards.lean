/-
  DERIVED. GIVEN WITH THE SEED: THE CARDS: each row of YtmjcbabaahomkaaDoorRows.lean that lists a variable, with what it lists TIED to the program's text (the seventh form; the later family's looks); each row that meets fmt, with fmt's text TOLD by the authors' own Lean function (tested against real Go, not proved from fmt's source: count such statements apart). THE CARD IS WHAT COUNTS. Prove the row's statement (the work); the ties are given (YtmjcbabaahomkaaDoorTie.lean); close each card by the builder's one call (the guide's Derived/Test/ToyasCard.lean, 'card_holds'). Laid BY PROGRAM, IN A SANDBOX (cutbox-door.mjs). By AI agents, Wed Nov 11 2026. No macro, syntax, notation, axiom, sorry.
-/
import Derived.Test.YtmjcbabaahomkaaDoorRows
import GoSem.ClaimSeven
namespace Go.Proofs.YtmjcbabaahomkaaDoor
namespace Rows

/-- THE TIED CARD OF 'corollarylaw03.CodePlain'. -/
def codePlainCard : Claim7 := { stood := { row := codePlainRow, standIns := [], harness := (true, "2883e0c8434a66931c6d7fec8bb6579664df5c190fbd3b2a84f6b4d5647dd986"), looks := false }, kinds := [], alts := [], laidByText := true, laidKinds := [.data, .pinned], laidTests := true, laidLooks := .later }
def CodePlainCardSaid : Prop := Claim7.holds Tryd.pinned (.plain (OpenSpec.ofChange codePlainSpec)) codePlainCard

/-- THE TIED CARD OF 'corollarylaw03.CodeShort'. -/
def codeShortCard : Claim7 := { stood := { row := codeShortRow, standIns := [], harness := (true, "2883e0c8434a66931c6d7fec8bb6579664df5c190fbd3b2a84f6b4d5647dd986"), looks := false }, kinds := [], alts := [], laidByText := true, laidKinds := [.data, .pinned], laidTests := true, laidLooks := .later }
def CodeShortCardSaid : Prop := Claim7.holds Tryd.pinned (.plain (OpenSpec.ofChange codeShortSpec)) codeShortCard

/-- THE TIED CARD OF 'corollarylaw04.InternPlays'. -/
def internPlaysCard : Claim7 := { stood := { row := internPlaysRow, standIns := [], harness := (true, "2883e0c8434a66931c6d7fec8bb6579664df5c190fbd3b2a84f6b4d5647dd986"), looks := false }, kinds := [], alts := [], laidByText := true, laidKinds := [.data, .data, .data], laidTests := true, laidLooks := .later }
def InternPlaysCardSaid : Prop := Claim7.holds Tryd.pinned (.plain (OpenSpec.ofChange internPlaysSpec)) internPlaysCard

/-- THE TIED CARD OF 'corollarylaw04.InternNames'. -/
def internNamesCard : Claim7 := { stood := { row := internNamesRow, standIns := [], harness := (true, "2883e0c8434a66931c6d7fec8bb6579664df5c190fbd3b2a84f6b4d5647dd986"), looks := false }, kinds := [], alts := [], laidByText := true, laidKinds := [.data, .data, .data], laidTests := true, laidLooks := .later }
def InternNamesCardSaid : Prop := Claim7.holds Tryd.pinned (.plain (OpenSpec.ofChange internNamesSpec)) internNamesCard

/-- THE SECOND FORM's CARD OF 'corollarylaw03.CodePlain'. -/
def codePlainUptoCard : Claim7 := { stood := { row := codePlainUptoRow, standIns := [], harness := (true, "2883e0c8434a66931c6d7fec8bb6579664df5c190fbd3b2a84f6b4d5647dd986"), looks := false }, kinds := [], alts := [], laidByText := true, laidKinds := [.data, .pinned], laidTests := true, laidLooks := .later }
def CodePlainUptoCardSaid : Prop := Claim7.holds Tryd.pinned (.plain (OpenSpec.upto codePlainSpec)) codePlainUptoCard

/-- THE SECOND FORM's CARD OF 'corollarylaw03.CodeShort'. -/
def codeShortUptoCard : Claim7 := { stood := { row := codeShortUptoRow, standIns := [], harness := (true, "2883e0c8434a66931c6d7fec8bb6579664df5c190fbd3b2a84f6b4d5647dd986"), looks := false }, kinds := [], alts := [], laidByText := true, laidKinds := [.data, .pinned], laidTests := true, laidLooks := .later }
def CodeShortUptoCardSaid : Prop := Claim7.holds Tryd.pinned (.plain (OpenSpec.upto codeShortSpec)) codeShortUptoCard

/-- THE SECOND FORM's CARD OF 'corollarylaw04.InternPlays'. -/
def internPlaysUptoCard : Claim7 := { stood := { row := internPlaysUptoRow, standIns := [], harness := (true, "2883e0c8434a66931c6d7fec8bb6579664df5c190fbd3b2a84f6b4d5647dd986"), looks := false }, kinds := [], alts := [], laidByText := true, laidKinds := [.data, .data, .data], laidTests := true, laidLooks := .later }
def InternPlaysUptoCardSaid : Prop := Claim7.holds Tryd.pinned (.plain (OpenSpec.upto internPlaysSpec)) internPlaysUptoCard

/-- THE SECOND FORM's CARD OF 'corollarylaw04.InternNames'. -/
def internNamesUptoCard : Claim7 := { stood := { row := internNamesUptoRow, standIns := [], harness := (true, "2883e0c8434a66931c6d7fec8bb6579664df5c190fbd3b2a84f6b4d5647dd986"), looks := false }, kinds := [], alts := [], laidByText := true, laidKinds := [.data, .data, .data], laidTests := true, laidLooks := .later }
def InternNamesUptoCardSaid : Prop := Claim7.holds Tryd.pinned (.plain (OpenSpec.upto internNamesSpec)) internNamesUptoCard
end Rows
end Go.Proofs.YtmjcbabaahomkaaDoor
