/-
  DERIVED. GIVEN WITH THE SEED: THE CARDS: each row of YtcclclginhhlaaaDoorRows.lean that lists a variable, with what it lists TIED to the program's text (the seventh form; the later family's looks); each row that meets fmt, with fmt's text TOLD by the authors' own Lean function (tested against real Go, not proved from fmt's source: count such statements apart). THE CARD IS WHAT COUNTS. Prove the row's statement (the work); the ties are given (YtcclclginhhlaaaDoorTie.lean); close each card by the builder's one call (the guide's Derived/Test/ToyasCard.lean, 'card_holds'). Laid BY PROGRAM, IN A SANDBOX (cutbox-door.mjs). By AI agents, Wed Nov 11 2026. No macro, syntax, notation, axiom, sorry.
-/
import Derived.Test.YtcclclginhhlaaaDoorRows
import GoSem.ClaimSeven
namespace Go.Proofs.YtcclclginhhlaaaDoor
namespace Rows

/-- THE TIED CARD OF 'corollarylaw01.BigNames'. -/
def bigNamesCard : Claim7 := { stood := { row := bigNamesRow, standIns := [], harness := (true, "652dad18aa942bbb01fe3c830ac5957ad1272012d1d4f2436b4146b633cda7a8"), looks := true }, kinds := [], alts := [], laidByText := true, laidKinds := [.data, .data, .data, .sentinel, .sentinel], laidTests := true, laidLooks := .later }
def BigNamesCardSaid : Prop := Claim7.holds Tryd.pinned (.plain (OpenSpec.ofChange bigNamesSpec)) bigNamesCard

/-- THE TIED CARD OF 'corollarylaw01.BigChecks'. -/
def bigChecksCard : Claim7 := { stood := { row := bigChecksRow, standIns := [], harness := (true, "652dad18aa942bbb01fe3c830ac5957ad1272012d1d4f2436b4146b633cda7a8"), looks := true }, kinds := [], alts := [], laidByText := true, laidKinds := [.data, .data, .data, .sentinel, .sentinel], laidTests := true, laidLooks := .later }
def BigChecksCardSaid : Prop := Claim7.holds Tryd.pinned (.plain (OpenSpec.ofChange bigChecksSpec)) bigChecksCard

/-- THE TIED CARD OF 'corollarylaw01.BigOrders'. -/
def bigOrdersCard : Claim7 := { stood := { row := bigOrdersRow, standIns := [], harness := (true, "652dad18aa942bbb01fe3c830ac5957ad1272012d1d4f2436b4146b633cda7a8"), looks := true }, kinds := [], alts := [], laidByText := true, laidKinds := [.data, .data, .data], laidTests := true, laidLooks := .later }
def BigOrdersCardSaid : Prop := Claim7.holds Tryd.pinned (.plain (OpenSpec.ofChange bigOrdersSpec)) bigOrdersCard

/-- THE TIED CARD OF 'corollarylaw01.BigAdds'. -/
def bigAddsCard : Claim7 := { stood := { row := bigAddsRow, standIns := [], harness := (true, "652dad18aa942bbb01fe3c830ac5957ad1272012d1d4f2436b4146b633cda7a8"), looks := true }, kinds := [], alts := [], laidByText := true, laidKinds := [.data, .data, .data], laidTests := true, laidLooks := .later }
def BigAddsCardSaid : Prop := Claim7.holds Tryd.pinned (.plain (OpenSpec.ofChange bigAddsSpec)) bigAddsCard

/-- THE TIED CARD OF 'corollarylaw01.BigMuls'. -/
def bigMulsCard : Claim7 := { stood := { row := bigMulsRow, standIns := [], harness := (true, "652dad18aa942bbb01fe3c830ac5957ad1272012d1d4f2436b4146b633cda7a8"), looks := true }, kinds := [], alts := [], laidByText := true, laidKinds := [.data, .data, .data], laidTests := true, laidLooks := .later }
def BigMulsCardSaid : Prop := Claim7.holds Tryd.pinned (.plain (OpenSpec.ofChange bigMulsSpec)) bigMulsCard

/-- THE TIED CARD OF 'corollarylaw01.BigDivs'. -/
def bigDivsCard : Claim7 := { stood := { row := bigDivsRow, standIns := [], harness := (true, "652dad18aa942bbb01fe3c830ac5957ad1272012d1d4f2436b4146b633cda7a8"), looks := true }, kinds := [], alts := [], laidByText := true, laidKinds := [.data, .data, .data], laidTests := true, laidLooks := .later }
def BigDivsCardSaid : Prop := Claim7.holds Tryd.pinned (.plain (OpenSpec.ofChange bigDivsSpec)) bigDivsCard

/-- THE TIED CARD OF 'corollarylaw01.BigRing'. -/
def bigRingCard : Claim7 := { stood := { row := bigRingRow, standIns := [], harness := (true, "652dad18aa942bbb01fe3c830ac5957ad1272012d1d4f2436b4146b633cda7a8"), looks := true }, kinds := [], alts := [], laidByText := true, laidKinds := [.data, .data, .data], laidTests := true, laidLooks := .later }
def BigRingCardSaid : Prop := Claim7.holds Tryd.pinned (.plain (OpenSpec.ofChange bigRingSpec)) bigRingCard

/-- THE TIED CARD OF 'corollarylaw01.BigRest'. -/
def bigRestCard : Claim7 := { stood := { row := bigRestRow, standIns := [], harness := (true, "652dad18aa942bbb01fe3c830ac5957ad1272012d1d4f2436b4146b633cda7a8"), looks := true }, kinds := [], alts := [], laidByText := true, laidKinds := [.data, .data, .data], laidTests := true, laidLooks := .later }
def BigRestCardSaid : Prop := Claim7.holds Tryd.pinned (.plain (OpenSpec.ofChange bigRestSpec)) bigRestCard

/-- THE TIED CARD OF 'corollarylaw01.BigOrder'. -/
def bigOrderCard : Claim7 := { stood := { row := bigOrderRow, standIns := [], harness := (true, "652dad18aa942bbb01fe3c830ac5957ad1272012d1d4f2436b4146b633cda7a8"), looks := true }, kinds := [], alts := [], laidByText := true, laidKinds := [.data, .data, .data], laidTests := true, laidLooks := .later }
def BigOrderCardSaid : Prop := Claim7.holds Tryd.pinned (.plain (OpenSpec.ofChange bigOrderSpec)) bigOrderCard

/-- THE SECOND FORM's CARD OF 'corollarylaw01.BigNames'. -/
def bigNamesUptoCard : Claim7 := { stood := { row := bigNamesUptoRow, standIns := [], harness := (true, "652dad18aa942bbb01fe3c830ac5957ad1272012d1d4f2436b4146b633cda7a8"), looks := true }, kinds := [], alts := [], laidByText := true, laidKinds := [.data, .data, .data, .sentinel, .sentinel], laidTests := true, laidLooks := .later }
def BigNamesUptoCardSaid : Prop := Claim7.holds Tryd.pinned (.plain (OpenSpec.upto bigNamesSpec)) bigNamesUptoCard

/-- THE SECOND FORM's CARD OF 'corollarylaw01.BigChecks'. -/
def bigChecksUptoCard : Claim7 := { stood := { row := bigChecksUptoRow, standIns := [], harness := (true, "652dad18aa942bbb01fe3c830ac5957ad1272012d1d4f2436b4146b633cda7a8"), looks := true }, kinds := [], alts := [], laidByText := true, laidKinds := [.data, .data, .data, .sentinel, .sentinel], laidTests := true, laidLooks := .later }
def BigChecksUptoCardSaid : Prop := Claim7.holds Tryd.pinned (.plain (OpenSpec.upto bigChecksSpec)) bigChecksUptoCard

/-- THE SECOND FORM's CARD OF 'corollarylaw01.BigOrders'. -/
def bigOrdersUptoCard : Claim7 := { stood := { row := bigOrdersUptoRow, standIns := [], harness := (true, "652dad18aa942bbb01fe3c830ac5957ad1272012d1d4f2436b4146b633cda7a8"), looks := true }, kinds := [], alts := [], laidByText := true, laidKinds := [.data, .data, .data], laidTests := true, laidLooks := .later }
def BigOrdersUptoCardSaid : Prop := Claim7.holds Tryd.pinned (.plain (OpenSpec.upto bigOrdersSpec)) bigOrdersUptoCard

/-- THE SECOND FORM's CARD OF 'corollarylaw01.BigAdds'. -/
def bigAddsUptoCard : Claim7 := { stood := { row := bigAddsUptoRow, standIns := [], harness := (true, "652dad18aa942bbb01fe3c830ac5957ad1272012d1d4f2436b4146b633cda7a8"), looks := true }, kinds := [], alts := [], laidByText := true, laidKinds := [.data, .data, .data], laidTests := true, laidLooks := .later }
def BigAddsUptoCardSaid : Prop := Claim7.holds Tryd.pinned (.plain (OpenSpec.upto bigAddsSpec)) bigAddsUptoCard

/-- THE SECOND FORM's CARD OF 'corollarylaw01.BigMuls'. -/
def bigMulsUptoCard : Claim7 := { stood := { row := bigMulsUptoRow, standIns := [], harness := (true, "652dad18aa942bbb01fe3c830ac5957ad1272012d1d4f2436b4146b633cda7a8"), looks := true }, kinds := [], alts := [], laidByText := true, laidKinds := [.data, .data, .data], laidTests := true, laidLooks := .later }
def BigMulsUptoCardSaid : Prop := Claim7.holds Tryd.pinned (.plain (OpenSpec.upto bigMulsSpec)) bigMulsUptoCard

/-- THE SECOND FORM's CARD OF 'corollarylaw01.BigDivs'. -/
def bigDivsUptoCard : Claim7 := { stood := { row := bigDivsUptoRow, standIns := [], harness := (true, "652dad18aa942bbb01fe3c830ac5957ad1272012d1d4f2436b4146b633cda7a8"), looks := true }, kinds := [], alts := [], laidByText := true, laidKinds := [.data, .data, .data], laidTests := true, laidLooks := .later }
def BigDivsUptoCardSaid : Prop := Claim7.holds Tryd.pinned (.plain (OpenSpec.upto bigDivsSpec)) bigDivsUptoCard

/-- THE SECOND FORM's CARD OF 'corollarylaw01.BigRing'. -/
def bigRingUptoCard : Claim7 := { stood := { row := bigRingUptoRow, standIns := [], harness := (true, "652dad18aa942bbb01fe3c830ac5957ad1272012d1d4f2436b4146b633cda7a8"), looks := true }, kinds := [], alts := [], laidByText := true, laidKinds := [.data, .data, .data], laidTests := true, laidLooks := .later }
def BigRingUptoCardSaid : Prop := Claim7.holds Tryd.pinned (.plain (OpenSpec.upto bigRingSpec)) bigRingUptoCard

/-- THE SECOND FORM's CARD OF 'corollarylaw01.BigRest'. -/
def bigRestUptoCard : Claim7 := { stood := { row := bigRestUptoRow, standIns := [], harness := (true, "652dad18aa942bbb01fe3c830ac5957ad1272012d1d4f2436b4146b633cda7a8"), looks := true }, kinds := [], alts := [], laidByText := true, laidKinds := [.data, .data, .data], laidTests := true, laidLooks := .later }
def BigRestUptoCardSaid : Prop := Claim7.holds Tryd.pinned (.plain (OpenSpec.upto bigRestSpec)) bigRestUptoCard

/-- THE SECOND FORM's CARD OF 'corollarylaw01.BigOrder'. -/
def bigOrderUptoCard : Claim7 := { stood := { row := bigOrderUptoRow, standIns := [], harness := (true, "652dad18aa942bbb01fe3c830ac5957ad1272012d1d4f2436b4146b633cda7a8"), looks := true }, kinds := [], alts := [], laidByText := true, laidKinds := [.data, .data, .data], laidTests := true, laidLooks := .later }
def BigOrderUptoCardSaid : Prop := Claim7.holds Tryd.pinned (.plain (OpenSpec.upto bigOrderSpec)) bigOrderUptoCard
end Rows
end Go.Proofs.YtcclclginhhlaaaDoor
