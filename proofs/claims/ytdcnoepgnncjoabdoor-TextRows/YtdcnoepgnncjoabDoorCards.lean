/-
  DERIVED. GIVEN WITH THE SEED: THE CARDS: each row of YtdcnoepgnncjoabDoorRows.lean that lists a variable, with what it lists TIED to the program's text (the seventh form; the later family's looks); each row that meets fmt, with fmt's text TOLD by the authors' own Lean function (tested against real Go, not proved from fmt's source: count such statements apart). THE CARD IS WHAT COUNTS. Prove the row's statement (the work); the ties are given (YtdcnoepgnncjoabDoorTie.lean); close each card by the builder's one call (the guide's Derived/Test/ToyasCard.lean, 'card_holds'). Laid BY PROGRAM, IN A SANDBOX (cutbox-door.mjs). By AI agents, Wed Nov 11 2026. No macro, syntax, notation, axiom, sorry.
-/
import Derived.Test.YtdcnoepgnncjoabDoorRows
import GoSem.ClaimSeven
namespace Go.Proofs.YtdcnoepgnncjoabDoor
namespace Rows

/-- THE TIED CARD OF 'cartularylaw03.TextWrong'. -/
def textWrongCard : Claim7 := { stood := { row := textWrongRow, standIns := [], harness := (true, "4fe195088e7e2b67cca31ee32a213009852f55e1fedffb1d60dfba1d431f6f20"), looks := true }, kinds := [], alts := [], laidByText := true, laidKinds := [.data, .handle, .sentinel, .sentinel, .sentinel, .sentinel, .sentinel, .sentinel, .sentinel, .sentinel, .sentinel, .sentinel, .sentinel, .sentinel, .sentinel, .sentinel, .sentinel, .sentinel, .data, .pinned], laidTests := true, laidLooks := .later }
def TextWrongCardSaid : Prop := Claim7.holds Tryd.pinned (.plain (OpenSpec.ofChange textWrongSpec)) textWrongCard

/-- THE TIED CARD OF 'cartularylaw03.TextRows'. -/
def textRowsCard : Claim7 := { stood := { row := textRowsRow, standIns := [], harness := (true, "4fe195088e7e2b67cca31ee32a213009852f55e1fedffb1d60dfba1d431f6f20"), looks := true }, kinds := [], alts := [], laidByText := true, laidKinds := [.data, .handle, .sentinel, .sentinel, .sentinel, .sentinel, .sentinel, .sentinel, .sentinel, .sentinel, .sentinel, .sentinel, .sentinel, .sentinel, .sentinel, .sentinel, .sentinel, .sentinel, .data, .pinned], laidTests := true, laidLooks := .later }
def TextRowsCardSaid : Prop := Claim7.holds Tryd.pinned (.plain (OpenSpec.ofChange textRowsSpec)) textRowsCard

/-- THE TIED CARD OF 'cartularylaw03.TextSeen'. -/
def textSeenCard : Claim7 := { stood := { row := textSeenRow, standIns := [], harness := (true, "4fe195088e7e2b67cca31ee32a213009852f55e1fedffb1d60dfba1d431f6f20"), looks := true }, kinds := [], alts := [], laidByText := true, laidKinds := [.data, .handle, .sentinel, .sentinel, .sentinel, .sentinel, .sentinel, .sentinel, .sentinel, .sentinel, .sentinel, .sentinel, .sentinel, .sentinel, .sentinel, .sentinel, .sentinel, .sentinel, .data, .pinned], laidTests := true, laidLooks := .later }
def TextSeenCardSaid : Prop := Claim7.holds Tryd.pinned (.plain (OpenSpec.ofChange textSeenSpec)) textSeenCard

/-- THE SECOND FORM's CARD OF 'cartularylaw03.TextWrong'. -/
def textWrongUptoCard : Claim7 := { stood := { row := textWrongUptoRow, standIns := [], harness := (true, "4fe195088e7e2b67cca31ee32a213009852f55e1fedffb1d60dfba1d431f6f20"), looks := true }, kinds := [], alts := [], laidByText := true, laidKinds := [.data, .handle, .sentinel, .sentinel, .sentinel, .sentinel, .sentinel, .sentinel, .sentinel, .sentinel, .sentinel, .sentinel, .sentinel, .sentinel, .sentinel, .sentinel, .sentinel, .sentinel, .data, .pinned], laidTests := true, laidLooks := .later }
def TextWrongUptoCardSaid : Prop := Claim7.holds Tryd.pinned (.plain (OpenSpec.upto textWrongSpec)) textWrongUptoCard

/-- THE SECOND FORM's CARD OF 'cartularylaw03.TextRows'. -/
def textRowsUptoCard : Claim7 := { stood := { row := textRowsUptoRow, standIns := [], harness := (true, "4fe195088e7e2b67cca31ee32a213009852f55e1fedffb1d60dfba1d431f6f20"), looks := true }, kinds := [], alts := [], laidByText := true, laidKinds := [.data, .handle, .sentinel, .sentinel, .sentinel, .sentinel, .sentinel, .sentinel, .sentinel, .sentinel, .sentinel, .sentinel, .sentinel, .sentinel, .sentinel, .sentinel, .sentinel, .sentinel, .data, .pinned], laidTests := true, laidLooks := .later }
def TextRowsUptoCardSaid : Prop := Claim7.holds Tryd.pinned (.plain (OpenSpec.upto textRowsSpec)) textRowsUptoCard

/-- THE SECOND FORM's CARD OF 'cartularylaw03.TextSeen'. -/
def textSeenUptoCard : Claim7 := { stood := { row := textSeenUptoRow, standIns := [], harness := (true, "4fe195088e7e2b67cca31ee32a213009852f55e1fedffb1d60dfba1d431f6f20"), looks := true }, kinds := [], alts := [], laidByText := true, laidKinds := [.data, .handle, .sentinel, .sentinel, .sentinel, .sentinel, .sentinel, .sentinel, .sentinel, .sentinel, .sentinel, .sentinel, .sentinel, .sentinel, .sentinel, .sentinel, .sentinel, .sentinel, .data, .pinned], laidTests := true, laidLooks := .later }
def TextSeenUptoCardSaid : Prop := Claim7.holds Tryd.pinned (.plain (OpenSpec.upto textSeenSpec)) textSeenUptoCard
end Rows
end Go.Proofs.YtdcnoepgnncjoabDoor
