/-
  DERIVED. GIVEN WITH THE SEED: THE CARDS: each row of YtkjonddlmiedcaaDoorRows.lean that lists a variable, with what it lists TIED to the program's text (the seventh form; the later family's looks); each row that meets fmt, with fmt's text TOLD by the authors' own Lean function (tested against real Go, not proved from fmt's source: count such statements apart). THE CARD IS WHAT COUNTS. Prove the row's statement (the work); the ties are given (YtkjonddlmiedcaaDoorTie.lean); close each card by the builder's one call (the guide's Derived/Test/ToyasCard.lean, 'card_holds'). Laid BY PROGRAM, IN A SANDBOX (cutbox-door.mjs). By AI agents, Wed Nov 11 2026. No macro, syntax, notation, axiom, sorry.
-/
import Derived.Test.YtkjonddlmiedcaaDoorRows
import GoSem.ClaimSeven
namespace Go.Proofs.YtkjonddlmiedcaaDoor
namespace Rows

/-- THE TIED CARD OF 'cartularylaw10.EmitAll'. -/
def emitAllCard : Claim7 := { stood := { row := emitAllRow, standIns := [], harness := (true, "1fec17e43e1cb0182976c120a57e24dbc8679edd89df68a3775556b80fbd6b8e"), looks := true }, kinds := [], alts := [], laidByText := true, laidKinds := [.data, .handle, .sentinel, .sentinel, .sentinel, .sentinel, .sentinel, .sentinel, .sentinel, .sentinel, .sentinel, .sentinel, .sentinel, .sentinel, .sentinel, .sentinel, .sentinel, .sentinel, .data, .data], laidTests := true, laidLooks := .later }
def EmitAllCardSaid : Prop := Claim7.holds Tryd.pinned (.plain (OpenSpec.ofChange emitAllSpec)) emitAllCard

/-- THE SECOND FORM's CARD OF 'cartularylaw10.EmitAll'. -/
def emitAllUptoCard : Claim7 := { stood := { row := emitAllUptoRow, standIns := [], harness := (true, "1fec17e43e1cb0182976c120a57e24dbc8679edd89df68a3775556b80fbd6b8e"), looks := true }, kinds := [], alts := [], laidByText := true, laidKinds := [.data, .handle, .sentinel, .sentinel, .sentinel, .sentinel, .sentinel, .sentinel, .sentinel, .sentinel, .sentinel, .sentinel, .sentinel, .sentinel, .sentinel, .sentinel, .sentinel, .sentinel, .data, .data], laidTests := true, laidLooks := .later }
def EmitAllUptoCardSaid : Prop := Claim7.holds Tryd.pinned (.plain (OpenSpec.upto emitAllSpec)) emitAllUptoCard
end Rows
end Go.Proofs.YtkjonddlmiedcaaDoor
