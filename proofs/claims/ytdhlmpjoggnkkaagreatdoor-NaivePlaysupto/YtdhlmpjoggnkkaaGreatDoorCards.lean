/-
  DERIVED. GIVEN WITH THE SEED: THE CARDS: each row of YtdhlmpjoggnkkaaGreatDoorRows.lean that lists a variable, with what it lists TIED to the program's text (the seventh form; the later family's looks); each row that meets fmt, with fmt's text TOLD by the authors' own Lean function (tested against real Go, not proved from fmt's source: count such statements apart). THE CARD IS WHAT COUNTS. Prove the row's statement (the work); the ties are given (YtdhlmpjoggnkkaaGreatDoorTie.lean); close each card by the builder's one call (the guide's Derived/Test/ToyasCard.lean, 'card_holds'). Laid BY PROGRAM, IN A SANDBOX (cutbox-door.mjs). By AI agents, Wed Nov 11 2026. No macro, syntax, notation, axiom, sorry.
-/
import Derived.Test.YtdhlmpjoggnkkaaGreatDoorRows
import GoSem.ClaimSeven
namespace Go.Proofs.YtdhlmpjoggnkkaaGreatDoor
namespace Rows

/-- THE TIED CARD OF 'cartularylaw08.NaivePlays'. -/
def naivePlaysCard : Claim7 := { stood := { row := naivePlaysRow, standIns := [], harness := (true, "73511ce403a405ef6fed8976d3da768efef15e5be0d086db4e0d13499be197e2"), looks := true }, kinds := [], alts := [], laidByText := true, laidKinds := [.data, .data, .data, .handle, .sentinel, .sentinel, .sentinel, .sentinel, .sentinel, .sentinel, .sentinel, .sentinel, .sentinel, .sentinel, .sentinel, .sentinel, .sentinel, .sentinel, .sentinel, .sentinel, .data, .data], laidTests := true, laidLooks := .later }
def NaivePlaysCardSaid : Prop := Claim7.holds Tryz.pinned (.plain (OpenSpec.ofChange naivePlaysSpec)) naivePlaysCard

/-- THE TIED CARD OF 'cartularylaw09.CompactPlays'. -/
def compactPlaysCard : Claim7 := { stood := { row := compactPlaysRow, standIns := [], harness := (true, "73511ce403a405ef6fed8976d3da768efef15e5be0d086db4e0d13499be197e2"), looks := true }, kinds := [], alts := [], laidByText := true, laidKinds := [.data, .data, .data, .handle, .sentinel, .sentinel, .sentinel, .sentinel, .sentinel, .sentinel, .sentinel, .sentinel, .sentinel, .sentinel, .sentinel, .sentinel, .sentinel, .sentinel, .sentinel, .sentinel, .data, .data], laidTests := true, laidLooks := .later }
def CompactPlaysCardSaid : Prop := Claim7.holds Tryz.pinned (.plain (OpenSpec.ofChange compactPlaysSpec)) compactPlaysCard

/-- THE SECOND FORM's CARD OF 'cartularylaw08.NaivePlays'. -/
def naivePlaysUptoCard : Claim7 := { stood := { row := naivePlaysUptoRow, standIns := [], harness := (true, "73511ce403a405ef6fed8976d3da768efef15e5be0d086db4e0d13499be197e2"), looks := true }, kinds := [], alts := [], laidByText := true, laidKinds := [.data, .data, .data, .handle, .sentinel, .sentinel, .sentinel, .sentinel, .sentinel, .sentinel, .sentinel, .sentinel, .sentinel, .sentinel, .sentinel, .sentinel, .sentinel, .sentinel, .sentinel, .sentinel, .data, .data], laidTests := true, laidLooks := .later }
def NaivePlaysUptoCardSaid : Prop := Claim7.holds Tryz.pinned (.plain (OpenSpec.upto naivePlaysSpec)) naivePlaysUptoCard

/-- THE SECOND FORM's CARD OF 'cartularylaw09.CompactPlays'. -/
def compactPlaysUptoCard : Claim7 := { stood := { row := compactPlaysUptoRow, standIns := [], harness := (true, "73511ce403a405ef6fed8976d3da768efef15e5be0d086db4e0d13499be197e2"), looks := true }, kinds := [], alts := [], laidByText := true, laidKinds := [.data, .data, .data, .handle, .sentinel, .sentinel, .sentinel, .sentinel, .sentinel, .sentinel, .sentinel, .sentinel, .sentinel, .sentinel, .sentinel, .sentinel, .sentinel, .sentinel, .sentinel, .sentinel, .data, .data], laidTests := true, laidLooks := .later }
def CompactPlaysUptoCardSaid : Prop := Claim7.holds Tryz.pinned (.plain (OpenSpec.upto compactPlaysSpec)) compactPlaysUptoCard
end Rows
end Go.Proofs.YtdhlmpjoggnkkaaGreatDoor
