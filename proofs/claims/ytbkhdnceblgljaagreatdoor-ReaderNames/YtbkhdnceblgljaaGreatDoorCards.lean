/-
  DERIVED. GIVEN WITH THE SEED: THE CARDS: each row of YtbkhdnceblgljaaGreatDoorRows.lean that lists a variable, with what it lists TIED to the program's text (the seventh form; the later family's looks); each row that meets fmt, with fmt's text TOLD by the authors' own Lean function (tested against real Go, not proved from fmt's source: count such statements apart). THE CARD IS WHAT COUNTS. Prove the row's statement (the work); the ties are given (YtbkhdnceblgljaaGreatDoorTie.lean); close each card by the builder's one call (the guide's Derived/Test/ToyasCard.lean, 'card_holds'). Laid BY PROGRAM, IN A SANDBOX (cutbox-door.mjs). By AI agents, Wed Nov 11 2026. No macro, syntax, notation, axiom, sorry.
-/
import Derived.Test.YtbkhdnceblgljaaGreatDoorRows
import GoSem.ClaimSeven
namespace Go.Proofs.YtbkhdnceblgljaaGreatDoor
namespace Rows

/-- THE TIED CARD OF 'cartularylaw14.ReaderNodes'. -/
def readerNodesCard : Claim7 := { stood := { row := readerNodesRow, standIns := [], harness := (true, "56be6184577d12ac024e5d3feab8b11ab2c41fb9dcdefa589ae622a837599f9d"), looks := true }, kinds := [], alts := [], laidByText := true, laidKinds := [.data, .data, .data, .handle, .sentinel, .sentinel, .sentinel, .sentinel, .sentinel, .sentinel, .sentinel, .sentinel, .sentinel, .sentinel, .sentinel, .sentinel, .sentinel, .sentinel, .sentinel, .sentinel, .data, .data], laidTests := true, laidLooks := .later }
def ReaderNodesCardSaid : Prop := Claim7.holds Tryz.pinned (.plain (OpenSpec.ofChange readerNodesSpec)) readerNodesCard

/-- THE TIED CARD OF 'cartularylaw14.ReaderKeeps'. -/
def readerKeepsCard : Claim7 := { stood := { row := readerKeepsRow, standIns := [], harness := (true, "56be6184577d12ac024e5d3feab8b11ab2c41fb9dcdefa589ae622a837599f9d"), looks := true }, kinds := [], alts := [], laidByText := true, laidKinds := [.data, .data, .data, .handle, .sentinel, .sentinel, .sentinel, .sentinel, .sentinel, .sentinel, .sentinel, .sentinel, .sentinel, .sentinel, .sentinel, .sentinel, .sentinel, .sentinel, .sentinel, .sentinel, .data, .data], laidTests := true, laidLooks := .later }
def ReaderKeepsCardSaid : Prop := Claim7.holds Tryz.pinned (.plain (OpenSpec.ofChange readerKeepsSpec)) readerKeepsCard

/-- THE TIED CARD OF 'cartularylaw14.ReaderNames'. -/
def readerNamesCard : Claim7 := { stood := { row := readerNamesRow, standIns := [], harness := (true, "56be6184577d12ac024e5d3feab8b11ab2c41fb9dcdefa589ae622a837599f9d"), looks := true }, kinds := [], alts := [], laidByText := true, laidKinds := [.data, .data, .data, .handle, .sentinel, .sentinel, .sentinel, .sentinel, .sentinel, .sentinel, .sentinel, .sentinel, .sentinel, .sentinel, .sentinel, .sentinel, .sentinel, .sentinel, .sentinel, .sentinel, .data, .data], laidTests := true, laidLooks := .later }
def ReaderNamesCardSaid : Prop := Claim7.holds Tryz.pinned (.plain (OpenSpec.ofChange readerNamesSpec)) readerNamesCard

/-- THE SECOND FORM's CARD OF 'cartularylaw14.ReaderNodes'. -/
def readerNodesUptoCard : Claim7 := { stood := { row := readerNodesUptoRow, standIns := [], harness := (true, "56be6184577d12ac024e5d3feab8b11ab2c41fb9dcdefa589ae622a837599f9d"), looks := true }, kinds := [], alts := [], laidByText := true, laidKinds := [.data, .data, .data, .handle, .sentinel, .sentinel, .sentinel, .sentinel, .sentinel, .sentinel, .sentinel, .sentinel, .sentinel, .sentinel, .sentinel, .sentinel, .sentinel, .sentinel, .sentinel, .sentinel, .data, .data], laidTests := true, laidLooks := .later }
def ReaderNodesUptoCardSaid : Prop := Claim7.holds Tryz.pinned (.plain (OpenSpec.upto readerNodesSpec)) readerNodesUptoCard

/-- THE SECOND FORM's CARD OF 'cartularylaw14.ReaderKeeps'. -/
def readerKeepsUptoCard : Claim7 := { stood := { row := readerKeepsUptoRow, standIns := [], harness := (true, "56be6184577d12ac024e5d3feab8b11ab2c41fb9dcdefa589ae622a837599f9d"), looks := true }, kinds := [], alts := [], laidByText := true, laidKinds := [.data, .data, .data, .handle, .sentinel, .sentinel, .sentinel, .sentinel, .sentinel, .sentinel, .sentinel, .sentinel, .sentinel, .sentinel, .sentinel, .sentinel, .sentinel, .sentinel, .sentinel, .sentinel, .data, .data], laidTests := true, laidLooks := .later }
def ReaderKeepsUptoCardSaid : Prop := Claim7.holds Tryz.pinned (.plain (OpenSpec.upto readerKeepsSpec)) readerKeepsUptoCard

/-- THE SECOND FORM's CARD OF 'cartularylaw14.ReaderNames'. -/
def readerNamesUptoCard : Claim7 := { stood := { row := readerNamesUptoRow, standIns := [], harness := (true, "56be6184577d12ac024e5d3feab8b11ab2c41fb9dcdefa589ae622a837599f9d"), looks := true }, kinds := [], alts := [], laidByText := true, laidKinds := [.data, .data, .data, .handle, .sentinel, .sentinel, .sentinel, .sentinel, .sentinel, .sentinel, .sentinel, .sentinel, .sentinel, .sentinel, .sentinel, .sentinel, .sentinel, .sentinel, .sentinel, .sentinel, .data, .data], laidTests := true, laidLooks := .later }
def ReaderNamesUptoCardSaid : Prop := Claim7.holds Tryz.pinned (.plain (OpenSpec.upto readerNamesSpec)) readerNamesUptoCard
end Rows
end Go.Proofs.YtbkhdnceblgljaaGreatDoor
