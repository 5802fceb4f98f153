/-
  DERIVED. GIVEN WITH THE SEED: THE CARDS: each row of YtlgokcijmhkdiaaGreatDoorRows.lean that lists a variable, with what it lists TIED to the program's text (the seventh form; the later family's looks); each row that meets fmt, with fmt's text TOLD by the authors' own Lean function (tested against real Go, not proved from fmt's source: count such statements apart). THE CARD IS WHAT COUNTS. Prove the row's statement (the work); the ties are given (YtlgokcijmhkdiaaGreatDoorTie.lean); close each card by the builder's one call (the guide's Derived/Test/ToyasCard.lean, 'card_holds'). Laid BY PROGRAM, IN A SANDBOX (cutbox-door.mjs). By AI agents, Wed Nov 11 2026. No macro, syntax, notation, axiom, sorry.
-/
import Derived.Test.YtlgokcijmhkdiaaGreatDoorRows
import GoSem.ClaimSeven
namespace Go.Proofs.YtlgokcijmhkdiaaGreatDoor
namespace Rows

/-- THE TIED CARD OF 'cartularylaw11.TileOfs'. -/
def tileOfsCard : Claim7 := { stood := { row := tileOfsRow, standIns := [], harness := (true, "31b42eaacc213fbae05c60cf02df8dcebe2d8f4fcfe5445c5a7e5f684c42a6e8"), looks := true }, kinds := [], alts := [], laidByText := true, laidKinds := [.data, .data, .data, .data, .handle, .sentinel, .sentinel, .sentinel, .sentinel, .sentinel, .sentinel, .sentinel, .sentinel, .sentinel, .sentinel, .sentinel, .sentinel, .sentinel, .sentinel, .sentinel, .sentinel, .pinned], laidTests := true, laidLooks := .later }
def TileOfsCardSaid : Prop := Claim7.holds Tryz.pinned (.plain (OpenSpec.ofChange tileOfsSpec)) tileOfsCard

/-- THE TIED CARD OF 'cartularylaw11.TileIns'. -/
def tileInsCard : Claim7 := { stood := { row := tileInsRow, standIns := [], harness := (true, "31b42eaacc213fbae05c60cf02df8dcebe2d8f4fcfe5445c5a7e5f684c42a6e8"), looks := true }, kinds := [], alts := [], laidByText := true, laidKinds := [.data, .data, .data, .data, .handle, .sentinel, .sentinel, .sentinel, .sentinel, .sentinel, .sentinel, .sentinel, .sentinel, .sentinel, .sentinel, .sentinel, .sentinel, .sentinel, .sentinel, .sentinel, .sentinel, .pinned], laidTests := true, laidLooks := .later }
def TileInsCardSaid : Prop := Claim7.holds Tryz.pinned (.plain (OpenSpec.ofChange tileInsSpec)) tileInsCard

/-- THE TIED CARD OF 'cartularylaw11.TileAlls'. -/
def tileAllsCard : Claim7 := { stood := { row := tileAllsRow, standIns := [], harness := (true, "31b42eaacc213fbae05c60cf02df8dcebe2d8f4fcfe5445c5a7e5f684c42a6e8"), looks := true }, kinds := [], alts := [], laidByText := true, laidKinds := [.data, .data, .data, .data, .handle, .sentinel, .sentinel, .sentinel, .sentinel, .sentinel, .sentinel, .sentinel, .sentinel, .sentinel, .sentinel, .sentinel, .sentinel, .sentinel, .sentinel, .sentinel, .sentinel, .pinned], laidTests := true, laidLooks := .later }
def TileAllsCardSaid : Prop := Claim7.holds Tryz.pinned (.plain (OpenSpec.ofChange tileAllsSpec)) tileAllsCard

/-- THE TIED CARD OF 'cartularylaw11.TilePaths'. -/
def tilePathsCard : Claim7 := { stood := { row := tilePathsRow, standIns := [], harness := (true, "31b42eaacc213fbae05c60cf02df8dcebe2d8f4fcfe5445c5a7e5f684c42a6e8"), looks := true }, kinds := [], alts := [], laidByText := true, laidKinds := [.data, .data, .data, .data, .handle, .sentinel, .sentinel, .sentinel, .sentinel, .sentinel, .sentinel, .sentinel, .sentinel, .sentinel, .sentinel, .sentinel, .sentinel, .sentinel, .sentinel, .sentinel, .sentinel, .pinned], laidTests := true, laidLooks := .later }
def TilePathsCardSaid : Prop := Claim7.holds Tryz.pinned (.plain (OpenSpec.ofChange tilePathsSpec)) tilePathsCard

/-- THE TIED CARD OF 'cartularylaw11.TileBytes'. -/
def tileBytesCard : Claim7 := { stood := { row := tileBytesRow, standIns := [], harness := (true, "31b42eaacc213fbae05c60cf02df8dcebe2d8f4fcfe5445c5a7e5f684c42a6e8"), looks := true }, kinds := [], alts := [], laidByText := true, laidKinds := [.data, .data, .data, .data, .handle, .sentinel, .sentinel, .sentinel, .sentinel, .sentinel, .sentinel, .sentinel, .sentinel, .sentinel, .sentinel, .sentinel, .sentinel, .sentinel, .sentinel, .sentinel, .sentinel, .pinned], laidTests := true, laidLooks := .later }
def TileBytesCardSaid : Prop := Claim7.holds Tryz.pinned (.plain (OpenSpec.ofChange tileBytesSpec)) tileBytesCard

/-- THE TIED CARD OF 'cartularylaw11.TileHashes'. -/
def tileHashesCard : Claim7 := { stood := { row := tileHashesRow, standIns := [], harness := (true, "31b42eaacc213fbae05c60cf02df8dcebe2d8f4fcfe5445c5a7e5f684c42a6e8"), looks := true }, kinds := [], alts := [], laidByText := true, laidKinds := [.data, .data, .data, .data, .handle, .sentinel, .sentinel, .sentinel, .sentinel, .sentinel, .sentinel, .sentinel, .sentinel, .sentinel, .sentinel, .sentinel, .sentinel, .sentinel, .sentinel, .sentinel, .sentinel, .data, .data, .pinned], laidTests := true, laidLooks := .later }
def TileHashesCardSaid : Prop := Claim7.holds Tryz.pinned (.plain (OpenSpec.ofChange tileHashesSpec)) tileHashesCard

/-- THE SECOND FORM's CARD OF 'cartularylaw11.TileOfs'. -/
def tileOfsUptoCard : Claim7 := { stood := { row := tileOfsUptoRow, standIns := [], harness := (true, "31b42eaacc213fbae05c60cf02df8dcebe2d8f4fcfe5445c5a7e5f684c42a6e8"), looks := true }, kinds := [], alts := [], laidByText := true, laidKinds := [.data, .data, .data, .data, .handle, .sentinel, .sentinel, .sentinel, .sentinel, .sentinel, .sentinel, .sentinel, .sentinel, .sentinel, .sentinel, .sentinel, .sentinel, .sentinel, .sentinel, .sentinel, .sentinel, .pinned], laidTests := true, laidLooks := .later }
def TileOfsUptoCardSaid : Prop := Claim7.holds Tryz.pinned (.plain (OpenSpec.upto tileOfsSpec)) tileOfsUptoCard

/-- THE SECOND FORM's CARD OF 'cartularylaw11.TileIns'. -/
def tileInsUptoCard : Claim7 := { stood := { row := tileInsUptoRow, standIns := [], harness := (true, "31b42eaacc213fbae05c60cf02df8dcebe2d8f4fcfe5445c5a7e5f684c42a6e8"), looks := true }, kinds := [], alts := [], laidByText := true, laidKinds := [.data, .data, .data, .data, .handle, .sentinel, .sentinel, .sentinel, .sentinel, .sentinel, .sentinel, .sentinel, .sentinel, .sentinel, .sentinel, .sentinel, .sentinel, .sentinel, .sentinel, .sentinel, .sentinel, .pinned], laidTests := true, laidLooks := .later }
def TileInsUptoCardSaid : Prop := Claim7.holds Tryz.pinned (.plain (OpenSpec.upto tileInsSpec)) tileInsUptoCard

/-- THE SECOND FORM's CARD OF 'cartularylaw11.TileAlls'. -/
def tileAllsUptoCard : Claim7 := { stood := { row := tileAllsUptoRow, standIns := [], harness := (true, "31b42eaacc213fbae05c60cf02df8dcebe2d8f4fcfe5445c5a7e5f684c42a6e8"), looks := true }, kinds := [], alts := [], laidByText := true, laidKinds := [.data, .data, .data, .data, .handle, .sentinel, .sentinel, .sentinel, .sentinel, .sentinel, .sentinel, .sentinel, .sentinel, .sentinel, .sentinel, .sentinel, .sentinel, .sentinel, .sentinel, .sentinel, .sentinel, .pinned], laidTests := true, laidLooks := .later }
def TileAllsUptoCardSaid : Prop := Claim7.holds Tryz.pinned (.plain (OpenSpec.upto tileAllsSpec)) tileAllsUptoCard

/-- THE SECOND FORM's CARD OF 'cartularylaw11.TilePaths'. -/
def tilePathsUptoCard : Claim7 := { stood := { row := tilePathsUptoRow, standIns := [], harness := (true, "31b42eaacc213fbae05c60cf02df8dcebe2d8f4fcfe5445c5a7e5f684c42a6e8"), looks := true }, kinds := [], alts := [], laidByText := true, laidKinds := [.data, .data, .data, .data, .handle, .sentinel, .sentinel, .sentinel, .sentinel, .sentinel, .sentinel, .sentinel, .sentinel, .sentinel, .sentinel, .sentinel, .sentinel, .sentinel, .sentinel, .sentinel, .sentinel, .pinned], laidTests := true, laidLooks := .later }
def TilePathsUptoCardSaid : Prop := Claim7.holds Tryz.pinned (.plain (OpenSpec.upto tilePathsSpec)) tilePathsUptoCard

/-- THE SECOND FORM's CARD OF 'cartularylaw11.TileBytes'. -/
def tileBytesUptoCard : Claim7 := { stood := { row := tileBytesUptoRow, standIns := [], harness := (true, "31b42eaacc213fbae05c60cf02df8dcebe2d8f4fcfe5445c5a7e5f684c42a6e8"), looks := true }, kinds := [], alts := [], laidByText := true, laidKinds := [.data, .data, .data, .data, .handle, .sentinel, .sentinel, .sentinel, .sentinel, .sentinel, .sentinel, .sentinel, .sentinel, .sentinel, .sentinel, .sentinel, .sentinel, .sentinel, .sentinel, .sentinel, .sentinel, .pinned], laidTests := true, laidLooks := .later }
def TileBytesUptoCardSaid : Prop := Claim7.holds Tryz.pinned (.plain (OpenSpec.upto tileBytesSpec)) tileBytesUptoCard

/-- THE SECOND FORM's CARD OF 'cartularylaw11.TileHashes'. -/
def tileHashesUptoCard : Claim7 := { stood := { row := tileHashesUptoRow, standIns := [], harness := (true, "31b42eaacc213fbae05c60cf02df8dcebe2d8f4fcfe5445c5a7e5f684c42a6e8"), looks := true }, kinds := [], alts := [], laidByText := true, laidKinds := [.data, .data, .data, .data, .handle, .sentinel, .sentinel, .sentinel, .sentinel, .sentinel, .sentinel, .sentinel, .sentinel, .sentinel, .sentinel, .sentinel, .sentinel, .sentinel, .sentinel, .sentinel, .sentinel, .data, .data, .pinned], laidTests := true, laidLooks := .later }
def TileHashesUptoCardSaid : Prop := Claim7.holds Tryz.pinned (.plain (OpenSpec.upto tileHashesSpec)) tileHashesUptoCard
end Rows
end Go.Proofs.YtlgokcijmhkdiaaGreatDoor
