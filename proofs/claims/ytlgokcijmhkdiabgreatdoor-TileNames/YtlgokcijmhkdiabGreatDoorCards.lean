/-
  DERIVED. GIVEN WITH THE SEED: THE CARDS: each row of YtlgokcijmhkdiabGreatDoorRows.lean that lists a variable, with what it lists TIED to the program's text (the seventh form; the later family's looks); each row that meets fmt, with fmt's text TOLD by the authors' own Lean function (tested against real Go, not proved from fmt's source: count such statements apart). THE CARD IS WHAT COUNTS. Prove the row's statement (the work); the ties are given (YtlgokcijmhkdiabGreatDoorTie.lean); close each card by the builder's one call (the guide's Derived/Test/ToyasCard.lean, 'card_holds'). Laid BY PROGRAM, IN A SANDBOX (cutbox-door.mjs). By AI agents, Wed Nov 11 2026. No macro, syntax, notation, axiom, sorry.
-/
import Derived.Test.YtlgokcijmhkdiabGreatDoorRows
import GoSem.ClaimSeven
namespace Go.Proofs.YtlgokcijmhkdiabGreatDoor
namespace Rows

/-- THE TIED CARD OF 'cartularylaw11.TileBack'. -/
def tileBackCard : Claim7 := { stood := { row := tileBackRow, standIns := [], harness := (true, "f521f4904f737ef85f9f7d34a0ad10f2653ea3798772f0d9b25aaf58feadfca5"), looks := true }, kinds := [], alts := [], laidByText := true, laidKinds := [.data, .data, .data, .data, .handle, .sentinel, .sentinel, .sentinel, .sentinel, .sentinel, .sentinel, .sentinel, .sentinel, .sentinel, .sentinel, .sentinel, .sentinel, .sentinel, .sentinel, .sentinel, .sentinel, .pinned], laidTests := true, laidLooks := .later }
def TileBackCardSaid : Prop := Claim7.holds Tryz.pinned (.plain (OpenSpec.ofChange tileBackSpec)) tileBackCard

/-- THE TIED CARD OF 'cartularylaw11.TileCounts'. -/
def tileCountsCard : Claim7 := { stood := { row := tileCountsRow, standIns := [], harness := (true, "f521f4904f737ef85f9f7d34a0ad10f2653ea3798772f0d9b25aaf58feadfca5"), looks := true }, kinds := [], alts := [], laidByText := true, laidKinds := [.data, .data, .data, .data, .handle, .sentinel, .sentinel, .sentinel, .sentinel, .sentinel, .sentinel, .sentinel, .sentinel, .sentinel, .sentinel, .sentinel, .sentinel, .sentinel, .sentinel, .sentinel, .sentinel, .pinned], laidTests := true, laidLooks := .later }
def TileCountsCardSaid : Prop := Claim7.holds Tryz.pinned (.plain (OpenSpec.ofChange tileCountsSpec)) tileCountsCard

/-- THE TIED CARD OF 'cartularylaw11.TileCovers'. -/
def tileCoversCard : Claim7 := { stood := { row := tileCoversRow, standIns := [], harness := (true, "f521f4904f737ef85f9f7d34a0ad10f2653ea3798772f0d9b25aaf58feadfca5"), looks := true }, kinds := [], alts := [], laidByText := true, laidKinds := [.data, .data, .data, .data, .handle, .sentinel, .sentinel, .sentinel, .sentinel, .sentinel, .sentinel, .sentinel, .sentinel, .sentinel, .sentinel, .sentinel, .sentinel, .sentinel, .sentinel, .sentinel, .sentinel, .pinned], laidTests := true, laidLooks := .later }
def TileCoversCardSaid : Prop := Claim7.holds Tryz.pinned (.plain (OpenSpec.ofChange tileCoversSpec)) tileCoversCard

/-- THE TIED CARD OF 'cartularylaw11.TileHalves'. -/
def tileHalvesCard : Claim7 := { stood := { row := tileHalvesRow, standIns := [], harness := (true, "f521f4904f737ef85f9f7d34a0ad10f2653ea3798772f0d9b25aaf58feadfca5"), looks := true }, kinds := [], alts := [], laidByText := true, laidKinds := [.data, .data, .data, .data, .handle, .sentinel, .sentinel, .sentinel, .sentinel, .sentinel, .sentinel, .sentinel, .sentinel, .sentinel, .sentinel, .sentinel, .sentinel, .sentinel, .sentinel, .sentinel, .sentinel, .data, .data, .pinned], laidTests := true, laidLooks := .later }
def TileHalvesCardSaid : Prop := Claim7.holds Tryz.pinned (.plain (OpenSpec.ofChange tileHalvesSpec)) tileHalvesCard

/-- THE TIED CARD OF 'cartularylaw11.TileNames'. -/
def tileNamesCard : Claim7 := { stood := { row := tileNamesRow, standIns := [], harness := (true, "f521f4904f737ef85f9f7d34a0ad10f2653ea3798772f0d9b25aaf58feadfca5"), looks := true }, kinds := [], alts := [], laidByText := true, laidKinds := [.data, .data, .data, .data, .handle, .sentinel, .sentinel, .sentinel, .sentinel, .sentinel, .sentinel, .sentinel, .sentinel, .sentinel, .sentinel, .sentinel, .sentinel, .sentinel, .sentinel, .sentinel, .sentinel, .data, .data, .pinned], laidTests := true, laidLooks := .later }
def TileNamesCardSaid : Prop := Claim7.holds Tryz.pinned (.plain (OpenSpec.ofChange tileNamesSpec)) tileNamesCard

/-- THE TIED CARD OF 'cartularylaw10.EmitPlays'. -/
def emitPlaysCard : Claim7 := { stood := { row := emitPlaysRow, standIns := [], harness := (true, "f521f4904f737ef85f9f7d34a0ad10f2653ea3798772f0d9b25aaf58feadfca5"), looks := true }, kinds := [], alts := [], laidByText := true, laidKinds := [.data, .data, .data, .handle, .sentinel, .sentinel, .sentinel, .sentinel, .sentinel, .sentinel, .sentinel, .sentinel, .sentinel, .sentinel, .sentinel, .sentinel, .sentinel, .sentinel, .sentinel, .sentinel, .data, .data], laidTests := true, laidLooks := .later }
def EmitPlaysCardSaid : Prop := Claim7.holds Tryz.pinned (.plain (OpenSpec.ofChange emitPlaysSpec)) emitPlaysCard

/-- THE SECOND FORM's CARD OF 'cartularylaw11.TileBack'. -/
def tileBackUptoCard : Claim7 := { stood := { row := tileBackUptoRow, standIns := [], harness := (true, "f521f4904f737ef85f9f7d34a0ad10f2653ea3798772f0d9b25aaf58feadfca5"), looks := true }, kinds := [], alts := [], laidByText := true, laidKinds := [.data, .data, .data, .data, .handle, .sentinel, .sentinel, .sentinel, .sentinel, .sentinel, .sentinel, .sentinel, .sentinel, .sentinel, .sentinel, .sentinel, .sentinel, .sentinel, .sentinel, .sentinel, .sentinel, .pinned], laidTests := true, laidLooks := .later }
def TileBackUptoCardSaid : Prop := Claim7.holds Tryz.pinned (.plain (OpenSpec.upto tileBackSpec)) tileBackUptoCard

/-- THE SECOND FORM's CARD OF 'cartularylaw11.TileCounts'. -/
def tileCountsUptoCard : Claim7 := { stood := { row := tileCountsUptoRow, standIns := [], harness := (true, "f521f4904f737ef85f9f7d34a0ad10f2653ea3798772f0d9b25aaf58feadfca5"), looks := true }, kinds := [], alts := [], laidByText := true, laidKinds := [.data, .data, .data, .data, .handle, .sentinel, .sentinel, .sentinel, .sentinel, .sentinel, .sentinel, .sentinel, .sentinel, .sentinel, .sentinel, .sentinel, .sentinel, .sentinel, .sentinel, .sentinel, .sentinel, .pinned], laidTests := true, laidLooks := .later }
def TileCountsUptoCardSaid : Prop := Claim7.holds Tryz.pinned (.plain (OpenSpec.upto tileCountsSpec)) tileCountsUptoCard

/-- THE SECOND FORM's CARD OF 'cartularylaw11.TileCovers'. -/
def tileCoversUptoCard : Claim7 := { stood := { row := tileCoversUptoRow, standIns := [], harness := (true, "f521f4904f737ef85f9f7d34a0ad10f2653ea3798772f0d9b25aaf58feadfca5"), looks := true }, kinds := [], alts := [], laidByText := true, laidKinds := [.data, .data, .data, .data, .handle, .sentinel, .sentinel, .sentinel, .sentinel, .sentinel, .sentinel, .sentinel, .sentinel, .sentinel, .sentinel, .sentinel, .sentinel, .sentinel, .sentinel, .sentinel, .sentinel, .pinned], laidTests := true, laidLooks := .later }
def TileCoversUptoCardSaid : Prop := Claim7.holds Tryz.pinned (.plain (OpenSpec.upto tileCoversSpec)) tileCoversUptoCard

/-- THE SECOND FORM's CARD OF 'cartularylaw11.TileHalves'. -/
def tileHalvesUptoCard : Claim7 := { stood := { row := tileHalvesUptoRow, standIns := [], harness := (true, "f521f4904f737ef85f9f7d34a0ad10f2653ea3798772f0d9b25aaf58feadfca5"), looks := true }, kinds := [], alts := [], laidByText := true, laidKinds := [.data, .data, .data, .data, .handle, .sentinel, .sentinel, .sentinel, .sentinel, .sentinel, .sentinel, .sentinel, .sentinel, .sentinel, .sentinel, .sentinel, .sentinel, .sentinel, .sentinel, .sentinel, .sentinel, .data, .data, .pinned], laidTests := true, laidLooks := .later }
def TileHalvesUptoCardSaid : Prop := Claim7.holds Tryz.pinned (.plain (OpenSpec.upto tileHalvesSpec)) tileHalvesUptoCard

/-- THE SECOND FORM's CARD OF 'cartularylaw11.TileNames'. -/
def tileNamesUptoCard : Claim7 := { stood := { row := tileNamesUptoRow, standIns := [], harness := (true, "f521f4904f737ef85f9f7d34a0ad10f2653ea3798772f0d9b25aaf58feadfca5"), looks := true }, kinds := [], alts := [], laidByText := true, laidKinds := [.data, .data, .data, .data, .handle, .sentinel, .sentinel, .sentinel, .sentinel, .sentinel, .sentinel, .sentinel, .sentinel, .sentinel, .sentinel, .sentinel, .sentinel, .sentinel, .sentinel, .sentinel, .sentinel, .data, .data, .pinned], laidTests := true, laidLooks := .later }
def TileNamesUptoCardSaid : Prop := Claim7.holds Tryz.pinned (.plain (OpenSpec.upto tileNamesSpec)) tileNamesUptoCard

/-- THE SECOND FORM's CARD OF 'cartularylaw10.EmitPlays'. -/
def emitPlaysUptoCard : Claim7 := { stood := { row := emitPlaysUptoRow, standIns := [], harness := (true, "f521f4904f737ef85f9f7d34a0ad10f2653ea3798772f0d9b25aaf58feadfca5"), looks := true }, kinds := [], alts := [], laidByText := true, laidKinds := [.data, .data, .data, .handle, .sentinel, .sentinel, .sentinel, .sentinel, .sentinel, .sentinel, .sentinel, .sentinel, .sentinel, .sentinel, .sentinel, .sentinel, .sentinel, .sentinel, .sentinel, .sentinel, .data, .data], laidTests := true, laidLooks := .later }
def EmitPlaysUptoCardSaid : Prop := Claim7.holds Tryz.pinned (.plain (OpenSpec.upto emitPlaysSpec)) emitPlaysUptoCard
end Rows
end Go.Proofs.YtlgokcijmhkdiabGreatDoor
