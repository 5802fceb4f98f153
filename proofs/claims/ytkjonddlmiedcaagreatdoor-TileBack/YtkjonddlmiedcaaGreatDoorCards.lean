/-
  DERIVED. GIVEN WITH THE SEED: THE CARDS: each row of YtkjonddlmiedcaaGreatDoorRows.lean that lists a variable, with what it lists TIED to the program's text (the seventh form; the later family's looks); each row that meets fmt, with fmt's text TOLD by the authors' own Lean function (tested against real Go, not proved from fmt's source: count such statements apart). THE CARD IS WHAT COUNTS. Prove the row's statement (the work); the ties are given (YtkjonddlmiedcaaGreatDoorTie.lean); close each card by the builder's one call (the guide's Derived/Test/ToyasCard.lean, 'card_holds'). Laid BY PROGRAM, IN A SANDBOX (cutbox-door.mjs). By AI agents, Wed Nov 11 2026. No macro, syntax, notation, axiom, sorry.
-/
import Derived.Test.YtkjonddlmiedcaaGreatDoorRows
import GoSem.ClaimSeven
namespace Go.Proofs.YtkjonddlmiedcaaGreatDoor
namespace Rows

/-- THE TIED CARD OF 'cartularylaw11.TileHashes'. -/
def tileHashesCard : Claim7 := { stood := { row := tileHashesRow, standIns := [], harness := (true, "a7d514d25441f95ffa3c3f2f9b4674e17ad9a9c3072ae444228da62c44562eff"), looks := true }, kinds := [], alts := [], laidByText := true, laidKinds := [.data, .data, .data, .data, .handle, .sentinel, .sentinel, .sentinel, .sentinel, .sentinel, .sentinel, .sentinel, .sentinel, .sentinel, .sentinel, .sentinel, .sentinel, .sentinel, .sentinel, .sentinel, .sentinel, .data, .data, .pinned], laidTests := true, laidLooks := .later }
def TileHashesCardSaid : Prop := Claim7.holds Tryz.pinned (.plain (OpenSpec.ofChange tileHashesSpec)) tileHashesCard

/-- THE TIED CARD OF 'cartularylaw11.TileBack'. -/
def tileBackCard : Claim7 := { stood := { row := tileBackRow, standIns := [], harness := (true, "a7d514d25441f95ffa3c3f2f9b4674e17ad9a9c3072ae444228da62c44562eff"), looks := true }, kinds := [], alts := [], laidByText := true, laidKinds := [.data, .data, .data, .data, .handle, .sentinel, .sentinel, .sentinel, .sentinel, .sentinel, .sentinel, .sentinel, .sentinel, .sentinel, .sentinel, .sentinel, .sentinel, .sentinel, .sentinel, .sentinel, .sentinel, .pinned], laidTests := true, laidLooks := .later }
def TileBackCardSaid : Prop := Claim7.holds Tryz.pinned (.plain (OpenSpec.ofChange tileBackSpec)) tileBackCard

/-- THE TIED CARD OF 'cartularylaw11.TileCounts'. -/
def tileCountsCard : Claim7 := { stood := { row := tileCountsRow, standIns := [], harness := (true, "a7d514d25441f95ffa3c3f2f9b4674e17ad9a9c3072ae444228da62c44562eff"), looks := true }, kinds := [], alts := [], laidByText := true, laidKinds := [.data, .data, .data, .data, .handle, .sentinel, .sentinel, .sentinel, .sentinel, .sentinel, .sentinel, .sentinel, .sentinel, .sentinel, .sentinel, .sentinel, .sentinel, .sentinel, .sentinel, .sentinel, .sentinel, .pinned], laidTests := true, laidLooks := .later }
def TileCountsCardSaid : Prop := Claim7.holds Tryz.pinned (.plain (OpenSpec.ofChange tileCountsSpec)) tileCountsCard

/-- THE SECOND FORM's CARD OF 'cartularylaw11.TileHashes'. -/
def tileHashesUptoCard : Claim7 := { stood := { row := tileHashesUptoRow, standIns := [], harness := (true, "a7d514d25441f95ffa3c3f2f9b4674e17ad9a9c3072ae444228da62c44562eff"), looks := true }, kinds := [], alts := [], laidByText := true, laidKinds := [.data, .data, .data, .data, .handle, .sentinel, .sentinel, .sentinel, .sentinel, .sentinel, .sentinel, .sentinel, .sentinel, .sentinel, .sentinel, .sentinel, .sentinel, .sentinel, .sentinel, .sentinel, .sentinel, .data, .data, .pinned], laidTests := true, laidLooks := .later }
def TileHashesUptoCardSaid : Prop := Claim7.holds Tryz.pinned (.plain (OpenSpec.upto tileHashesSpec)) tileHashesUptoCard

/-- THE SECOND FORM's CARD OF 'cartularylaw11.TileBack'. -/
def tileBackUptoCard : Claim7 := { stood := { row := tileBackUptoRow, standIns := [], harness := (true, "a7d514d25441f95ffa3c3f2f9b4674e17ad9a9c3072ae444228da62c44562eff"), looks := true }, kinds := [], alts := [], laidByText := true, laidKinds := [.data, .data, .data, .data, .handle, .sentinel, .sentinel, .sentinel, .sentinel, .sentinel, .sentinel, .sentinel, .sentinel, .sentinel, .sentinel, .sentinel, .sentinel, .sentinel, .sentinel, .sentinel, .sentinel, .pinned], laidTests := true, laidLooks := .later }
def TileBackUptoCardSaid : Prop := Claim7.holds Tryz.pinned (.plain (OpenSpec.upto tileBackSpec)) tileBackUptoCard

/-- THE SECOND FORM's CARD OF 'cartularylaw11.TileCounts'. -/
def tileCountsUptoCard : Claim7 := { stood := { row := tileCountsUptoRow, standIns := [], harness := (true, "a7d514d25441f95ffa3c3f2f9b4674e17ad9a9c3072ae444228da62c44562eff"), looks := true }, kinds := [], alts := [], laidByText := true, laidKinds := [.data, .data, .data, .data, .handle, .sentinel, .sentinel, .sentinel, .sentinel, .sentinel, .sentinel, .sentinel, .sentinel, .sentinel, .sentinel, .sentinel, .sentinel, .sentinel, .sentinel, .sentinel, .sentinel, .pinned], laidTests := true, laidLooks := .later }
def TileCountsUptoCardSaid : Prop := Claim7.holds Tryz.pinned (.plain (OpenSpec.upto tileCountsSpec)) tileCountsUptoCard
end Rows
end Go.Proofs.YtkjonddlmiedcaaGreatDoor
