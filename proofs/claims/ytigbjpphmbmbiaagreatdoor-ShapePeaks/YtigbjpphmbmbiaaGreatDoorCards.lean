/-
  DERIVED. GIVEN WITH THE SEED: THE CARDS: each row of YtigbjpphmbmbiaaGreatDoorRows.lean that lists a variable, with what it lists TIED to the program's text (the seventh form; the later family's looks); each row that meets fmt, with fmt's text TOLD by the authors' own Lean function (tested against real Go, not proved from fmt's source: count such statements apart). THE CARD IS WHAT COUNTS. Prove the row's statement (the work); the ties are given (YtigbjpphmbmbiaaGreatDoorTie.lean); close each card by the builder's one call (the guide's Derived/Test/ToyasCard.lean, 'card_holds'). Laid BY PROGRAM, IN A SANDBOX (cutbox-door.mjs). By AI agents, Wed Nov 11 2026. No macro, syntax, notation, axiom, sorry.
-/
import Derived.Test.YtigbjpphmbmbiaaGreatDoorRows
import GoSem.ClaimSeven
namespace Go.Proofs.YtigbjpphmbmbiaaGreatDoor
namespace Rows

/-- THE TIED CARD OF 'cartularylaw07.ShapePaths'. -/
def shapePathsCard : Claim7 := { stood := { row := shapePathsRow, standIns := [], harness := (true, "807a4e19b4405f150fd23a6b12123b9af6203601c13c66da1c3b91b8905ca1f5"), looks := true }, kinds := [], alts := [], laidByText := true, laidKinds := [.data, .data, .data, .handle, .sentinel, .sentinel, .sentinel, .sentinel, .sentinel, .sentinel, .sentinel, .sentinel, .sentinel, .sentinel, .sentinel, .sentinel, .sentinel, .sentinel, .sentinel, .sentinel], laidTests := true, laidLooks := .later }
def ShapePathsCardSaid : Prop := Claim7.holds Tryz.pinned (.plain (OpenSpec.ofChange shapePathsSpec)) shapePathsCard

/-- THE TIED CARD OF 'cartularylaw07.ShapeProofs'. -/
def shapeProofsCard : Claim7 := { stood := { row := shapeProofsRow, standIns := [], harness := (true, "807a4e19b4405f150fd23a6b12123b9af6203601c13c66da1c3b91b8905ca1f5"), looks := true }, kinds := [], alts := [], laidByText := true, laidKinds := [.data, .data, .data, .handle, .sentinel, .sentinel, .sentinel, .sentinel, .sentinel, .sentinel, .sentinel, .sentinel, .sentinel, .sentinel, .sentinel, .sentinel, .sentinel, .sentinel, .sentinel, .sentinel], laidTests := true, laidLooks := .later }
def ShapeProofsCardSaid : Prop := Claim7.holds Tryz.pinned (.plain (OpenSpec.ofChange shapeProofsSpec)) shapeProofsCard

/-- THE TIED CARD OF 'cartularylaw07.ShapeBatches'. -/
def shapeBatchesCard : Claim7 := { stood := { row := shapeBatchesRow, standIns := [], harness := (true, "807a4e19b4405f150fd23a6b12123b9af6203601c13c66da1c3b91b8905ca1f5"), looks := true }, kinds := [], alts := [], laidByText := true, laidKinds := [.data, .data, .data, .handle, .sentinel, .sentinel, .sentinel, .sentinel, .sentinel, .sentinel, .sentinel, .sentinel, .sentinel, .sentinel, .sentinel, .sentinel, .sentinel, .sentinel, .sentinel, .sentinel], laidTests := true, laidLooks := .later }
def ShapeBatchesCardSaid : Prop := Claim7.holds Tryz.pinned (.plain (OpenSpec.ofChange shapeBatchesSpec)) shapeBatchesCard

/-- THE TIED CARD OF 'cartularylaw07.ShapePeaks'. -/
def shapePeaksCard : Claim7 := { stood := { row := shapePeaksRow, standIns := [], harness := (true, "807a4e19b4405f150fd23a6b12123b9af6203601c13c66da1c3b91b8905ca1f5"), looks := true }, kinds := [], alts := [], laidByText := true, laidKinds := [.data, .data, .data, .handle, .sentinel, .sentinel, .sentinel, .sentinel, .sentinel, .sentinel, .sentinel, .sentinel, .sentinel, .sentinel, .sentinel, .sentinel, .sentinel, .sentinel, .sentinel, .sentinel], laidTests := true, laidLooks := .later }
def ShapePeaksCardSaid : Prop := Claim7.holds Tryz.pinned (.plain (OpenSpec.ofChange shapePeaksSpec)) shapePeaksCard

/-- THE SECOND FORM's CARD OF 'cartularylaw07.ShapePaths'. -/
def shapePathsUptoCard : Claim7 := { stood := { row := shapePathsUptoRow, standIns := [], harness := (true, "807a4e19b4405f150fd23a6b12123b9af6203601c13c66da1c3b91b8905ca1f5"), looks := true }, kinds := [], alts := [], laidByText := true, laidKinds := [.data, .data, .data, .handle, .sentinel, .sentinel, .sentinel, .sentinel, .sentinel, .sentinel, .sentinel, .sentinel, .sentinel, .sentinel, .sentinel, .sentinel, .sentinel, .sentinel, .sentinel, .sentinel], laidTests := true, laidLooks := .later }
def ShapePathsUptoCardSaid : Prop := Claim7.holds Tryz.pinned (.plain (OpenSpec.upto shapePathsSpec)) shapePathsUptoCard

/-- THE SECOND FORM's CARD OF 'cartularylaw07.ShapeProofs'. -/
def shapeProofsUptoCard : Claim7 := { stood := { row := shapeProofsUptoRow, standIns := [], harness := (true, "807a4e19b4405f150fd23a6b12123b9af6203601c13c66da1c3b91b8905ca1f5"), looks := true }, kinds := [], alts := [], laidByText := true, laidKinds := [.data, .data, .data, .handle, .sentinel, .sentinel, .sentinel, .sentinel, .sentinel, .sentinel, .sentinel, .sentinel, .sentinel, .sentinel, .sentinel, .sentinel, .sentinel, .sentinel, .sentinel, .sentinel], laidTests := true, laidLooks := .later }
def ShapeProofsUptoCardSaid : Prop := Claim7.holds Tryz.pinned (.plain (OpenSpec.upto shapeProofsSpec)) shapeProofsUptoCard

/-- THE SECOND FORM's CARD OF 'cartularylaw07.ShapeBatches'. -/
def shapeBatchesUptoCard : Claim7 := { stood := { row := shapeBatchesUptoRow, standIns := [], harness := (true, "807a4e19b4405f150fd23a6b12123b9af6203601c13c66da1c3b91b8905ca1f5"), looks := true }, kinds := [], alts := [], laidByText := true, laidKinds := [.data, .data, .data, .handle, .sentinel, .sentinel, .sentinel, .sentinel, .sentinel, .sentinel, .sentinel, .sentinel, .sentinel, .sentinel, .sentinel, .sentinel, .sentinel, .sentinel, .sentinel, .sentinel], laidTests := true, laidLooks := .later }
def ShapeBatchesUptoCardSaid : Prop := Claim7.holds Tryz.pinned (.plain (OpenSpec.upto shapeBatchesSpec)) shapeBatchesUptoCard

/-- THE SECOND FORM's CARD OF 'cartularylaw07.ShapePeaks'. -/
def shapePeaksUptoCard : Claim7 := { stood := { row := shapePeaksUptoRow, standIns := [], harness := (true, "807a4e19b4405f150fd23a6b12123b9af6203601c13c66da1c3b91b8905ca1f5"), looks := true }, kinds := [], alts := [], laidByText := true, laidKinds := [.data, .data, .data, .handle, .sentinel, .sentinel, .sentinel, .sentinel, .sentinel, .sentinel, .sentinel, .sentinel, .sentinel, .sentinel, .sentinel, .sentinel, .sentinel, .sentinel, .sentinel, .sentinel], laidTests := true, laidLooks := .later }
def ShapePeaksUptoCardSaid : Prop := Claim7.holds Tryz.pinned (.plain (OpenSpec.upto shapePeaksSpec)) shapePeaksUptoCard
end Rows
end Go.Proofs.YtigbjpphmbmbiaaGreatDoor
