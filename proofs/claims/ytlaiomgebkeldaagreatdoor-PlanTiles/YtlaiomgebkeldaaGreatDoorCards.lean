/-
  DERIVED. GIVEN WITH THE SEED: THE CARDS: each row of YtlaiomgebkeldaaGreatDoorRows.lean that lists a variable, with what it lists TIED to the program's text (the seventh form; the later family's looks); each row that meets fmt, with fmt's text TOLD by the authors' own Lean function (tested against real Go, not proved from fmt's source: count such statements apart). THE CARD IS WHAT COUNTS. Prove the row's statement (the work); the ties are given (YtlaiomgebkeldaaGreatDoorTie.lean); close each card by the builder's one call (the guide's Derived/Test/ToyasCard.lean, 'card_holds'). Laid BY PROGRAM, IN A SANDBOX (cutbox-door.mjs). By AI agents, Wed Nov 11 2026. No macro, syntax, notation, axiom, sorry.
-/
import Derived.Test.YtlaiomgebkeldaaGreatDoorRows
import GoSem.ClaimSeven
namespace Go.Proofs.YtlaiomgebkeldaaGreatDoor
namespace Rows

/-- THE TIED CARD OF 'cartularylaw15.PlanParts'. -/
def planPartsCard : Claim7 := { stood := { row := planPartsRow, standIns := [], harness := (true, "39eb962587de4aa26ea27e94d7a189b896add24770eb514e7548342ff81e50db"), looks := true }, kinds := [], alts := [], laidByText := true, laidKinds := [.data, .data, .data, .handle, .sentinel, .sentinel, .sentinel, .sentinel, .sentinel, .sentinel, .sentinel, .sentinel, .sentinel, .sentinel, .sentinel, .sentinel, .sentinel, .sentinel, .sentinel, .sentinel, .data, .data], laidTests := true, laidLooks := .later }
def PlanPartsCardSaid : Prop := Claim7.holds Tryz.pinned (.plain (OpenSpec.ofChange planPartsSpec)) planPartsCard

/-- THE TIED CARD OF 'cartularylaw15.PlanTiles'. -/
def planTilesCard : Claim7 := { stood := { row := planTilesRow, standIns := [], harness := (true, "39eb962587de4aa26ea27e94d7a189b896add24770eb514e7548342ff81e50db"), looks := true }, kinds := [], alts := [], laidByText := true, laidKinds := [.data, .data, .data, .handle, .sentinel, .sentinel, .sentinel, .sentinel, .sentinel, .sentinel, .sentinel, .sentinel, .sentinel, .sentinel, .sentinel, .sentinel, .sentinel, .sentinel, .sentinel, .sentinel, .data, .data], laidTests := true, laidLooks := .later }
def PlanTilesCardSaid : Prop := Claim7.holds Tryz.pinned (.plain (OpenSpec.ofChange planTilesSpec)) planTilesCard

/-- THE SECOND FORM's CARD OF 'cartularylaw15.PlanParts'. -/
def planPartsUptoCard : Claim7 := { stood := { row := planPartsUptoRow, standIns := [], harness := (true, "39eb962587de4aa26ea27e94d7a189b896add24770eb514e7548342ff81e50db"), looks := true }, kinds := [], alts := [], laidByText := true, laidKinds := [.data, .data, .data, .handle, .sentinel, .sentinel, .sentinel, .sentinel, .sentinel, .sentinel, .sentinel, .sentinel, .sentinel, .sentinel, .sentinel, .sentinel, .sentinel, .sentinel, .sentinel, .sentinel, .data, .data], laidTests := true, laidLooks := .later }
def PlanPartsUptoCardSaid : Prop := Claim7.holds Tryz.pinned (.plain (OpenSpec.upto planPartsSpec)) planPartsUptoCard

/-- THE SECOND FORM's CARD OF 'cartularylaw15.PlanTiles'. -/
def planTilesUptoCard : Claim7 := { stood := { row := planTilesUptoRow, standIns := [], harness := (true, "39eb962587de4aa26ea27e94d7a189b896add24770eb514e7548342ff81e50db"), looks := true }, kinds := [], alts := [], laidByText := true, laidKinds := [.data, .data, .data, .handle, .sentinel, .sentinel, .sentinel, .sentinel, .sentinel, .sentinel, .sentinel, .sentinel, .sentinel, .sentinel, .sentinel, .sentinel, .sentinel, .sentinel, .sentinel, .sentinel, .data, .data], laidTests := true, laidLooks := .later }
def PlanTilesUptoCardSaid : Prop := Claim7.holds Tryz.pinned (.plain (OpenSpec.upto planTilesSpec)) planTilesUptoCard
end Rows
end Go.Proofs.YtlaiomgebkeldaaGreatDoor
