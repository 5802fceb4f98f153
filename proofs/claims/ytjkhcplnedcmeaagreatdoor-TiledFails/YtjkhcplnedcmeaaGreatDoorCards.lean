/-
  DERIVED. GIVEN WITH THE SEED: THE CARDS: each row of YtjkhcplnedcmeaaGreatDoorRows.lean that lists a variable, with what it lists TIED to the program's text (the seventh form; the later family's looks); each row that meets fmt, with fmt's text TOLD by the authors' own Lean function (tested against real Go, not proved from fmt's source: count such statements apart). THE CARD IS WHAT COUNTS. Prove the row's statement (the work); the ties are given (YtjkhcplnedcmeaaGreatDoorTie.lean); close each card by the builder's one call (the guide's Derived/Test/ToyasCard.lean, 'card_holds'). Laid BY PROGRAM, IN A SANDBOX (cutbox-door.mjs). By AI agents, Wed Nov 11 2026. No macro, syntax, notation, axiom, sorry.
-/
import Derived.Test.YtjkhcplnedcmeaaGreatDoorRows
import GoSem.ClaimSeven
namespace Go.Proofs.YtjkhcplnedcmeaaGreatDoor
namespace Rows

/-- THE TIED CARD OF 'cartularylaw16.TiledSame'. -/
def tiledSameCard : Claim7 := { stood := { row := tiledSameRow, standIns := [], harness := (true, "0ce878f4f3fa0e23842ec8e4685fcb0cc793894f1707daa95054c31f076c0d4e"), looks := true }, kinds := [], alts := [], laidByText := true, laidKinds := [.data, .data, .data, .handle, .sentinel, .sentinel, .sentinel, .sentinel, .sentinel, .sentinel, .sentinel, .sentinel, .sentinel, .sentinel, .sentinel, .sentinel, .sentinel, .sentinel, .sentinel, .sentinel, .data, .data], laidTests := true, laidLooks := .later }
def TiledSameCardSaid : Prop := Claim7.holds Tryz.pinned (.plain (OpenSpec.ofChange tiledSameSpec)) tiledSameCard

/-- THE TIED CARD OF 'cartularylaw16.TiledFails'. -/
def tiledFailsCard : Claim7 := { stood := { row := tiledFailsRow, standIns := [], harness := (true, "0ce878f4f3fa0e23842ec8e4685fcb0cc793894f1707daa95054c31f076c0d4e"), looks := true }, kinds := [], alts := [], laidByText := true, laidKinds := [.data, .data, .data, .handle, .sentinel, .sentinel, .sentinel, .sentinel, .sentinel, .sentinel, .sentinel, .sentinel, .sentinel, .sentinel, .sentinel, .sentinel, .sentinel, .sentinel, .sentinel, .sentinel, .data, .data], laidTests := true, laidLooks := .later }
def TiledFailsCardSaid : Prop := Claim7.holds Tryz.pinned (.plain (OpenSpec.ofChange tiledFailsSpec)) tiledFailsCard

/-- THE TIED CARD OF 'cartularylaw17.EngineRows'. -/
def engineRowsCard : Claim7 := { stood := { row := engineRowsRow, standIns := [], harness := (true, "0ce878f4f3fa0e23842ec8e4685fcb0cc793894f1707daa95054c31f076c0d4e"), looks := true }, kinds := [], alts := [], laidByText := true, laidKinds := [.handle, .sentinel, .sentinel, .sentinel, .sentinel, .sentinel, .sentinel, .sentinel, .sentinel, .sentinel, .sentinel, .sentinel, .sentinel, .sentinel, .sentinel, .sentinel, .sentinel, .data, .data], laidTests := true, laidLooks := .later }
def EngineRowsCardSaid : Prop := Claim7.holds Tryz.pinned (.plain (OpenSpec.ofChange engineRowsSpec)) engineRowsCard

/-- THE TIED CARD OF 'cartularylaw17.EngineTiles'. -/
def engineTilesCard : Claim7 := { stood := { row := engineTilesRow, standIns := [], harness := (true, "0ce878f4f3fa0e23842ec8e4685fcb0cc793894f1707daa95054c31f076c0d4e"), looks := true }, kinds := [], alts := [], laidByText := true, laidKinds := [.data, .data, .data, .sentinel, .sentinel, .sentinel, .sentinel, .sentinel, .sentinel, .sentinel, .sentinel, .sentinel, .data, .data], laidTests := true, laidLooks := .later }
def EngineTilesCardSaid : Prop := Claim7.holds Tryz.pinned (.plain (OpenSpec.ofChange engineTilesSpec)) engineTilesCard

/-- THE TIED CARD OF 'cartularylaw17.EngineSame'. -/
def engineSameCard : Claim7 := { stood := { row := engineSameRow, standIns := [], harness := (true, "0ce878f4f3fa0e23842ec8e4685fcb0cc793894f1707daa95054c31f076c0d4e"), looks := true }, kinds := [], alts := [], laidByText := true, laidKinds := [.data, .data, .data, .sentinel, .sentinel, .sentinel, .sentinel, .sentinel, .sentinel, .sentinel, .sentinel, .sentinel, .data, .data], laidTests := true, laidLooks := .later }
def EngineSameCardSaid : Prop := Claim7.holds Tryz.pinned (.plain (OpenSpec.ofChange engineSameSpec)) engineSameCard

/-- THE TIED CARD OF 'cartularylaw17.EngineNames'. -/
def engineNamesCard : Claim7 := { stood := { row := engineNamesRow, standIns := [], harness := (true, "0ce878f4f3fa0e23842ec8e4685fcb0cc793894f1707daa95054c31f076c0d4e"), looks := true }, kinds := [], alts := [], laidByText := true, laidKinds := [.data, .data, .data, .sentinel, .sentinel, .sentinel, .sentinel, .sentinel, .sentinel, .sentinel, .sentinel, .sentinel, .data, .data], laidTests := true, laidLooks := .later }
def EngineNamesCardSaid : Prop := Claim7.holds Tryz.pinned (.plain (OpenSpec.ofChange engineNamesSpec)) engineNamesCard

/-- THE SECOND FORM's CARD OF 'cartularylaw16.TiledSame'. -/
def tiledSameUptoCard : Claim7 := { stood := { row := tiledSameUptoRow, standIns := [], harness := (true, "0ce878f4f3fa0e23842ec8e4685fcb0cc793894f1707daa95054c31f076c0d4e"), looks := true }, kinds := [], alts := [], laidByText := true, laidKinds := [.data, .data, .data, .handle, .sentinel, .sentinel, .sentinel, .sentinel, .sentinel, .sentinel, .sentinel, .sentinel, .sentinel, .sentinel, .sentinel, .sentinel, .sentinel, .sentinel, .sentinel, .sentinel, .data, .data], laidTests := true, laidLooks := .later }
def TiledSameUptoCardSaid : Prop := Claim7.holds Tryz.pinned (.plain (OpenSpec.upto tiledSameSpec)) tiledSameUptoCard

/-- THE SECOND FORM's CARD OF 'cartularylaw16.TiledFails'. -/
def tiledFailsUptoCard : Claim7 := { stood := { row := tiledFailsUptoRow, standIns := [], harness := (true, "0ce878f4f3fa0e23842ec8e4685fcb0cc793894f1707daa95054c31f076c0d4e"), looks := true }, kinds := [], alts := [], laidByText := true, laidKinds := [.data, .data, .data, .handle, .sentinel, .sentinel, .sentinel, .sentinel, .sentinel, .sentinel, .sentinel, .sentinel, .sentinel, .sentinel, .sentinel, .sentinel, .sentinel, .sentinel, .sentinel, .sentinel, .data, .data], laidTests := true, laidLooks := .later }
def TiledFailsUptoCardSaid : Prop := Claim7.holds Tryz.pinned (.plain (OpenSpec.upto tiledFailsSpec)) tiledFailsUptoCard

/-- THE SECOND FORM's CARD OF 'cartularylaw17.EngineRows'. -/
def engineRowsUptoCard : Claim7 := { stood := { row := engineRowsUptoRow, standIns := [], harness := (true, "0ce878f4f3fa0e23842ec8e4685fcb0cc793894f1707daa95054c31f076c0d4e"), looks := true }, kinds := [], alts := [], laidByText := true, laidKinds := [.handle, .sentinel, .sentinel, .sentinel, .sentinel, .sentinel, .sentinel, .sentinel, .sentinel, .sentinel, .sentinel, .sentinel, .sentinel, .sentinel, .sentinel, .sentinel, .sentinel, .data, .data], laidTests := true, laidLooks := .later }
def EngineRowsUptoCardSaid : Prop := Claim7.holds Tryz.pinned (.plain (OpenSpec.upto engineRowsSpec)) engineRowsUptoCard

/-- THE SECOND FORM's CARD OF 'cartularylaw17.EngineTiles'. -/
def engineTilesUptoCard : Claim7 := { stood := { row := engineTilesUptoRow, standIns := [], harness := (true, "0ce878f4f3fa0e23842ec8e4685fcb0cc793894f1707daa95054c31f076c0d4e"), looks := true }, kinds := [], alts := [], laidByText := true, laidKinds := [.data, .data, .data, .sentinel, .sentinel, .sentinel, .sentinel, .sentinel, .sentinel, .sentinel, .sentinel, .sentinel, .data, .data], laidTests := true, laidLooks := .later }
def EngineTilesUptoCardSaid : Prop := Claim7.holds Tryz.pinned (.plain (OpenSpec.upto engineTilesSpec)) engineTilesUptoCard

/-- THE SECOND FORM's CARD OF 'cartularylaw17.EngineSame'. -/
def engineSameUptoCard : Claim7 := { stood := { row := engineSameUptoRow, standIns := [], harness := (true, "0ce878f4f3fa0e23842ec8e4685fcb0cc793894f1707daa95054c31f076c0d4e"), looks := true }, kinds := [], alts := [], laidByText := true, laidKinds := [.data, .data, .data, .sentinel, .sentinel, .sentinel, .sentinel, .sentinel, .sentinel, .sentinel, .sentinel, .sentinel, .data, .data], laidTests := true, laidLooks := .later }
def EngineSameUptoCardSaid : Prop := Claim7.holds Tryz.pinned (.plain (OpenSpec.upto engineSameSpec)) engineSameUptoCard

/-- THE SECOND FORM's CARD OF 'cartularylaw17.EngineNames'. -/
def engineNamesUptoCard : Claim7 := { stood := { row := engineNamesUptoRow, standIns := [], harness := (true, "0ce878f4f3fa0e23842ec8e4685fcb0cc793894f1707daa95054c31f076c0d4e"), looks := true }, kinds := [], alts := [], laidByText := true, laidKinds := [.data, .data, .data, .sentinel, .sentinel, .sentinel, .sentinel, .sentinel, .sentinel, .sentinel, .sentinel, .sentinel, .data, .data], laidTests := true, laidLooks := .later }
def EngineNamesUptoCardSaid : Prop := Claim7.holds Tryz.pinned (.plain (OpenSpec.upto engineNamesSpec)) engineNamesUptoCard
end Rows
end Go.Proofs.YtjkhcplnedcmeaaGreatDoor
