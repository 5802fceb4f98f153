/-
  DERIVED. GIVEN WITH THE SEED: THE CARDS: each row of YtihmckficphccaaGreatDoorRows.lean that lists a variable, with what it lists TIED to the program's text (the seventh form; the later family's looks); each row that meets fmt, with fmt's text TOLD by the authors' own Lean function (tested against real Go, not proved from fmt's source: count such statements apart). THE CARD IS WHAT COUNTS. Prove the row's statement (the work); the ties are given (YtihmckficphccaaGreatDoorTie.lean); close each card by the builder's one call (the guide's Derived/Test/ToyasCard.lean, 'card_holds'). Laid BY PROGRAM, IN A SANDBOX (cutbox-door.mjs). By AI agents, Wed Nov 11 2026. No macro, syntax, notation, axiom, sorry.
-/
import Derived.Test.YtihmckficphccaaGreatDoorRows
import GoSem.ClaimSeven
namespace Go.Proofs.YtihmckficphccaaGreatDoor
namespace Rows

/-- THE TIED CARD OF 'cartularylaw16.TiledSame'. -/
def tiledSameCard : Claim7 := { stood := { row := tiledSameRow, standIns := [], harness := (true, "779eb00530a53a8c0285cef9e072906e49fcdfca76926c32d3d21aee83d74e2f"), looks := true }, kinds := [], alts := [], laidByText := true, laidKinds := [.data, .data, .data, .handle, .sentinel, .sentinel, .sentinel, .sentinel, .sentinel, .sentinel, .sentinel, .sentinel, .sentinel, .sentinel, .sentinel, .sentinel, .sentinel, .sentinel, .sentinel, .sentinel, .data, .data], laidTests := true, laidLooks := .later }
def TiledSameCardSaid : Prop := Claim7.holds Tryz.pinned (.plain (OpenSpec.ofChange tiledSameSpec)) tiledSameCard

/-- THE TIED CARD OF 'cartularylaw16.TiledFails'. -/
def tiledFailsCard : Claim7 := { stood := { row := tiledFailsRow, standIns := [], harness := (true, "779eb00530a53a8c0285cef9e072906e49fcdfca76926c32d3d21aee83d74e2f"), looks := true }, kinds := [], alts := [], laidByText := true, laidKinds := [.data, .data, .data, .handle, .sentinel, .sentinel, .sentinel, .sentinel, .sentinel, .sentinel, .sentinel, .sentinel, .sentinel, .sentinel, .sentinel, .sentinel, .sentinel, .sentinel, .sentinel, .sentinel, .data, .data], laidTests := true, laidLooks := .later }
def TiledFailsCardSaid : Prop := Claim7.holds Tryz.pinned (.plain (OpenSpec.ofChange tiledFailsSpec)) tiledFailsCard

/-- THE TIED CARD OF 'cartularylaw16.TiledNone'. -/
def tiledNoneCard : Claim7 := { stood := { row := tiledNoneRow, standIns := [], harness := (true, "779eb00530a53a8c0285cef9e072906e49fcdfca76926c32d3d21aee83d74e2f"), looks := true }, kinds := [], alts := [], laidByText := true, laidKinds := [.data, .data, .data, .handle, .sentinel, .sentinel, .sentinel, .sentinel, .sentinel, .sentinel, .sentinel, .sentinel, .sentinel, .sentinel, .sentinel, .sentinel, .sentinel, .sentinel, .sentinel, .sentinel, .data, .data], laidTests := true, laidLooks := .later }
def TiledNoneCardSaid : Prop := Claim7.holds Tryz.pinned (.plain (OpenSpec.ofChange tiledNoneSpec)) tiledNoneCard

/-- THE SECOND FORM's CARD OF 'cartularylaw16.TiledSame'. -/
def tiledSameUptoCard : Claim7 := { stood := { row := tiledSameUptoRow, standIns := [], harness := (true, "779eb00530a53a8c0285cef9e072906e49fcdfca76926c32d3d21aee83d74e2f"), looks := true }, kinds := [], alts := [], laidByText := true, laidKinds := [.data, .data, .data, .handle, .sentinel, .sentinel, .sentinel, .sentinel, .sentinel, .sentinel, .sentinel, .sentinel, .sentinel, .sentinel, .sentinel, .sentinel, .sentinel, .sentinel, .sentinel, .sentinel, .data, .data], laidTests := true, laidLooks := .later }
def TiledSameUptoCardSaid : Prop := Claim7.holds Tryz.pinned (.plain (OpenSpec.upto tiledSameSpec)) tiledSameUptoCard

/-- THE SECOND FORM's CARD OF 'cartularylaw16.TiledFails'. -/
def tiledFailsUptoCard : Claim7 := { stood := { row := tiledFailsUptoRow, standIns := [], harness := (true, "779eb00530a53a8c0285cef9e072906e49fcdfca76926c32d3d21aee83d74e2f"), looks := true }, kinds := [], alts := [], laidByText := true, laidKinds := [.data, .data, .data, .handle, .sentinel, .sentinel, .sentinel, .sentinel, .sentinel, .sentinel, .sentinel, .sentinel, .sentinel, .sentinel, .sentinel, .sentinel, .sentinel, .sentinel, .sentinel, .sentinel, .data, .data], laidTests := true, laidLooks := .later }
def TiledFailsUptoCardSaid : Prop := Claim7.holds Tryz.pinned (.plain (OpenSpec.upto tiledFailsSpec)) tiledFailsUptoCard

/-- THE SECOND FORM's CARD OF 'cartularylaw16.TiledNone'. -/
def tiledNoneUptoCard : Claim7 := { stood := { row := tiledNoneUptoRow, standIns := [], harness := (true, "779eb00530a53a8c0285cef9e072906e49fcdfca76926c32d3d21aee83d74e2f"), looks := true }, kinds := [], alts := [], laidByText := true, laidKinds := [.data, .data, .data, .handle, .sentinel, .sentinel, .sentinel, .sentinel, .sentinel, .sentinel, .sentinel, .sentinel, .sentinel, .sentinel, .sentinel, .sentinel, .sentinel, .sentinel, .sentinel, .sentinel, .data, .data], laidTests := true, laidLooks := .later }
def TiledNoneUptoCardSaid : Prop := Claim7.holds Tryz.pinned (.plain (OpenSpec.upto tiledNoneSpec)) tiledNoneUptoCard
end Rows
end Go.Proofs.YtihmckficphccaaGreatDoor
