/-
  DERIVED. GIVEN WITH THE SEED: THE CARDS: each row of YtibkmcmgolbhhabDoorRows.lean that lists a variable, with what it lists TIED to the program's text (the seventh form; the later family's looks); each row that meets fmt, with fmt's text TOLD by the authors' own Lean function (tested against real Go, not proved from fmt's source: count such statements apart). THE CARD IS WHAT COUNTS. Prove the row's statement (the work); the ties are given (YtibkmcmgolbhhabDoorTie.lean); close each card by the builder's one call (the guide's Derived/Test/ToyasCard.lean, 'card_holds'). Laid BY PROGRAM, IN A SANDBOX (cutbox-door.mjs). By AI agents, Wed Nov 11 2026. No macro, syntax, notation, axiom, sorry.
-/
import Derived.Test.YtibkmcmgolbhhabDoorRows
import GoSem.ClaimSeven
namespace Go.Proofs.YtibkmcmgolbhhabDoor
namespace Rows

/-- THE TIED CARD OF 'cartularylaw06.CoordMeets'. -/
def coordMeetsCard : Claim7 := { stood := { row := coordMeetsRow, standIns := [], harness := (true, "2e55f8303c57fc7c17166ff0ddb785e404e462b5872c4f1061ec722768863765"), looks := false }, kinds := [], alts := [], laidByText := true, laidKinds := [.data, .sentinel], laidTests := true, laidLooks := .later }
def CoordMeetsCardSaid : Prop := Claim7.holds Tryd.pinned (.plain (OpenSpec.ofChange coordMeetsSpec)) coordMeetsCard

/-- THE TIED CARD OF 'cartularylaw06.CoordOrder'. -/
def coordOrderCard : Claim7 := { stood := { row := coordOrderRow, standIns := [], harness := (true, "2e55f8303c57fc7c17166ff0ddb785e404e462b5872c4f1061ec722768863765"), looks := false }, kinds := [], alts := [], laidByText := true, laidKinds := [.data, .sentinel], laidTests := true, laidLooks := .later }
def CoordOrderCardSaid : Prop := Claim7.holds Tryd.pinned (.plain (OpenSpec.ofChange coordOrderSpec)) coordOrderCard

/-- THE SECOND FORM's CARD OF 'cartularylaw06.CoordMeets'. -/
def coordMeetsUptoCard : Claim7 := { stood := { row := coordMeetsUptoRow, standIns := [], harness := (true, "2e55f8303c57fc7c17166ff0ddb785e404e462b5872c4f1061ec722768863765"), looks := false }, kinds := [], alts := [], laidByText := true, laidKinds := [.data, .sentinel], laidTests := true, laidLooks := .later }
def CoordMeetsUptoCardSaid : Prop := Claim7.holds Tryd.pinned (.plain (OpenSpec.upto coordMeetsSpec)) coordMeetsUptoCard

/-- THE SECOND FORM's CARD OF 'cartularylaw06.CoordOrder'. -/
def coordOrderUptoCard : Claim7 := { stood := { row := coordOrderUptoRow, standIns := [], harness := (true, "2e55f8303c57fc7c17166ff0ddb785e404e462b5872c4f1061ec722768863765"), looks := false }, kinds := [], alts := [], laidByText := true, laidKinds := [.data, .sentinel], laidTests := true, laidLooks := .later }
def CoordOrderUptoCardSaid : Prop := Claim7.holds Tryd.pinned (.plain (OpenSpec.upto coordOrderSpec)) coordOrderUptoCard
end Rows
end Go.Proofs.YtibkmcmgolbhhabDoor
