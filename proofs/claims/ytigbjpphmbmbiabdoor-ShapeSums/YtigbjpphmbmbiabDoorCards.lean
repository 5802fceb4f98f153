/-
  DERIVED. GIVEN WITH THE SEED: THE CARDS: each row of YtigbjpphmbmbiabDoorRows.lean that lists a variable, with what it lists TIED to the program's text (the seventh form; the later family's looks); each row that meets fmt, with fmt's text TOLD by the authors' own Lean function (tested against real Go, not proved from fmt's source: count such statements apart). THE CARD IS WHAT COUNTS. Prove the row's statement (the work); the ties are given (YtigbjpphmbmbiabDoorTie.lean); close each card by the builder's one call (the guide's Derived/Test/ToyasCard.lean, 'card_holds'). Laid BY PROGRAM, IN A SANDBOX (cutbox-door.mjs). By AI agents, Wed Nov 11 2026. No macro, syntax, notation, axiom, sorry.
-/
import Derived.Test.YtigbjpphmbmbiabDoorRows
import GoSem.ClaimSeven
namespace Go.Proofs.YtigbjpphmbmbiabDoor
namespace Rows

/-- THE TIED CARD OF 'cartularylaw07.ShapeOld'. -/
def shapeOldCard : Claim7 := { stood := { row := shapeOldRow, standIns := [], harness := (true, "6a9648ac9fcfb87ca1705d74babeb93a6511afc34b4f85525d5bbffd7693ba1e"), looks := true }, kinds := [], alts := [], laidByText := true, laidKinds := [.data, .handle, .sentinel, .sentinel, .sentinel, .sentinel, .sentinel, .sentinel, .sentinel, .sentinel, .sentinel, .sentinel, .sentinel, .sentinel, .sentinel, .sentinel, .sentinel, .sentinel], laidTests := true, laidLooks := .later }
def ShapeOldCardSaid : Prop := Claim7.holds Tryd.pinned (.plain (OpenSpec.ofChange shapeOldSpec)) shapeOldCard

/-- THE TIED CARD OF 'cartularylaw07.ShapeSums'. -/
def shapeSumsCard : Claim7 := { stood := { row := shapeSumsRow, standIns := [], harness := (true, "6a9648ac9fcfb87ca1705d74babeb93a6511afc34b4f85525d5bbffd7693ba1e"), looks := true }, kinds := [], alts := [], laidByText := true, laidKinds := [.data, .handle, .sentinel, .sentinel, .sentinel, .sentinel, .sentinel, .sentinel, .sentinel, .sentinel, .sentinel, .sentinel, .sentinel, .sentinel, .sentinel, .sentinel, .sentinel, .sentinel], laidTests := true, laidLooks := .later }
def ShapeSumsCardSaid : Prop := Claim7.holds Tryd.pinned (.plain (OpenSpec.ofChange shapeSumsSpec)) shapeSumsCard

/-- THE SECOND FORM's CARD OF 'cartularylaw07.ShapeOld'. -/
def shapeOldUptoCard : Claim7 := { stood := { row := shapeOldUptoRow, standIns := [], harness := (true, "6a9648ac9fcfb87ca1705d74babeb93a6511afc34b4f85525d5bbffd7693ba1e"), looks := true }, kinds := [], alts := [], laidByText := true, laidKinds := [.data, .handle, .sentinel, .sentinel, .sentinel, .sentinel, .sentinel, .sentinel, .sentinel, .sentinel, .sentinel, .sentinel, .sentinel, .sentinel, .sentinel, .sentinel, .sentinel, .sentinel], laidTests := true, laidLooks := .later }
def ShapeOldUptoCardSaid : Prop := Claim7.holds Tryd.pinned (.plain (OpenSpec.upto shapeOldSpec)) shapeOldUptoCard

/-- THE SECOND FORM's CARD OF 'cartularylaw07.ShapeSums'. -/
def shapeSumsUptoCard : Claim7 := { stood := { row := shapeSumsUptoRow, standIns := [], harness := (true, "6a9648ac9fcfb87ca1705d74babeb93a6511afc34b4f85525d5bbffd7693ba1e"), looks := true }, kinds := [], alts := [], laidByText := true, laidKinds := [.data, .handle, .sentinel, .sentinel, .sentinel, .sentinel, .sentinel, .sentinel, .sentinel, .sentinel, .sentinel, .sentinel, .sentinel, .sentinel, .sentinel, .sentinel, .sentinel, .sentinel], laidTests := true, laidLooks := .later }
def ShapeSumsUptoCardSaid : Prop := Claim7.holds Tryd.pinned (.plain (OpenSpec.upto shapeSumsSpec)) shapeSumsUptoCard
end Rows
end Go.Proofs.YtigbjpphmbmbiabDoor
