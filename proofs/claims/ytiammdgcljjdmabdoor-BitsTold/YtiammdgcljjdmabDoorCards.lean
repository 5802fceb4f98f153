/-
  DERIVED. GIVEN WITH THE SEED: THE CARDS: each row of YtiammdgcljjdmabDoorRows.lean that lists a variable, with what it lists TIED to the program's text (the seventh form; the later family's looks); each row that meets fmt, with fmt's text TOLD by the authors' own Lean function (tested against real Go, not proved from fmt's source: count such statements apart). THE CARD IS WHAT COUNTS. Prove the row's statement (the work); the ties are given (YtiammdgcljjdmabDoorTie.lean); close each card by the builder's one call (the guide's Derived/Test/ToyasCard.lean, 'card_holds'). Laid BY PROGRAM, IN A SANDBOX (cutbox-door.mjs). By AI agents, Wed Nov 11 2026. No macro, syntax, notation, axiom, sorry.
-/
import Derived.Test.YtiammdgcljjdmabDoorRows
import GoSem.ClaimSeven
namespace Go.Proofs.YtiammdgcljjdmabDoor
namespace Rows

/-- THE TIED CARD OF 'cartularylaw01.BitsSums'. -/
def bitsSumsCard : Claim7 := { stood := { row := bitsSumsRow, standIns := [], harness := (true, "49b3990423dfa95936398192008f2b1f40032d26b0d5fcb8f5abdcad84bf145b"), looks := false }, kinds := [], alts := [], laidByText := true, laidKinds := [.data], laidTests := true, laidLooks := .later }
def BitsSumsCardSaid : Prop := Claim7.holds Tryd.pinned (.plain (OpenSpec.ofChange bitsSumsSpec)) bitsSumsCard

/-- THE TIED CARD OF 'cartularylaw01.BitsTold'. -/
def bitsToldCard : Claim7 := { stood := { row := bitsToldRow, standIns := [], harness := (true, "49b3990423dfa95936398192008f2b1f40032d26b0d5fcb8f5abdcad84bf145b"), looks := false }, kinds := [], alts := [], laidByText := true, laidKinds := [.data], laidTests := true, laidLooks := .later }
def BitsToldCardSaid : Prop := Claim7.holds Tryd.pinned (.plain (OpenSpec.ofChange bitsToldSpec)) bitsToldCard

/-- THE SECOND FORM's CARD OF 'cartularylaw01.BitsSums'. -/
def bitsSumsUptoCard : Claim7 := { stood := { row := bitsSumsUptoRow, standIns := [], harness := (true, "49b3990423dfa95936398192008f2b1f40032d26b0d5fcb8f5abdcad84bf145b"), looks := false }, kinds := [], alts := [], laidByText := true, laidKinds := [.data], laidTests := true, laidLooks := .later }
def BitsSumsUptoCardSaid : Prop := Claim7.holds Tryd.pinned (.plain (OpenSpec.upto bitsSumsSpec)) bitsSumsUptoCard

/-- THE SECOND FORM's CARD OF 'cartularylaw01.BitsTold'. -/
def bitsToldUptoCard : Claim7 := { stood := { row := bitsToldUptoRow, standIns := [], harness := (true, "49b3990423dfa95936398192008f2b1f40032d26b0d5fcb8f5abdcad84bf145b"), looks := false }, kinds := [], alts := [], laidByText := true, laidKinds := [.data], laidTests := true, laidLooks := .later }
def BitsToldUptoCardSaid : Prop := Claim7.holds Tryd.pinned (.plain (OpenSpec.upto bitsToldSpec)) bitsToldUptoCard
end Rows
end Go.Proofs.YtiammdgcljjdmabDoor
