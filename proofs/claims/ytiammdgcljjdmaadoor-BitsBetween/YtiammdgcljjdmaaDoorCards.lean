/-
  DERIVED. GIVEN WITH THE SEED: THE CARDS: each row of YtiammdgcljjdmaaDoorRows.lean that lists a variable, with what it lists TIED to the program's text (the seventh form; the later family's looks); each row that meets fmt, with fmt's text TOLD by the authors' own Lean function (tested against real Go, not proved from fmt's source: count such statements apart). THE CARD IS WHAT COUNTS. Prove the row's statement (the work); the ties are given (YtiammdgcljjdmaaDoorTie.lean); close each card by the builder's one call (the guide's Derived/Test/ToyasCard.lean, 'card_holds'). Laid BY PROGRAM, IN A SANDBOX (cutbox-door.mjs). By AI agents, Wed Nov 11 2026. No macro, syntax, notation, axiom, sorry.
-/
import Derived.Test.YtiammdgcljjdmaaDoorRows
import GoSem.ClaimSeven
namespace Go.Proofs.YtiammdgcljjdmaaDoor
namespace Rows

/-- THE TIED CARD OF 'cartularylaw01.BitsOnes'. -/
def bitsOnesCard : Claim7 := { stood := { row := bitsOnesRow, standIns := [], harness := (true, "eccfe537789452febbe70fa12ff13cab9785f7e0948feaa6ab3f42b95b5ebd09"), looks := false }, kinds := [], alts := [], laidByText := true, laidKinds := [.data], laidTests := true, laidLooks := .later }
def BitsOnesCardSaid : Prop := Claim7.holds Tryd.pinned (.plain (OpenSpec.ofChange bitsOnesSpec)) bitsOnesCard

/-- THE TIED CARD OF 'cartularylaw01.BitsBetween'. -/
def bitsBetweenCard : Claim7 := { stood := { row := bitsBetweenRow, standIns := [], harness := (true, "eccfe537789452febbe70fa12ff13cab9785f7e0948feaa6ab3f42b95b5ebd09"), looks := false }, kinds := [], alts := [], laidByText := true, laidKinds := [.data], laidTests := true, laidLooks := .later }
def BitsBetweenCardSaid : Prop := Claim7.holds Tryd.pinned (.plain (OpenSpec.ofChange bitsBetweenSpec)) bitsBetweenCard

/-- THE SECOND FORM's CARD OF 'cartularylaw01.BitsOnes'. -/
def bitsOnesUptoCard : Claim7 := { stood := { row := bitsOnesUptoRow, standIns := [], harness := (true, "eccfe537789452febbe70fa12ff13cab9785f7e0948feaa6ab3f42b95b5ebd09"), looks := false }, kinds := [], alts := [], laidByText := true, laidKinds := [.data], laidTests := true, laidLooks := .later }
def BitsOnesUptoCardSaid : Prop := Claim7.holds Tryd.pinned (.plain (OpenSpec.upto bitsOnesSpec)) bitsOnesUptoCard

/-- THE SECOND FORM's CARD OF 'cartularylaw01.BitsBetween'. -/
def bitsBetweenUptoCard : Claim7 := { stood := { row := bitsBetweenUptoRow, standIns := [], harness := (true, "eccfe537789452febbe70fa12ff13cab9785f7e0948feaa6ab3f42b95b5ebd09"), looks := false }, kinds := [], alts := [], laidByText := true, laidKinds := [.data], laidTests := true, laidLooks := .later }
def BitsBetweenUptoCardSaid : Prop := Claim7.holds Tryd.pinned (.plain (OpenSpec.upto bitsBetweenSpec)) bitsBetweenUptoCard
end Rows
end Go.Proofs.YtiammdgcljjdmaaDoor
