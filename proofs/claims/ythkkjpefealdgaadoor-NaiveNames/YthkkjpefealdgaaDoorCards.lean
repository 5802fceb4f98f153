/-
  DERIVED. GIVEN WITH THE SEED: THE CARDS: each row of YthkkjpefealdgaaDoorRows.lean that lists a variable, with what it lists TIED to the program's text (the seventh form; the later family's looks); each row that meets fmt, with fmt's text TOLD by the authors' own Lean function (tested against real Go, not proved from fmt's source: count such statements apart). THE CARD IS WHAT COUNTS. Prove the row's statement (the work); the ties are given (YthkkjpefealdgaaDoorTie.lean); close each card by the builder's one call (the guide's Derived/Test/ToyasCard.lean, 'card_holds'). Laid BY PROGRAM, IN A SANDBOX (cutbox-door.mjs). By AI agents, Wed Nov 11 2026. No macro, syntax, notation, axiom, sorry.
-/
import Derived.Test.YthkkjpefealdgaaDoorRows
import GoSem.ClaimSeven
namespace Go.Proofs.YthkkjpefealdgaaDoor
namespace Rows

/-- THE TIED CARD OF 'cartularylaw08.NaiveTrees'. -/
def naiveTreesCard : Claim7 := { stood := { row := naiveTreesRow, standIns := [], harness := (true, "17398a88a1a2868161e2f0d84eb925fc2b8fed3cff9047dbf4b8e9493fb79db5"), looks := true }, kinds := [], alts := [], laidByText := true, laidKinds := [.handle, .sentinel, .sentinel, .sentinel, .sentinel, .sentinel, .sentinel, .sentinel, .sentinel, .sentinel, .sentinel, .sentinel, .sentinel, .sentinel, .sentinel, .sentinel, .sentinel, .data, .data], laidTests := true, laidLooks := .later }
def NaiveTreesCardSaid : Prop := Claim7.holds Tryd.pinned (.plain (OpenSpec.ofChange naiveTreesSpec)) naiveTreesCard

/-- THE TIED CARD OF 'cartularylaw08.NaiveShapes'. -/
def naiveShapesCard : Claim7 := { stood := { row := naiveShapesRow, standIns := [], harness := (true, "17398a88a1a2868161e2f0d84eb925fc2b8fed3cff9047dbf4b8e9493fb79db5"), looks := true }, kinds := [], alts := [], laidByText := true, laidKinds := [.handle, .sentinel, .sentinel, .sentinel, .sentinel, .sentinel, .sentinel, .sentinel, .sentinel, .sentinel, .sentinel, .sentinel, .sentinel, .sentinel, .sentinel, .sentinel, .sentinel, .data, .data], laidTests := true, laidLooks := .later }
def NaiveShapesCardSaid : Prop := Claim7.holds Tryd.pinned (.plain (OpenSpec.ofChange naiveShapesSpec)) naiveShapesCard

/-- THE TIED CARD OF 'cartularylaw08.NaiveStays'. -/
def naiveStaysCard : Claim7 := { stood := { row := naiveStaysRow, standIns := [], harness := (true, "17398a88a1a2868161e2f0d84eb925fc2b8fed3cff9047dbf4b8e9493fb79db5"), looks := true }, kinds := [], alts := [], laidByText := true, laidKinds := [.handle, .sentinel, .sentinel, .sentinel, .sentinel, .sentinel, .sentinel, .sentinel, .sentinel, .sentinel, .sentinel, .sentinel, .sentinel, .sentinel, .sentinel, .sentinel, .sentinel, .data, .data], laidTests := true, laidLooks := .later }
def NaiveStaysCardSaid : Prop := Claim7.holds Tryd.pinned (.plain (OpenSpec.ofChange naiveStaysSpec)) naiveStaysCard

/-- THE TIED CARD OF 'cartularylaw08.NaiveNames'. -/
def naiveNamesCard : Claim7 := { stood := { row := naiveNamesRow, standIns := [], harness := (true, "17398a88a1a2868161e2f0d84eb925fc2b8fed3cff9047dbf4b8e9493fb79db5"), looks := true }, kinds := [], alts := [], laidByText := true, laidKinds := [.handle, .sentinel, .sentinel, .sentinel, .sentinel, .sentinel, .sentinel, .sentinel, .sentinel, .sentinel, .sentinel, .sentinel, .sentinel, .sentinel, .sentinel, .sentinel, .sentinel, .data, .data], laidTests := true, laidLooks := .later }
def NaiveNamesCardSaid : Prop := Claim7.holds Tryd.pinned (.plain (OpenSpec.ofChange naiveNamesSpec)) naiveNamesCard

/-- THE SECOND FORM's CARD OF 'cartularylaw08.NaiveTrees'. -/
def naiveTreesUptoCard : Claim7 := { stood := { row := naiveTreesUptoRow, standIns := [], harness := (true, "17398a88a1a2868161e2f0d84eb925fc2b8fed3cff9047dbf4b8e9493fb79db5"), looks := true }, kinds := [], alts := [], laidByText := true, laidKinds := [.handle, .sentinel, .sentinel, .sentinel, .sentinel, .sentinel, .sentinel, .sentinel, .sentinel, .sentinel, .sentinel, .sentinel, .sentinel, .sentinel, .sentinel, .sentinel, .sentinel, .data, .data], laidTests := true, laidLooks := .later }
def NaiveTreesUptoCardSaid : Prop := Claim7.holds Tryd.pinned (.plain (OpenSpec.upto naiveTreesSpec)) naiveTreesUptoCard

/-- THE SECOND FORM's CARD OF 'cartularylaw08.NaiveShapes'. -/
def naiveShapesUptoCard : Claim7 := { stood := { row := naiveShapesUptoRow, standIns := [], harness := (true, "17398a88a1a2868161e2f0d84eb925fc2b8fed3cff9047dbf4b8e9493fb79db5"), looks := true }, kinds := [], alts := [], laidByText := true, laidKinds := [.handle, .sentinel, .sentinel, .sentinel, .sentinel, .sentinel, .sentinel, .sentinel, .sentinel, .sentinel, .sentinel, .sentinel, .sentinel, .sentinel, .sentinel, .sentinel, .sentinel, .data, .data], laidTests := true, laidLooks := .later }
def NaiveShapesUptoCardSaid : Prop := Claim7.holds Tryd.pinned (.plain (OpenSpec.upto naiveShapesSpec)) naiveShapesUptoCard

/-- THE SECOND FORM's CARD OF 'cartularylaw08.NaiveStays'. -/
def naiveStaysUptoCard : Claim7 := { stood := { row := naiveStaysUptoRow, standIns := [], harness := (true, "17398a88a1a2868161e2f0d84eb925fc2b8fed3cff9047dbf4b8e9493fb79db5"), looks := true }, kinds := [], alts := [], laidByText := true, laidKinds := [.handle, .sentinel, .sentinel, .sentinel, .sentinel, .sentinel, .sentinel, .sentinel, .sentinel, .sentinel, .sentinel, .sentinel, .sentinel, .sentinel, .sentinel, .sentinel, .sentinel, .data, .data], laidTests := true, laidLooks := .later }
def NaiveStaysUptoCardSaid : Prop := Claim7.holds Tryd.pinned (.plain (OpenSpec.upto naiveStaysSpec)) naiveStaysUptoCard

/-- THE SECOND FORM's CARD OF 'cartularylaw08.NaiveNames'. -/
def naiveNamesUptoCard : Claim7 := { stood := { row := naiveNamesUptoRow, standIns := [], harness := (true, "17398a88a1a2868161e2f0d84eb925fc2b8fed3cff9047dbf4b8e9493fb79db5"), looks := true }, kinds := [], alts := [], laidByText := true, laidKinds := [.handle, .sentinel, .sentinel, .sentinel, .sentinel, .sentinel, .sentinel, .sentinel, .sentinel, .sentinel, .sentinel, .sentinel, .sentinel, .sentinel, .sentinel, .sentinel, .sentinel, .data, .data], laidTests := true, laidLooks := .later }
def NaiveNamesUptoCardSaid : Prop := Claim7.holds Tryd.pinned (.plain (OpenSpec.upto naiveNamesSpec)) naiveNamesUptoCard
end Rows
end Go.Proofs.YthkkjpefealdgaaDoor
