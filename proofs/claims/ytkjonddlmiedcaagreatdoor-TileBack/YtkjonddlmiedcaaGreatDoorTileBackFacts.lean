/- Closed facts of the row: the statement TileBack holds: for every tile, text, list of hashes, text and number, in every state of the program in which the errors of package api and the tables that the row lists lie as the program lays them, whatever the library variable MaxLen holds, the call returns true; nothing that was there turns. Its card is tied to a pruned copy of the project. -/
import Derived.Test.YtkjonddlmiedcaaGreatDoorRows
import Derived.WalkKit
import Derived.ProofKit
import Derived.Stop.Joined
import Derived.JoinedOf
namespace Go.Proofs.YtkjonddlmiedcaaGreatDoor.tileBack
open Go.ChangeShapes Go.WideShapes Go.ChangeAt Go.RowKit
open Go.ChangeMaps (open_string shut_string)
set_option linter.unusedVariables false


theorem j1 : (Rows.tileBackRow.inPlace == Tryz.pinned.checked.prog.inPlace 4) = true := by kernel_rfl
theorem j2 : (Rows.tileBackRow.unfollowed == Tryz.pinned.checked.prog.unfollowed 4) = true := by kernel_rfl
theorem j3 : (Rows.tileBackRow.recurses == Tryz.pinned.checked.prog.recurses 4) = true := by kernel_rfl
theorem j4 : (Rows.tileBackRow.named == Tryz.pinned.checked.prog.varsNamed 4) = true := by kernel_rfl
theorem facts : joinedFacts Tryz.pinned.checked.prog 4 Tryz.f4 Rows.tileBackSpec Rows.tileBackRow = true := by
  unfold joinedFacts
  simp only [j1, j2, j3, j4, Bool.and_true]
  kernel_rfl
end Go.Proofs.YtkjonddlmiedcaaGreatDoor.tileBack
