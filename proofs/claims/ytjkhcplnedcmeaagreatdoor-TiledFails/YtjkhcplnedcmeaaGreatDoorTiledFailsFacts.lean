/- Closed facts of the row: the statement TiledFails holds: for every number of leaves, capacity, row of queries and row of reads that fail, in every state of the program in which the errors of package api and the tables that the row lists lie as the program lays them, the call returns true; nothing that was there turns. Its card is tied to a pruned copy of the project. -/
import Derived.Test.YtjkhcplnedcmeaaGreatDoorRows
import Derived.WalkKit
import Derived.ProofKit
import Derived.Stop.Joined
import Derived.JoinedOf
namespace Go.Proofs.YtjkhcplnedcmeaaGreatDoor.tiledFails
open Go.ChangeShapes Go.WideShapes Go.ChangeAt Go.RowKit
open Go.ChangeMaps (open_string shut_string)
set_option linter.unusedVariables false


theorem j1 : (Rows.tiledFailsRow.inPlace == Tryz.pinned.checked.prog.inPlace 4) = true := by kernel_rfl
theorem j2 : (Rows.tiledFailsRow.unfollowed == Tryz.pinned.checked.prog.unfollowed 4) = true := by kernel_rfl
theorem j3 : (Rows.tiledFailsRow.recurses == Tryz.pinned.checked.prog.recurses 4) = true := by kernel_rfl
theorem j4 : (Rows.tiledFailsRow.named == Tryz.pinned.checked.prog.varsNamed 4) = true := by kernel_rfl
theorem facts : joinedFacts Tryz.pinned.checked.prog 4 Tryz.f4 Rows.tiledFailsSpec Rows.tiledFailsRow = true := by
  unfold joinedFacts
  simp only [j1, j2, j3, j4, Bool.and_true]
  kernel_rfl
end Go.Proofs.YtjkhcplnedcmeaaGreatDoor.tiledFails
