/- The statement TileCounts holds: for every size, level and index, in every state of the program in which the errors of package api and the tables that the row lists lie as the program lays them, whatever the library variable MaxLen holds, the call returns true; nothing that was there turns. Its card is tied to a pruned copy of the project. -/
import Derived.Test.YtkjonddlmiedcaaGreatDoorRows
import Derived.Test.YtkjonddlmiedcaaGreatDoorUr
import Derived.Test.YtkjonddlmiedcaaGreatDoorLa
import Derived.Test.YtkjonddlmiedcaaGreatDoorLe
import Derived.Test.YtkjonddlmiedcaaGreatDoorTie
import Derived.Test.YtkjonddlmiedcaaGreatDoorCards
import Derived.WalkKit
import Derived.ProofKit
import Derived.OpenShut
import Derived.ShutString
import Derived.ChangeOld
import Derived.Below
import Derived.Carry
import Derived.LaidMore
import Derived.Stop.Joined
import Derived.SevenTiedAt
import Derived.SizedLaws
import Derived.Lay
import Derived.Test.YtkjonddlmiedcaaGreatDoorTileCountsLift
import Derived.Test.YtkjonddlmiedcaaGreatDoorTileCountsFacts
namespace Go.Proofs.YtkjonddlmiedcaaGreatDoor.tileCounts
open Go.ChangeShapes Go.WideShapes Go.ChangeAt Go.RowKit
open Go.ChangeMaps (open_string shut_string)
set_option linter.unusedVariables false


theorem over : Rows.tileCountsRow.holds Tryz.pinned (OpenSpec.ofChange Rows.tileCountsSpec) :=
  OpenClaim.holds_of_wide 5 Tryz.f5 rfl rfl rfl rfl rfl rfl rfl ⟨rfl, rfl, rfl, rfl, rfl⟩ rfl rfl rfl rfl rfl (by kernel_rfl) Tryz.func5 facts
    (of_decide_eq_true (by kernel_rfl)) (by unfold Func.isWrapper; first | (rw [if_pos (by decide +kernel)]; kernel_rfl) | (rw [if_neg (by decide +kernel)]; exact ⟨rfl, rfl⟩))
    (fun os started H enc _ => lifted os started H enc)

theorem proved : Rows.TileCountsCardSaid :=
  Claim7.holds_tied_plain_at .later [] [.data, .data, .data, .data, .handle, .sentinel, .sentinel, .sentinel, .sentinel, .sentinel, .sentinel, .sentinel, .sentinel, .sentinel, .sentinel, .sentinel, .sentinel, .sentinel, .sentinel, .sentinel, .sentinel, .pinned] true (true, "a7d514d25441f95ffa3c3f2f9b4674e17ad9a9c3072ae444228da62c44562eff") true
    over (fun _ h => by cases h) (by kernel_rfl) (fun _ h => by cases h) tileCounts_row_tie rfl ⟨rfl, rfl⟩ (by kernel_rfl) rfl
    (fun f fn hf hfn => by
      obtain rfl : f = 5 := Option.some.inj ((show Tryz.prog.funcNamed "cartulary/cartularylaw11.TileCounts" = some 5 by kernel_rfl).symm.trans hf) |>.symm
      obtain rfl : fn = Tryz.f5 := (Option.some.inj (Tryz.func5.symm.trans hfn)).symm
      exact ⟨by kernel_rfl, fun j t ht => by
        rw [Tryz.params5] at ht
        have hm : t ∈ [39, 5, 39] := by simpa using Array.mem_of_getElem? ht
        have hall : ([39, 5, 39].all fun u => !Tryz.prog.wantsStandIn u) = true := by kernel_rfl
        exact (show Tryz.prog.wantsStandIn t = false by simpa using List.all_eq_true.1 hall t hm)⟩)
    (by kernel_rfl)
#print axioms proved
end Go.Proofs.YtkjonddlmiedcaaGreatDoor.tileCounts

namespace Go.Proofs.YtkjonddlmiedcaaGreatDoor
theorem tileCounts_holds : Rows.TileCountsCardSaid := tileCounts.proved
end Go.Proofs.YtkjonddlmiedcaaGreatDoor
