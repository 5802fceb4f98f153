/- The statement TileBack holds: for every tile, text, list of hashes, text and number, in every state of the program in which the errors of package api and the tables that the row lists lie as the program lays them, whatever the library variable MaxLen holds, the call returns true; nothing that was there turns. Its card is tied to a pruned copy of the project. -/
import Derived.Test.YtkjonddlmiedcaaGreatDoorRows
import Derived.Test.YtkjonddlmiedcaaGreatDoorVe
import Derived.Test.YtkjonddlmiedcaaGreatDoorLk
import Derived.Test.YtkjonddlmiedcaaGreatDoorLl
import Derived.Test.YtkjonddlmiedcaaGreatDoorLa
import Derived.Test.YtkjonddlmiedcaaGreatDoorLe
import Derived.Test.YtkjonddlmiedcaaGreatDoorTie
import Derived.Test.YtkjonddlmiedcaaGreatDoorCards
import Derived.WalkKit
import Derived.ProofKit
import Derived.OpenShut
import Derived.ShutString
import Derived.ChangeOld
import Derived.Below
import Derived.Carry
import Derived.LaidMore
import Derived.Stop.Joined
import Derived.SevenTiedAt
import Derived.SizedLaws
import Derived.Lay
import Derived.Test.YtkjonddlmiedcaaGreatDoorTileBackLift
import Derived.Test.YtkjonddlmiedcaaGreatDoorTileBackFacts
namespace Go.Proofs.YtkjonddlmiedcaaGreatDoor.tileBack
open Go.ChangeShapes Go.WideShapes Go.ChangeAt Go.RowKit
open Go.ChangeMaps (open_string shut_string)
set_option linter.unusedVariables false


theorem over : Rows.tileBackRow.holds Tryz.pinned (OpenSpec.ofChange Rows.tileBackSpec) :=
  OpenClaim.holds_of_wide 4 Tryz.f4 rfl rfl rfl rfl rfl rfl rfl ⟨rfl, rfl, rfl, rfl, rfl⟩ rfl rfl rfl rfl rfl (by kernel_rfl) Tryz.func4 facts
    (of_decide_eq_true (by kernel_rfl)) (by unfold Func.isWrapper; first | (rw [if_pos (by decide +kernel)]; kernel_rfl) | (rw [if_neg (by decide +kernel)]; exact ⟨rfl, rfl⟩))
    (fun os started H enc _ => lifted os started H enc)

theorem proved : Rows.TileBackCardSaid :=
  Claim7.holds_tied_plain_at .later [] [.data, .data, .data, .data, .handle, .sentinel, .sentinel, .sentinel, .sentinel, .sentinel, .sentinel, .sentinel, .sentinel, .sentinel, .sentinel, .sentinel, .sentinel, .sentinel, .sentinel, .sentinel, .sentinel, .pinned] true (true, "a7d514d25441f95ffa3c3f2f9b4674e17ad9a9c3072ae444228da62c44562eff") true
    over (fun _ h => by cases h) (by kernel_rfl) (fun _ h => by cases h) tileBack_row_tie rfl ⟨rfl, rfl⟩ (by kernel_rfl) rfl
    (fun f fn hf hfn => by
      obtain rfl : f = 4 := Option.some.inj ((show Tryz.prog.funcNamed "cartulary/cartularylaw11.TileBack" = some 4 by kernel_rfl).symm.trans hf) |>.symm
      obtain rfl : fn = Tryz.f4 := (Option.some.inj (Tryz.func4.symm.trans hfn)).symm
      exact ⟨by kernel_rfl, fun j t ht => by
        rw [Tryz.params4] at ht
        have hm : t ∈ [41, 9, 22, 9, 3] := by simpa using Array.mem_of_getElem? ht
        have hall : ([41, 9, 22, 9, 3].all fun u => !Tryz.prog.wantsStandIn u) = true := by kernel_rfl
        exact (show Tryz.prog.wantsStandIn t = false by simpa using List.all_eq_true.1 hall t hm)⟩)
    (by kernel_rfl)
#print axioms proved
end Go.Proofs.YtkjonddlmiedcaaGreatDoor.tileBack

namespace Go.Proofs.YtkjonddlmiedcaaGreatDoor
theorem tileBack_holds : Rows.TileBackCardSaid := tileBack.proved
end Go.Proofs.YtkjonddlmiedcaaGreatDoor
