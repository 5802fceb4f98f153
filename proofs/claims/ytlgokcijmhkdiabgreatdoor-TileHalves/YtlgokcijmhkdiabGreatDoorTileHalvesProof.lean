/- The statement TileHalves holds: for every list of hashes, place and number, in every state of the program in which the errors of package api and the tables that the row lists lie as the program lays them, whatever the library variable MaxLen holds, the call returns true; nothing that was there turns. Its card is tied to a pruned copy of the project. -/
import Derived.Test.YtlgokcijmhkdiabGreatDoorRows
import Derived.Test.YtlgokcijmhkdiabGreatDoorUj
import Derived.Test.YtlgokcijmhkdiabGreatDoorLk
import Derived.Test.YtlgokcijmhkdiabGreatDoorLa
import Derived.Test.YtlgokcijmhkdiabGreatDoorLe
import Derived.Test.YtlgokcijmhkdiabGreatDoorTie
import Derived.Test.YtlgokcijmhkdiabGreatDoorCards
import Derived.WalkKit
import Derived.ProofKit
import Derived.OpenShut
import Derived.ShutString
import Derived.ChangeOld
import Derived.Below
import Derived.Carry
import Derived.LaidMore
import Derived.Stop.Joined
import Derived.SevenTiedAt
import Derived.SizedLaws
import Derived.Lay
import Derived.Test.YtlgokcijmhkdiabGreatDoorTileHalvesLift
import Derived.Test.YtlgokcijmhkdiabGreatDoorTileHalvesFacts
namespace Go.Proofs.YtlgokcijmhkdiabGreatDoor.tileHalves
open Go.ChangeShapes Go.WideShapes Go.ChangeAt Go.RowKit
open Go.ChangeMaps (open_string shut_string)
set_option linter.unusedVariables false


theorem over : Rows.tileHalvesRow.holds Tryz.pinned (OpenSpec.ofChange Rows.tileHalvesSpec) :=
  OpenClaim.holds_of_wide 6 Tryz.f6 rfl rfl rfl rfl rfl rfl rfl ⟨rfl, rfl, rfl, rfl, rfl⟩ rfl rfl rfl rfl rfl (by kernel_rfl) Tryz.func6 facts
    (of_decide_eq_true (by kernel_rfl)) (by unfold Func.isWrapper; first | (rw [if_pos (by decide +kernel)]; kernel_rfl) | (rw [if_neg (by decide +kernel)]; exact ⟨rfl, rfl⟩))
    (fun os started H enc _ => lifted os started H enc)

theorem proved : Rows.TileHalvesCardSaid :=
  Claim7.holds_tied_plain_at .later [] [.data, .data, .data, .data, .handle, .sentinel, .sentinel, .sentinel, .sentinel, .sentinel, .sentinel, .sentinel, .sentinel, .sentinel, .sentinel, .sentinel, .sentinel, .sentinel, .sentinel, .sentinel, .sentinel, .data, .data, .pinned] true (true, "f521f4904f737ef85f9f7d34a0ad10f2653ea3798772f0d9b25aaf58feadfca5") true
    over (fun _ h => by cases h) (by kernel_rfl) (fun _ h => by cases h) tileHalves_row_tie rfl ⟨rfl, rfl⟩ (by kernel_rfl) rfl
    (fun f fn hf hfn => by
      obtain rfl : f = 6 := Option.some.inj ((show Tryz.prog.funcNamed "cartulary/cartularylaw11.TileHalves" = some 6 by kernel_rfl).symm.trans hf) |>.symm
      obtain rfl : fn = Tryz.f6 := (Option.some.inj (Tryz.func6.symm.trans hfn)).symm
      exact ⟨by kernel_rfl, fun j t ht => by
        rw [Tryz.params6] at ht
        have hm : t ∈ [25, 3, 3] := by simpa using Array.mem_of_getElem? ht
        have hall : ([25, 3, 3].all fun u => !Tryz.prog.wantsStandIn u) = true := by kernel_rfl
        exact (show Tryz.prog.wantsStandIn t = false by simpa using List.all_eq_true.1 hall t hm)⟩)
    (by kernel_rfl)
#print axioms proved
end Go.Proofs.YtlgokcijmhkdiabGreatDoor.tileHalves

namespace Go.Proofs.YtlgokcijmhkdiabGreatDoor
theorem tileHalves_holds : Rows.TileHalvesCardSaid := tileHalves.proved
end Go.Proofs.YtlgokcijmhkdiabGreatDoor
