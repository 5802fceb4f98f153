/- The statement TileCovers holds: for every tree and size, in every state of the program in which the errors of package api and the tables that the row lists lie as the program lays them, whatever the library variable MaxLen holds, the call returns true; nothing that was there turns. Its card is tied to a pruned copy of the project. -/
import Derived.Test.YtlgokcijmhkdiabGreatDoorRows
import Derived.Test.YtlgokcijmhkdiabGreatDoorUg
import Derived.Test.YtlgokcijmhkdiabGreatDoorLc
import Derived.Test.YtlgokcijmhkdiabGreatDoorLa
import Derived.Test.YtlgokcijmhkdiabGreatDoorLe
import Derived.Test.YtlgokcijmhkdiabGreatDoorTie
import Derived.Test.YtlgokcijmhkdiabGreatDoorCards
import Derived.WalkKit
import Derived.ProofKit
import Derived.OpenShut
import Derived.ShutString
import Derived.ChangeOld
import Derived.Below
import Derived.Carry
import Derived.LaidMore
import Derived.Stop.Joined
import Derived.SevenTiedAt
import Derived.SizedLaws
import Derived.Lay
import Derived.Test.YtlgokcijmhkdiabGreatDoorTileCoversLift
import Derived.Test.YtlgokcijmhkdiabGreatDoorTileCoversFacts
namespace Go.Proofs.YtlgokcijmhkdiabGreatDoor.tileCovers
open Go.ChangeShapes Go.WideShapes Go.ChangeAt Go.RowKit
open Go.ChangeMaps (open_string shut_string)
set_option linter.unusedVariables false


theorem over : Rows.tileCoversRow.holds Tryz.pinned (OpenSpec.ofChange Rows.tileCoversSpec) :=
  OpenClaim.holds_of_wide 5 Tryz.f5 rfl rfl rfl rfl rfl rfl rfl ⟨rfl, rfl, rfl, rfl, rfl⟩ rfl rfl rfl rfl rfl (by kernel_rfl) Tryz.func5 facts
    (of_decide_eq_true (by kernel_rfl)) (by unfold Func.isWrapper; first | (rw [if_pos (by decide +kernel)]; kernel_rfl) | (rw [if_neg (by decide +kernel)]; exact ⟨rfl, rfl⟩))
    (fun os started H enc _ => lifted os started H enc)

theorem proved : Rows.TileCoversCardSaid :=
  Claim7.holds_tied_plain_at .later [] [.data, .data, .data, .data, .handle, .sentinel, .sentinel, .sentinel, .sentinel, .sentinel, .sentinel, .sentinel, .sentinel, .sentinel, .sentinel, .sentinel, .sentinel, .sentinel, .sentinel, .sentinel, .sentinel, .pinned] true (true, "f521f4904f737ef85f9f7d34a0ad10f2653ea3798772f0d9b25aaf58feadfca5") true
    over (fun _ h => by cases h) (by kernel_rfl) (fun _ h => by cases h) tileCovers_row_tie rfl ⟨rfl, rfl⟩ (by kernel_rfl) rfl
    (fun f fn hf hfn => by
      obtain rfl : f = 5 := Option.some.inj ((show Tryz.prog.funcNamed "cartulary/cartularylaw11.TileCovers" = some 5 by kernel_rfl).symm.trans hf) |>.symm
      obtain rfl : fn = Tryz.f5 := (Option.some.inj (Tryz.func5.symm.trans hfn)).symm
      exact ⟨by kernel_rfl, fun j t ht => by
        rw [Tryz.params5] at ht
        have hm : t ∈ [49, 22] := by simpa using Array.mem_of_getElem? ht
        have hall : ([49, 22].all fun u => !Tryz.prog.wantsStandIn u) = true := by kernel_rfl
        exact (show Tryz.prog.wantsStandIn t = false by simpa using List.all_eq_true.1 hall t hm)⟩)
    (by kernel_rfl)
#print axioms proved
end Go.Proofs.YtlgokcijmhkdiabGreatDoor.tileCovers

namespace Go.Proofs.YtlgokcijmhkdiabGreatDoor
theorem tileCovers_holds : Rows.TileCoversCardSaid := tileCovers.proved
end Go.Proofs.YtlgokcijmhkdiabGreatDoor
