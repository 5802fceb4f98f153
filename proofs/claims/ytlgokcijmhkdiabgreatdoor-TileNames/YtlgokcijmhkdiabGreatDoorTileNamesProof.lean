/- The statement TileNames holds: in every state of the program in which the errors of package api and the tables that the row lists lie as they are laid. -/
import Derived.Test.YtlgokcijmhkdiabGreatDoorRows
import Derived.Test.YtlgokcijmhkdiabGreatDoorUn
import Derived.Test.YtlgokcijmhkdiabGreatDoorLa
import Derived.Test.YtlgokcijmhkdiabGreatDoorLe
import Derived.Test.YtlgokcijmhkdiabGreatDoorTie
import Derived.Test.YtlgokcijmhkdiabGreatDoorCards
import Derived.WalkKit
import Derived.ProofKit
import Derived.OpenShut
import Derived.ShutString
import Derived.ChangeOld
import Derived.Below
import Derived.Carry
import Derived.LaidMore
import Derived.Stop.Joined
import Derived.SevenTiedAt
import Derived.SizedLaws
import Derived.Lay
import Derived.Test.YtlgokcijmhkdiabGreatDoorTileNamesLift
import Derived.Test.YtlgokcijmhkdiabGreatDoorTileNamesFacts
namespace Go.Proofs.YtlgokcijmhkdiabGreatDoor.tileNames
open Go.ChangeShapes Go.WideShapes Go.ChangeAt Go.RowKit
open Go.ChangeMaps (open_string shut_string)
set_option linter.unusedVariables false


theorem over : Rows.tileNamesRow.holds Tryz.pinned (OpenSpec.ofChange Rows.tileNamesSpec) :=
  OpenClaim.holds_of_wide 7 Tryz.f7 rfl rfl rfl rfl rfl rfl rfl ⟨rfl, rfl, rfl, rfl, rfl⟩ rfl rfl rfl rfl rfl (by kernel_rfl) Tryz.func7 facts
    (of_decide_eq_true (by kernel_rfl)) (by unfold Func.isWrapper; first | (rw [if_pos (by decide +kernel)]; kernel_rfl) | (rw [if_neg (by decide +kernel)]; exact ⟨rfl, rfl⟩))
    (fun os started H enc _ => lifted os started H enc)

theorem proved : Rows.TileNamesCardSaid :=
  Claim7.holds_tied_plain_at .later [] [.data, .data, .data, .data, .handle, .sentinel, .sentinel, .sentinel, .sentinel, .sentinel, .sentinel, .sentinel, .sentinel, .sentinel, .sentinel, .sentinel, .sentinel, .sentinel, .sentinel, .sentinel, .sentinel, .data, .data, .pinned] true (true, "f521f4904f737ef85f9f7d34a0ad10f2653ea3798772f0d9b25aaf58feadfca5") true
    over (fun _ h => by cases h) (by kernel_rfl) (fun _ h => by cases h) tileNames_row_tie rfl ⟨rfl, rfl⟩ (by kernel_rfl) rfl
    (fun f fn hf hfn => by
      obtain rfl : f = 7 := Option.some.inj ((show Tryz.prog.funcNamed "cartulary/cartularylaw11.TileNames" = some 7 by kernel_rfl).symm.trans hf) |>.symm
      obtain rfl : fn = Tryz.f7 := (Option.some.inj (Tryz.func7.symm.trans hfn)).symm
      exact ⟨by kernel_rfl, fun j t ht => by
        rw [Tryz.params7] at ht
        simp at ht⟩)
    (by kernel_rfl)
#print axioms proved
end Go.Proofs.YtlgokcijmhkdiabGreatDoor.tileNames

namespace Go.Proofs.YtlgokcijmhkdiabGreatDoor
theorem tileNames_holds : Rows.TileNamesCardSaid := tileNames.proved
end Go.Proofs.YtlgokcijmhkdiabGreatDoor
