/- The statement TiledFails holds: for every number of leaves, capacity, row of queries and row of reads that fail, in every state of the program in which the errors of package api and the tables that the row lists lie as the program lays them, the call returns true; nothing that was there turns. Its card is tied to a pruned copy of the project. -/
import Derived.Test.YtjkhcplnedcmeaaGreatDoorRows
import Derived.Test.YtjkhcplnedcmeaaGreatDoorTgb
import Derived.Test.YtjkhcplnedcmeaaGreatDoorLg2
import Derived.Test.YtjkhcplnedcmeaaGreatDoorLz
import Derived.Test.YtjkhcplnedcmeaaGreatDoorTie
import Derived.Test.YtjkhcplnedcmeaaGreatDoorCards
import Derived.WalkKit
import Derived.ProofKit
import Derived.OpenShut
import Derived.ShutString
import Derived.ChangeOld
import Derived.Below
import Derived.Carry
import Derived.LaidMore
import Derived.Stop.Joined
import Derived.SevenTiedAt
import Derived.SizedLaws
import Derived.Lay
import Derived.Test.YtjkhcplnedcmeaaGreatDoorTiledFailsLift
import Derived.Test.YtjkhcplnedcmeaaGreatDoorTiledFailsFacts
namespace Go.Proofs.YtjkhcplnedcmeaaGreatDoor.tiledFails
open Go.ChangeShapes Go.WideShapes Go.ChangeAt Go.RowKit
open Go.ChangeMaps (open_string shut_string)
set_option linter.unusedVariables false


theorem over : Rows.tiledFailsRow.holds Tryz.pinned (OpenSpec.ofChange Rows.tiledFailsSpec) :=
  OpenClaim.holds_of_wide 4 Tryz.f4 rfl rfl rfl rfl rfl rfl rfl ⟨rfl, rfl, rfl, rfl, rfl⟩ rfl rfl rfl rfl rfl (by kernel_rfl) Tryz.func4 facts
    (of_decide_eq_true (by kernel_rfl)) (by unfold Func.isWrapper; first | (rw [if_pos (by decide +kernel)]; kernel_rfl) | (rw [if_neg (by decide +kernel)]; exact ⟨rfl, rfl⟩))
    (fun os started H enc _ => lifted os started H enc)

theorem proved : Rows.TiledFailsCardSaid :=
  Claim7.holds_tied_plain_at .later [] [.data, .data, .data, .handle, .sentinel, .sentinel, .sentinel, .sentinel, .sentinel, .sentinel, .sentinel, .sentinel, .sentinel, .sentinel, .sentinel, .sentinel, .sentinel, .sentinel, .sentinel, .sentinel, .data, .data] true (true, "0ce878f4f3fa0e23842ec8e4685fcb0cc793894f1707daa95054c31f076c0d4e") true
    over (fun _ h => by cases h) (by kernel_rfl) (fun _ h => by cases h) tiledFails_row_tie rfl ⟨rfl, rfl⟩ (by kernel_rfl) rfl
    (fun f fn hf hfn => by
      obtain rfl : f = 4 := Option.some.inj ((show Tryz.prog.funcNamed "cartulary/cartularylaw16.TiledFails" = some 4 by kernel_rfl).symm.trans hf) |>.symm
      obtain rfl : fn = Tryz.f4 := (Option.some.inj (Tryz.func4.symm.trans hfn)).symm
      exact ⟨by kernel_rfl, fun j t ht => by
        rw [Tryz.params4] at ht
        have hm : t ∈ [24, 54] := by simpa using Array.mem_of_getElem? ht
        have hall : ([24, 54].all fun u => !Tryz.prog.wantsStandIn u) = true := by kernel_rfl
        exact (show Tryz.prog.wantsStandIn t = false by simpa using List.all_eq_true.1 hall t hm)⟩)
    (by kernel_rfl)
#print axioms proved
end Go.Proofs.YtjkhcplnedcmeaaGreatDoor.tiledFails

namespace Go.Proofs.YtjkhcplnedcmeaaGreatDoor
theorem tiledFails_holds : Rows.TiledFailsCardSaid := tiledFails.proved
end Go.Proofs.YtjkhcplnedcmeaaGreatDoor
