/- The walk, lifted. The statement NaivePlays holds where what comes in is of bulk at most 1048576: for every such script, in every state of the program in which the errors of package api and the tables of package sha lie as the program lays them, the call returns true; nothing that was there turns. Its card is tied to a pruned copy of the project. -/
import Derived.Test.YtdhlmpjoggnkkaaGreatDoorRows
import Derived.Test.YtdhlmpjoggnkkaaGreatDoorV6
import Derived.Test.YtdhlmpjoggnkkaaGreatDoorLo
import Derived.Test.YtdhlmpjoggnkkaaGreatDoorLt
import Derived.Test.YtdhlmpjoggnkkaaGreatDoorLa
import Derived.Test.YtdhlmpjoggnkkaaGreatDoorTie
import Derived.Test.YtdhlmpjoggnkkaaGreatDoorCards
import Derived.WalkKit
import Derived.ProofKit
import Derived.OpenShut
import Derived.ShutString
import Derived.ChangeOld
import Derived.Below
import Derived.Carry
import Derived.LaidMore
import Derived.Stop.Joined
import Derived.SevenTiedAt
import Derived.SizedLaws
import Derived.Lay
import Derived.Deep.DeepHandedRow
import Derived.Deep.DeepWitnessRowRef
namespace Go.Proofs.YtdhlmpjoggnkkaaGreatDoor.naivePlays
open Go.ChangeShapes Go.WideShapes Go.ChangeAt Go.RowKit
open Go.ChangeMaps (open_string shut_string)
set_option linter.unusedVariables false

abbrev laidL : List (String × DataW Unit) := Rows.naivePlaysUptoRow.laid
theorem own : ownKnob Tryz.prog.godebug = none := by kernel_rfl
theorem laidOut : laidOutB Tryz.prog = true := by kernel_rfl
/-- The variables that are laid as plain data. -/
abbrev plainL : List (String × DataW Unit) := laidL.filter fun x => x.2.handleName?.isNone
set_option maxRecDepth 100000 in
theorem plain_met (os : Os) (args : Array Value) : laidMet Tryz.prog plainL (((World.doorLaid Tryz.prog 320 os).layVars Tryz.prog plainL).forCall (fun _ _ => 0) ⟨#[], args, []⟩).memory := by
  have e1 : (plainL.filter fun x => (plainL.map (·.1)).contains x.1) = plainL := List.filter_eq_self.2 fun x hx => List.contains_iff_mem.2 (List.mem_map.2 ⟨x, hx, rfl⟩)
  have e2 : (plainL.filter fun x => !(plainL.map (·.1)).contains x.1) = [] := List.filter_eq_nil_iff.2 fun x hx => by rw [List.contains_iff_mem.2 (List.mem_map.2 ⟨x, hx, rfl⟩)]; simp
  have h : laidMet Tryz.prog plainL ((World.doorLaid Tryz.prog 320 os).layVars Tryz.prog plainL) := laidMet_layVars (w0 := World.doorLaid Tryz.prog 320 os) (plainL.map (·.1)) [] (by rw [e1]) (by rw [e1]; kernel_rfl) (by rw [e1]; kernel_rfl) (by rw [e2]; exact LaidIn.none)
  exact h.of_heap (by simp [World.memory, World.forCall, Input.heap])
set_option maxRecDepth 100000 in
theorem door_met (os : Os) (args : Array Value) : laidMetH Tryz.prog laidL (((World.doorLaid Tryz.prog 320 os).layVars Tryz.prog plainL).forCall (fun _ _ => 0) ⟨#[], args, []⟩).memory :=
  laidMetH_of_parts3 (fuel := 8) (plain_met os args) (by kernel_rfl) (by kernel_rfl)
theorem parts {W : World} (h : laidMetH Tryz.prog laidL W) : (∃ a, Sent W.heap.size W a) ∧ Laid W := ⟨sent_of h (by kernel_rfl), laid_of h (by kernel_rfl) (by kernel_rfl)⟩
set_option maxRecDepth 100000 in
theorem reads (os : Os) {H : Type} (enc : TypeId × Value → H) : ∃ places, DataW.whole enc Tryz.prog (((World.doorLaid Tryz.prog 320 os).layVars Tryz.prog plainL).forCall (fun _ _ => 0) ⟨#[], #[.slice none 0 0], []⟩).memory Tryz.f3.params.toList (Rows.OpenSpec.upto Rows.naivePlaysSpec).vars false (#[.slice none 0 0] : Array Value).toList 8 = some ([.nil], [], places) :=
  ⟨[], by kernel_rfl⟩

set_option maxRecDepth 100000 in
theorem liftedUpto (os : Os) (started : os.Started) (H : Type) (enc : TypeId × Value → H) (F : Stop.Interp) :
    ReturnsInHanded {} Tryz.checked os 3 .any ((Rows.OpenSpec.upto Rows.naivePlaysSpec).preRow enc Tryz.prog Tryz.f3 Rows.naivePlaysUptoRow.domain false Rows.naivePlaysUptoRow.laid) (((Rows.OpenSpec.upto Rows.naivePlaysSpec).at F).post enc Tryz.prog Tryz.f3 false true false false) := by
  obtain ⟨places, hx⟩ := reads os enc
  refine returnsInHanded_of_row (C := Tryz.checked) (s := Rows.OpenSpec.upto Rows.naivePlaysSpec) own started (by kernel_rfl) Tryz.func3
    (witness_row_atRef (enc := enc) (C := Tryz.checked) false ((World.doorLaid Tryz.prog 320 os).layVars Tryz.prog plainL) #[.slice none 0 0] (World.layVars_os _ _ _) (by kernel_rfl) (by kernel_rfl) (by kernel_rfl)
      (OpenSpec.preRow_of_cond 8 hx (by kernel_rfl) (fun k hk => by cases hk; kernel_rfl) (by kernel_rfl) (door_met os _))) ?_
  intro W base args ds gs before hval0 hW _ hcond hsz hL _ _
  have hval : ∀ (j : Nat) t v, Tryz.f3.params[j]? = some t → args[j]? = some v → Value.okWide Tryz.prog W .any base t v := hval0
  have hW' := hW
  obtain ⟨p, q, hA0, hV, rfl, hfz, hnd⟩ := hW
  have hA : DataW.TrodAll enc Tryz.prog W 0 (fun _ => true) true Tryz.f3.params.toList args.toList ds p := hA0
  rw [Tryz.params3] at hA hval
  obtain ⟨rfl, rfl⟩ := trodVars_none hV
  have hbulk := of_decide_eq_true (hcond _ rfl)
  obtain ⟨v0, d0, rfl, rfl, h0⟩ := trodAll_one hA
  have k0 := h0
  have lt0 : ∀ x ∈ p, x.block < W.heap.size := by obtain ⟨m, hm⟩ := k0; exact DataW.trod_lt m _ _ _ hm
  simp only [List.append_nil, Rows.uptoBulkAll] at hbulk
  obtain ⟨a0, c0, n0, A0, rfl, ho0, hn0⟩ := ops_of (okWide_slice Tryz.underlying22 (hval 0 22 v0 rfl rfl)) h0 (by omega)
  clear hbulk
  clear hA0 hval0
  obtain ⟨⟨a, hS⟩, hT⟩ := parts hL
  refine (plays_any a0 c0 n0 A0 W ho0 (by omega) hT hS).mono fun e W' ⟨he, hf⟩ => ?_
  have bel : Below W.heap.size W W' := hf.below (Nat.le_refl _) (fun _ _ f => f)
  subst he
  exact ⟨_, rfl, _, _, _, [], _, [], hW', trodAll_mk1 (shut_bool Tryz.underlying4 _), trodAll_mk1 (Below.trod laidOut (by kernel_rfl) (of_decide_eq_true (by kernel_rfl)) k0 bel lt0), rfl, bel.frame _, fun h => by cases h⟩

end Go.Proofs.YtdhlmpjoggnkkaaGreatDoor.naivePlays
