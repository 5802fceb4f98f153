/- An error with its place; a letter's number. -/
import Derived.Test.YtebbgpnhkpbefaaGreatDoorE5
namespace Go.Proofs.YtebbgpnhkpbefaaGreatDoor
open Go.RowKit
set_option linter.unusedVariables false
set_option linter.unusedSimpArgs false

theorem wrong_any {B : Nat} {w : World} {a : Nat → Addr} (hS : Sent B w a) (q : Int) :
    Calls Tryz.prog 15 #[.int .i64 q] w fun e w' => ∃ v, e = .returned v ∧ EV w' a v 3 (some q) ∧ Nw w w' := by
  have hc := hS.c2
  go_enter Tryz.func15, Tryz.ntmps15
  go_wp2
  go_ret
  refine ⟨_, rfl, .inr (.inr ⟨2, w.heap.size, q, by omega, rfl, ⟨?_, ?_⟩, rfl, rfl⟩), (Fr.refl _ _).alloc _⟩
  · rw [cell_of (heap_alloc_new w _)]; rfl
  · rw [cell_of (heap_alloc_new w _)]; rfl
end Go.Proofs.YtebbgpnhkpbefaaGreatDoor
