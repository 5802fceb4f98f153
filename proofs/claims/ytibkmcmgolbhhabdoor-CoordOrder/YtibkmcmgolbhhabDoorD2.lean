/- What the document answers: Parent, Sibling, Children. -/
import Derived.Test.YtibkmcmgolbhhabDoorD1
namespace Go.Proofs.YtibkmcmgolbhhabDoor
open Go.RowKit
set_option linter.unusedVariables false
set_option linter.unusedSimpArgs false

/-- Parent's answer, whatever the tree. -/
def ParIs (L I p q : Nat) (ok : Bool) : Prop := ((L < 63 ∧ may L I) ∧ p = L + 1 ∧ q = I / 2 ∧ ok = true) ∨ (¬ (L < 63 ∧ may L I) ∧ p = 0 ∧ q = 0 ∧ ok = false)
theorem parIs_ex (L I : Nat) : ∃ p q ok, ParIs L I p q ok ∧ p ≤ 255 ∧ (I < 18446744073709551616 → q < 18446744073709551616) := by
  by_cases h : L < 63 ∧ may L I
  · exact ⟨_, _, _, .inl ⟨h, rfl, rfl, rfl⟩, by omega, fun _ => by omega⟩
  · exact ⟨_, _, _, .inr ⟨h, rfl, rfl, rfl⟩, by omega, fun _ => by omega⟩
/-- Sibling's answer, whatever the tree. -/
def SibIs (L I p q : Nat) (ok : Bool) : Prop := ((L < 63 ∧ may L I) ∧ p = L ∧ q = sib I ∧ ok = true) ∨ (¬ (L < 63 ∧ may L I) ∧ p = 0 ∧ q = 0 ∧ ok = false)
theorem sibIs_ex (L I : Nat) (hI : I < 18446744073709551616) : ∃ p q ok, SibIs L I p q ok ∧ p ≤ 255 ∧ q < 18446744073709551616 := by
  by_cases h : L < 63 ∧ may L I
  · have hb := may_bd h.2
    rw [p63] at hb
    exact ⟨_, _, _, .inl ⟨h, rfl, rfl, rfl⟩, by omega, by unfold sib; split <;> omega⟩
  · exact ⟨_, _, _, .inr ⟨h, rfl, rfl, rfl⟩, by omega, by omega⟩
end Go.Proofs.YtibkmcmgolbhhabDoor
