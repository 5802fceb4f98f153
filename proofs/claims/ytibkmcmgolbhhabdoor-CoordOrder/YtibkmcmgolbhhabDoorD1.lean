/- What the document answers of a tree and of a stretch. -/
import Derived.Test.YtibkmcmgolbhhabDoorC9
namespace Go.Proofs.YtibkmcmgolbhhabDoor
open Go.RowKit
set_option linter.unusedVariables false
set_option linter.unusedSimpArgs false

theorem end_div (L : Nat) (h : L ≤ 63) : (9223372036854775808 : Int) / 2 ^ L = ((2 ^ (63 - L) : Nat) : Int) := by
  have e : (9223372036854775808 : Int) = ((9223372036854775808 : Nat) : Int) := rfl
  rw [e, castd, ← p63]
  congr 1
  exact Nat.pow_div h (by decide)
/-- Span's answer, whatever the tree. -/
def SpanIs (L I b e : Nat) (ok : Bool) : Prop := (may L I ∧ b = I * 2 ^ L ∧ e = (I + 1) * 2 ^ L ∧ ok = true) ∨ (¬ may L I ∧ b = 0 ∧ e = 0 ∧ ok = false)
theorem spanIs_ex (L I : Nat) : ∃ b e ok, SpanIs L I b e ok ∧ b ≤ 9223372036854775808 ∧ e ≤ 9223372036854775808 := by
  by_cases h : may L I
  · have := h.2
    rw [p63] at this
    have h2 : I * 2 ^ L ≤ (I + 1) * 2 ^ L := Nat.mul_le_mul_right _ (by omega)
    exact ⟨_, _, _, .inl ⟨h, rfl, rfl, rfl⟩, by omega, this⟩
  · exact ⟨_, _, _, .inr ⟨h, rfl, rfl, rfl⟩, by omega, by omega⟩
theorem span_any {L I b e : Nat} {ok : Bool} (h : SpanIs L I b e ok) (hL : L ≤ 255) (hI : I < 18446744073709551616) (w : World) :
    Calls Tryd.prog 6 #[cd L I] w fun x w' => x = .returned (.tuple #[sp b e, .bool ok]) ∧ Nw w w' := by
  rcases h with ⟨h, rfl, rfl, rfl⟩ | ⟨h, rfl, rfl, rfl⟩
  · exact span_yes L I h w
  · exact span_no L I h hL hI w
end Go.Proofs.YtibkmcmgolbhhabDoor
