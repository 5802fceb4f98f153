/- What the document answers: Children, Of. -/
import Derived.Test.YtibkmcmgolbhhabDoorD2
import Derived.BigRegion
namespace Go.Proofs.YtibkmcmgolbhhabDoor
open Go.RowKit
set_option linter.unusedVariables false
set_option linter.unusedSimpArgs false

/-- Children's answer, whatever the tree. -/
def ChiIs (L I a b c d : Nat) (ok : Bool) : Prop := ((0 < L ∧ may L I) ∧ a = L - 1 ∧ b = 2 * I ∧ c = L - 1 ∧ d = 2 * I + 1 ∧ ok = true) ∨ (¬ (0 < L ∧ may L I) ∧ a = 0 ∧ b = 0 ∧ c = 0 ∧ d = 0 ∧ ok = false)
theorem may_half {L I : Nat} (h : may L I) (h0 : 0 < L) : I < 4611686018427387904 := by
  have h1 := h.2
  have h2 : 2 ^ 1 ≤ 2 ^ L := pow_le2 h0
  have h3 : (I + 1) * 2 ^ 1 ≤ (I + 1) * 2 ^ L := Nat.mul_le_mul_left _ h2
  rw [p63] at h1
  omega
theorem chiIs_ex (L I : Nat) (hL : L ≤ 255) : ∃ a b c d ok, ChiIs L I a b c d ok ∧ a ≤ 255 ∧ b < 18446744073709551616 ∧ c ≤ 255 ∧ d < 18446744073709551616 := by
  by_cases h : 0 < L ∧ may L I
  · have := may_half h.2 h.1
    exact ⟨_, _, _, _, _, .inl ⟨h, rfl, rfl, rfl, rfl, rfl⟩, by omega, by omega, by omega, by omega⟩
  · exact ⟨_, _, _, _, _, .inr ⟨h, rfl, rfl, rfl, rfl, rfl⟩, by omega, by omega, by omega, by omega⟩
theorem children_any {L I a b c d : Nat} {ok : Bool} (h : ChiIs L I a b c d ok) (hL : L ≤ 255) (hI : I < 18446744073709551616) (w : World) :
    Calls Tryd.prog 8 #[cd L I] w fun x w' => x = .returned (.tuple #[cd a b, cd c d, .bool ok]) ∧ Nw w w' := by
  rcases h with ⟨h, rfl, rfl, rfl, rfl, rfl⟩ | ⟨h, rfl, rfl, rfl, rfl, rfl⟩
  · exact children_yes L I h.2 h.1 w
  · exact children_no L I h hL hI w
/-- Of's answer, whatever the stretch. -/
def OfIs (b e L I : Nat) (ok : Bool) : Prop := (may L I ∧ b = I * 2 ^ L ∧ e = (I + 1) * 2 ^ L ∧ ok = true) ∨ ((∀ L I, may L I → ¬ (b = I * 2 ^ L ∧ e = (I + 1) * 2 ^ L)) ∧ L = 0 ∧ I = 0 ∧ ok = false)
theorem ofIs_ex (b e : Nat) : ∃ L I ok, OfIs b e L I ok ∧ L ≤ 255 ∧ I < 18446744073709551616 := by
  by_cases h : ∃ L I, may L I ∧ b = I * 2 ^ L ∧ e = (I + 1) * 2 ^ L
  · obtain ⟨L, I, h, h1, h2⟩ := h
    have := h.1
    have hb := may_bd h
    rw [p63] at hb
    exact ⟨L, I, true, .inl ⟨h, h1, h2, rfl⟩, by omega, by omega⟩
  · exact ⟨0, 0, false, .inr ⟨fun L I k k2 => h ⟨L, I, k, k2⟩, rfl, rfl, rfl⟩, by omega, by omega⟩
theorem of_any {b e L I : Nat} {ok : Bool} (h : OfIs b e L I ok) (hb : b < 18446744073709551616) (he : e < 18446744073709551616) (w : World) (hT : TabAt w) :
    Calls Tryd.prog 12 #[sp b e] w fun x w' => x = .returned (.tuple #[cd L I, .bool ok]) ∧ Nw w w' := by
  rcases h with ⟨h, rfl, rfl, rfl⟩ | ⟨h, rfl, rfl, rfl⟩
  · exact of_yes L I h w hT
  · exact of_no b e h hb he w hT
end Go.Proofs.YtibkmcmgolbhhabDoor
