/- What the document answers: Has, Common. -/
import Derived.Test.YtibkmcmgolbhhabDoorD1
import Derived.Test.YtibkmcmgolbhhabDoorC5
namespace Go.Proofs.YtibkmcmgolbhhabDoor
open Go.RowKit
set_option linter.unusedVariables false
set_option linter.unusedSimpArgs false

theorem level_div {La Ia k : Nat} (h : La ≤ k) : Ia * 2 ^ La / 2 ^ k = Ia / 2 ^ (k - La) := by
  rw [two_pow_split h, ← Nat.div_div_eq_div_mul, Nat.mul_div_cancel _ (Nat.two_pow_pos La)]
theorem level_may {La Ia k : Nat} (h : may La Ia) (hk : k ≤ 63) : may k (Ia * 2 ^ La / 2 ^ k) := by
  refine (may_lt hk).2 ?_
  rw [Nat.div_lt_iff_lt_mul (Nat.two_pow_pos k), ← Nat.pow_add]
  have h2 : 63 - k + k = 63 := by omega
  rw [h2]
  have h3 : Ia * 2 ^ La < (Ia + 1) * 2 ^ La := by rw [Nat.add_mul, Nat.one_mul]; have := Nat.two_pow_pos La; omega
  exact Nat.lt_of_lt_of_le h3 h.2

/-- Common's answer, whatever the trees. -/
def ComIs (La Ia Lb Ib p q : Nat) (ok : Bool) : Prop := (may La Ia ∧ may Lb Ib ∧ IsC La Ia Lb Ib p ∧ q = Ia / 2 ^ (p - La) ∧ ok = true) ∨ (¬ (may La Ia ∧ may Lb Ib) ∧ p = 0 ∧ q = 0 ∧ ok = false)
theorem comIs_ex (La Ia Lb Ib : Nat) : ∃ p q ok, ComIs La Ia Lb Ib p q ok ∧ p ≤ 255 ∧ q < 18446744073709551616 := by
  by_cases h : may La Ia ∧ may Lb Ib
  · obtain ⟨m, hm, hC⟩ := isC_ex h.1 h.2
    have hb := may_bd h.1
    rw [p63] at hb
    have := Nat.div_le_self Ia (2 ^ (m - La))
    exact ⟨m, _, true, .inl ⟨h.1, h.2, hC, rfl, rfl⟩, by omega, by omega⟩
  · exact ⟨0, 0, false, .inr ⟨h, rfl, rfl, rfl⟩, by omega, by omega⟩
theorem common_any {La Ia Lb Ib p q : Nat} {ok : Bool} (h : ComIs La Ia Lb Ib p q ok) (hLa : La ≤ 255) (hIa : Ia < 18446744073709551616) (hLb : Lb ≤ 255) (hIb : Ib < 18446744073709551616) (w : World) :
    Calls Tryd.prog 5 #[cd La Ia, cd Lb Ib] w fun x w' => x = .returned (.tuple #[cd p q, .bool ok]) ∧ Nw w w' := by
  rcases h with ⟨h1, h2, h3, rfl, rfl⟩ | ⟨h, rfl, rfl, rfl⟩
  · exact common_yes La Ia Lb Ib p h1 h2 h3 w
  · exact common_no La Ia Lb Ib h hLa hIa hLb hIb w
end Go.Proofs.YtibkmcmgolbhhabDoor
