/- tile: where a tree's hashes stand (pure). -/
import Derived.Test.YtbkhdnceblgljaaGreatDoorUgx
namespace Go.Proofs.YtbkhdnceblgljaaGreatDoor
open Go.RowKit
set_option linter.unusedVariables false
set_option linter.unusedSimpArgs false
theorem pow_dvd256 (j : Nat) (h : j < 8) : 2 ^ j ∣ 256 := ⟨2 ^ (8 - j), by rw [← Nat.pow_add, show j + (8 - j) = 8 by omega]⟩
theorem at_facts {L I : Nat} (h : may L I) : (ofA L I % 256) % 2 ^ (L % 8) = 0 ∧ ofA L I % 256 + 2 ^ (L % 8) ≤ ofW L := by
  have hp := pow8 (L % 8) (by omega)
  have hd := pow_dvd256 (L % 8) (by omega)
  have h1 := ofA_lt h
  have hL := h.1
  have hz : (ofA L I % 256) % 2 ^ (L % 8) = 0 := by
    rw [Nat.mod_mod_of_dvd _ hd]; unfold ofA; exact Nat.mul_mod_left _ _
  refine ⟨hz, ?_⟩
  unfold ofW
  by_cases h7 : L / 8 = 7
  · rw [if_pos h7]
    rw [h7, show 63 - 8 * 7 = 7 from rfl, show (2 : Nat) ^ 7 = 128 from rfl] at h1
    omega
  · rw [if_neg h7]
    obtain ⟨q, hq⟩ := hd
    obtain ⟨r, hr⟩ : 2 ^ (L % 8) ∣ ofA L I % 256 := Nat.dvd_of_mod_eq_zero hz
    have hlt : ofA L I % 256 < 256 := Nat.mod_lt _ (by decide)
    rw [hr] at hlt ⊢
    have hrq : r < q := by
      rw [hq] at hlt
      exact Nat.lt_of_mul_lt_mul_left hlt
    have : 2 ^ (L % 8) * (r + 1) ≤ 2 ^ (L % 8) * q := Nat.mul_le_mul_left _ hrq
    rw [Nat.mul_add, Nat.mul_one, ← hq] at this
    exact this
theorem may8 {L I k : Nat} (h : may L I) (hk : k < 2 ^ (L % 8)) : may (8 * (L / 8)) (ofA L I + k) := by
  have h1 := ofA_lt h
  have hL := h.1
  rw [may_lt (by omega)]
  omega
theorem begins (L I : Nat) : ofA L I * 2 ^ (8 * (L / 8)) = I * 2 ^ L := by
  unfold ofA
  rw [Nat.mul_assoc, ← Nat.pow_add, show L % 8 + 8 * (L / 8) = L by omega]
theorem ends (L I : Nat) : (ofA L I + (2 ^ (L % 8) - 1) + 1) * 2 ^ (8 * (L / 8)) = (I + 1) * 2 ^ L := by
  have hp : 0 < 2 ^ (L % 8) := Nat.pow_pos (by decide)
  rw [show ofA L I + (2 ^ (L % 8) - 1) + 1 = ofA L I + 2 ^ (L % 8) by omega]
  unfold ofA
  rw [← Nat.succ_mul, Nat.mul_assoc, ← Nat.pow_add, show L % 8 + 8 * (L / 8) = L by omega]
theorem covers_wid {L I S : Nat} (h : may L I) (hS : S ≤ 9223372036854775808) (hE : (I + 1) * 2 ^ L ≤ S) : ofA L I % 256 + 2 ^ (L % 8) ≤ wid (L / 8) (ofA L I / 256) S ∧ wid (L / 8) (ofA L I / 256) S ≤ ofW L := by
  have hL := h.1
  have hf := at_facts h
  have hN : ofA L I + 2 ^ (L % 8) ≤ nod8 (L / 8) S := by
    unfold nod8
    rw [Nat.le_div_iff_mul_le (Nat.pow_pos (by decide)), ← ends L I] at *
    have hp : 0 < 2 ^ (L % 8) := Nat.pow_pos (by decide)
    rw [show ofA L I + (2 ^ (L % 8) - 1) + 1 = ofA L I + 2 ^ (L % 8) by omega] at hE
    exact hE
  have hM : nod8 (L / 8) S ≤ nod8 (L / 8) 9223372036854775808 := Nat.div_le_div_right hS
  have hw := of_wid h
  unfold wid at hw ⊢
  rw [if_neg (by omega)] at hw ⊢
  have hW : ofW L ≤ 256 := by unfold ofW; split <;> omega
  omega
end Go.Proofs.YtbkhdnceblgljaaGreatDoor
