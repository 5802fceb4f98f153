/- The greatest tree at a stretch's beginning; Of. -/
import Derived.Test.YthkkjpefealdgaaDoorC3
namespace Go.Proofs.YthkkjpefealdgaaDoor
open Go.RowKit
set_option linter.unusedVariables false
set_option linter.unusedSimpArgs false

theorem ones_pow : ∀ (f a : Nat), a < 2 ^ f → ∀ k, k ≤ ones f (2 ^ f - 1 - a) ↔ k ≤ f ∧ 2 ^ k ∣ a
  | 0, a, h, k => by
    have : a = 0 := by simpa using h
    subst this
    simp [ones]
  | f + 1, a, h, k => by
    have hs : 2 ^ (f + 1) = 2 * 2 ^ f := Nat.pow_succ'
    have hp := Nat.two_pow_pos f
    rw [hs] at h ⊢
    have ih := ones_pow f (a / 2) (by omega)
    have e : (2 * 2 ^ f - 1 - a) / 2 = 2 ^ f - 1 - a / 2 := by omega
    cases k with
    | zero => simp
    | succ k =>
      by_cases h1 : a % 2 = 0
      · have r : ones (f + 1) (2 * 2 ^ f - 1 - a) = 1 + ones f ((2 * 2 ^ f - 1 - a) / 2) := if_pos (by omega)
        rw [r, e]
        have := ih k
        have hd : 2 ^ (k + 1) ∣ a ↔ 2 ^ k ∣ a / 2 := by
          have ha : a = 2 * (a / 2) := by omega
          rw [Nat.pow_succ', ha, Nat.mul_div_cancel_left _ (by decide : 0 < 2)]
          exact Nat.mul_dvd_mul_iff_left (by decide)
        rw [hd]
        omega
      · have r : ones (f + 1) (2 * 2 ^ f - 1 - a) = 0 := if_neg (by omega)
        rw [r]
        constructor
        · intro hk; omega
        · rintro ⟨_, hk⟩
          exfalso
          have : 2 ^ 1 ∣ a := Nat.dvd_trans (Nat.pow_dvd_pow 2 (by omega)) hk
          omega
/-- The level, as the program reckons it. -/
theorem isW_min (b e k : Nat) (hb : b < e) (he : e ≤ 9223372036854775808) (h1 : 2 ^ k ≤ e - b) (h2 : e - b < 2 * 2 ^ k) : IsW b e (min (ones 64 (18446744073709551615 - b)) k) := by
  have hones := ones_pow 64 b (by have : (2 : Nat) ^ 64 = 18446744073709551616 := by decide
                                  omega)
  have e64 : 2 ^ 64 - 1 - b = 18446744073709551615 - b := rfl
  rw [e64] at hones
  have hk63 : k ≤ 63 := pow_le_inv (by rw [p63]; omega)
  have hs2 : 2 ^ (k + 1) = 2 * 2 ^ k := Nat.pow_succ'
  obtain ⟨o, ho⟩ : ∃ o, o = ones 64 (18446744073709551615 - b) := ⟨_, rfl⟩
  rw [← ho] at hones ⊢
  refine ⟨⟨((hones _).1 (Nat.min_le_left _ _)).2, ?_⟩, ?_⟩
  · have := pow_le2 (Nat.min_le_right o k)
    omega
  · rintro ⟨d1, d2⟩
    rcases Nat.le_total o k with h | h
    · rw [Nat.min_eq_left h] at d1 d2
      have := (hones (o + 1)).2 ⟨by omega, d1⟩
      omega
    · rw [Nat.min_eq_right h] at d2
      omega

theorem isW_tree {L I : Nat} : IsW (I * 2 ^ L) ((I + 1) * 2 ^ L) L := by
  have e : (I + 1) * 2 ^ L = I * 2 ^ L + 2 ^ L := by rw [Nat.add_mul, Nat.one_mul]
  rw [e]
  have hp := Nat.two_pow_pos L
  refine ⟨⟨⟨I, Nat.mul_comm _ _⟩, Nat.le_refl _⟩, fun h => ?_⟩
  have := h.2
  have : 2 ^ (L + 1) = 2 * 2 ^ L := Nat.pow_succ'
  omega
theorem sp_ne {a b c d : Int} (h : ¬ (a = c ∧ b = d)) : (a == c && b == d) = false := by
  rw [Bool.and_eq_false_iff]
  simp only [beq_eq_false_iff_ne, ne_eq]
  omega

end Go.Proofs.YthkkjpefealdgaaDoor
