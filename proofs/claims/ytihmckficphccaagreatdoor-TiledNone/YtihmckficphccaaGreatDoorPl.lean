/- Plain facts on numbers, no program in sight: how many ones a number has by adding within its fields, how many ones stand at its end, how many bits it wants. -/
import Derived.Lib.BitFns
import Derived.Lib.TrailingZeros
namespace Go.Proofs.YtihmckficphccaaGreatDoor

/- ### how many ones at the end -/
def ones : Nat → Nat → Nat
  | 0, _ => 0
  | f + 1, x => if x % 2 = 1 then 1 + ones f (x / 2) else 0
theorem ones_le : ∀ (f x : Nat), ones f x ≤ f
  | 0, _ => Nat.le_refl _
  | f + 1, x => by
    have := ones_le f (x / 2)
    simp only [ones]
    split <;> omega
theorem ones_fuel : ∀ (f x : Nat), x < 2 ^ f → ones (f + 1) x = ones f x
  | 0, x, h => by
    have : x = 0 := by simpa using h
    subst this; rfl
  | f + 1, x, h => by
    have ih := ones_fuel f (x / 2) (by rw [Nat.pow_succ] at h; omega)
    show (if x % 2 = 1 then 1 + ones (f + 1) (x / 2) else 0) = (if x % 2 = 1 then 1 + ones f (x / 2) else 0)
    rw [ih]
theorem ones_step (x : Nat) (h : x < 18446744073709551616) (h1 : x % 2 = 1) : ones 64 x = 1 + ones 64 (x / 2) := by
  have := ones_fuel 63 (x / 2) (by omega)
  show (if x % 2 = 1 then 1 + ones 63 (x / 2) else 0) = _
  rw [if_pos h1, ← this]
theorem ones_stop (x : Nat) (h1 : ¬ x % 2 = 1) : ones 64 x = 0 := if_neg h1
theorem ctz_ones : ∀ (f x : Nat), x < 2 ^ f → Lib.ctz f (2 ^ f - 1 - x) = ones f x
  | 0, x, h => by
    have : x = 0 := by simpa using h
    subst this; rfl
  | f + 1, x, h => by
    have hp : 0 < 2 ^ f := Nat.two_pow_pos f
    have hs : 2 ^ (f + 1) = 2 * 2 ^ f := by rw [Nat.pow_succ, Nat.mul_comm]
    rw [hs] at h ⊢
    have ih := ctz_ones f (x / 2) (by omega)
    have e : (2 * 2 ^ f - 1 - x) / 2 = 2 ^ f - 1 - x / 2 := by omega
    by_cases h1 : x % 2 = 1
    · have r : ones (f + 1) x = 1 + ones f (x / 2) := if_pos h1
      rw [r, ← ih]
      unfold Lib.ctz
      by_cases hz : 2 * 2 ^ f - 1 - x = 0
      · have hz' : 2 ^ f - 1 - x / 2 = 0 := by omega
        rw [if_pos hz, if_pos hz']
        omega
      · have hz' : ¬ 2 ^ f - 1 - x / 2 = 0 := by omega
        rw [if_neg hz, if_neg hz', ← e]
        show (if (2 * 2 ^ f - 1 - x) % 2 = 1 then 0 else 1 + Lib.ctzFrom f ((2 * 2 ^ f - 1 - x) / 2)) = _
        rw [if_neg (by omega)]
    · have r : ones (f + 1) x = 0 := if_neg h1
      rw [r]
      unfold Lib.ctz
      rw [if_neg (by omega)]
      show (if (2 * 2 ^ f - 1 - x) % 2 = 1 then 0 else 1 + Lib.ctzFrom f ((2 * 2 ^ f - 1 - x) / 2)) = _
      rw [if_pos (by omega)]

/- ### the length -/
theorem bitLen_of (x k : Nat) (hk : k ≤ 63) (h1 : 2 ^ k ≤ x) (h2 : x < 2 * 2 ^ k) : Lib.bitLen x = k + 1 := by
  have h3 : 2 ^ k ≤ 2 ^ 63 := Nat.pow_le_pow_right (by decide) hk
  have h4 : (2 : Nat) ^ 63 = 9223372036854775808 := by decide
  have e : x / 2 ^ k = 1 := Nat.div_eq_of_lt_le (by omega) (by omega)
  rw [Lib.bitLen_shift k x h1 (by omega), e]
  rfl
theorem bitLen_zero : Lib.bitLen 0 = 0 := rfl
theorem top_of (x : Nat) (h0 : 0 < x) (h : x < 18446744073709551616) : ∃ k, k ≤ 63 ∧ 2 ^ k ≤ x ∧ x < 2 * 2 ^ k := by
  have step : ∀ f y, 0 < y → y < 2 ^ f → ∃ k, k < f ∧ 2 ^ k ≤ y ∧ y < 2 * 2 ^ k := by
    intro f
    induction f with
    | zero => intro y h0 h; simp at h; omega
    | succ f ih =>
      intro y h0 h
      by_cases hy : y < 2 ^ f
      · obtain ⟨k, hk, a, b⟩ := ih y h0 hy
        exact ⟨k, by omega, a, b⟩
      · exact ⟨f, by omega, by omega, by rw [Nat.pow_succ] at h; omega⟩
  obtain ⟨k, hk, a, b⟩ := step 64 x h0 h
  exact ⟨k, by omega, a, b⟩

theorem ones_spec : ∀ (f x : Nat), ones f x < f → x % 2 ^ ones f x = 2 ^ ones f x - 1 ∧ x / 2 ^ ones f x % 2 = 0
  | 0, x, h => by omega
  | f + 1, x, h => by
    by_cases h1 : x % 2 = 1
    · have e : ones (f + 1) x = 1 + ones f (x / 2) := if_pos h1
      rw [e] at h ⊢
      obtain ⟨a, b⟩ := ones_spec f (x / 2) (by omega)
      have p := Nat.two_pow_pos (ones f (x / 2))
      have e2 : 2 ^ (1 + ones f (x / 2)) = 2 * 2 ^ ones f (x / 2) := by rw [Nat.pow_add]
      rw [e2, ← Nat.div_div_eq_div_mul, Nat.mod_mul]
      exact ⟨by rw [a]; omega, b⟩
    · have e : ones (f + 1) x = 0 := if_neg h1
      rw [e]
      simp
      omega
theorem ones_all : ∀ (f x : Nat), x < 2 ^ f → ones f x = f → x = 2 ^ f - 1
  | 0, x, h, _ => by simp at h; simp [h]
  | f + 1, x, h, he => by
    by_cases h1 : x % 2 = 1
    · have e : ones (f + 1) x = 1 + ones f (x / 2) := if_pos h1
      rw [Nat.pow_succ] at h ⊢
      have := ones_all f (x / 2) (by omega) (by omega)
      have p := Nat.two_pow_pos f
      omega
    · have e : ones (f + 1) x = 0 := if_neg h1
      omega
end Go.Proofs.YtihmckficphccaaGreatDoor
