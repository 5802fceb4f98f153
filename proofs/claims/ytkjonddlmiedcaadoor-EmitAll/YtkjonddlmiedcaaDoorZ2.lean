/- Ones at a number's end, ones in all, and the next number. -/
import Derived.Test.YtkjonddlmiedcaaDoorY10
import Derived.Test.YtkjonddlmiedcaaDoorPo
namespace Go.Proofs.YtkjonddlmiedcaaDoor
open Go.RowKit Go.Shelf
set_option linter.unusedVariables false
set_option linter.unusedSimpArgs false
theorem ctzFrom_succ : ∀ (f x : Nat), Lib.ctzFrom f (x + 1) = ones f x
  | 0, x => rfl
  | f + 1, x => by
    unfold Lib.ctzFrom ones
    by_cases h : x % 2 = 1
    · rw [if_neg (by omega), if_pos h, show (x + 1) / 2 = x / 2 + 1 by omega, ctzFrom_succ f]
    · rw [if_pos (by omega), if_neg h]
theorem ctz_succ (n : Nat) : Lib.ctz 64 (n + 1) = ones 64 n := by
  unfold Lib.ctz
  rw [if_neg (by omega), ctzFrom_succ]
theorem ones_pop : ∀ (f x : Nat), ones f x ≤ Lib.popAux f x
  | 0, x => Nat.le_refl _
  | f + 1, x => by
    have ih := ones_pop f (x / 2)
    unfold ones Lib.popAux
    by_cases h : x % 2 = 1
    · rw [if_pos h]; omega
    · rw [if_neg h]; omega
theorem pop_next : ∀ (f x : Nat), x + 1 < 2 ^ f → Lib.popAux f (x + 1) + ones f x = Lib.popAux f x + 1
  | 0, x, h => by simp at h
  | f + 1, x, h => by
    unfold ones
    simp only [Lib.popAux]
    by_cases hx : x % 2 = 1
    · have ih := pop_next f (x / 2) (by rw [Nat.pow_succ] at h; omega)
      rw [if_pos hx, show (x + 1) / 2 = x / 2 + 1 by omega]
      omega
    · rw [if_neg hx, show (x + 1) / 2 = x / 2 by omega]
      omega
theorem ones_63 (n : Nat) (h : n < 9223372036854775808) : ones 64 n ≤ 63 := by
  rw [ones_fuel 63 n (by omega)]; exact ones_le 63 n
theorem ones_may (n : Nat) (h : n < 9223372036854775808) : ∀ i, i < ones 64 n → may i (n / 2 ^ i) ∧ i < 63 := by
  intro i hi
  have h63 := ones_63 n h
  refine ⟨(may_lt (by omega)).2 ?_, by omega⟩
  apply Nat.div_lt_of_lt_mul
  rw [← Nat.pow_add, show i + (63 - i) = 63 by omega]
  exact h
end Go.Proofs.YtkjonddlmiedcaaDoor
