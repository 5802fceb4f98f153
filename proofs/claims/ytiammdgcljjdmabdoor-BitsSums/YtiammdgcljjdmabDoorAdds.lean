/- What Add and Left of the kind uint32, and Add of uint64, answer at every number. -/
import Derived.Test.YtiammdgcljjdmabDoorLib
import Derived.WalkKit
import Derived.WalkSpells
import Derived.WalkLawsBesides
namespace Go.Proofs.YtiammdgcljjdmabDoor
open Go.RowKit
set_option linter.unusedVariables false

theorem pow_le {a b : Nat} (h : a ≤ b) : (2 : Int) ^ a ≤ 2 ^ b := by
  have := Nat.pow_le_pow_right (n := 2) (by decide) h
  exact_mod_cast this
theorem pow_pos' (a : Nat) : (1 : Int) ≤ 2 ^ a := by
  have := pow_le (Nat.zero_le a); simpa using this
def addV (m a b : Int) : Int := if a + b ≤ m then a + b else 0
def addOk (m a b : Int) : Bool := decide (a + b ≤ m)
theorem addV_pos {m a b : Int} (h : a + b ≤ m) : addV m a b = a + b := by simp [addV, h]
theorem addV_neg {m a b : Int} (h : ¬ a + b ≤ m) : addV m a b = 0 := by simp [addV, h]
theorem addOk_pos {m a b : Int} (h : a + b ≤ m) : addOk m a b = true := by simp [addOk, h]
theorem addOk_neg {m a b : Int} (h : ¬ a + b ≤ m) : addOk m a b = false := by simp [addOk, h]
theorem addV_bd {m a b : Int} (ha : 0 ≤ a) (hb : 0 ≤ b) (hm : 0 ≤ m) : 0 ≤ addV m a b ∧ addV m a b ≤ m := by
  unfold addV; split <;> omega

theorem ret_two {k : IntKind} {a b : Int} {ok : Bool} (h : a = b) : Ending.returned (.tuple #[.int k a, .bool ok]) = .returned (.tuple #[.int k b, .bool ok]) := by rw [h]
def leftOk (m x n : Int) : Bool := decide (0 ≤ n ∧ x * 2 ^ n.toNat ≤ m)
def leftV (m x n : Int) : Int := if 0 ≤ n ∧ x * 2 ^ n.toNat ≤ m then x * 2 ^ n.toNat else 0
theorem leftV_pos {m x n : Int} (h : 0 ≤ n) (h' : x * 2 ^ n.toNat ≤ m) : leftV m x n = x * 2 ^ n.toNat := if_pos ⟨h, h'⟩
theorem leftV_neg {m x n : Int} (h : ¬ (0 ≤ n ∧ x * 2 ^ n.toNat ≤ m)) : leftV m x n = 0 := if_neg h
theorem leftOk_pos {m x n : Int} (h : 0 ≤ n) (h' : x * 2 ^ n.toNat ≤ m) : leftOk m x n = true := decide_eq_true ⟨h, h'⟩
theorem leftOk_neg {m x n : Int} (h : ¬ (0 ≤ n ∧ x * 2 ^ n.toNat ≤ m)) : leftOk m x n = false := decide_eq_false h
theorem leftV_bd {m x n : Int} (hx : 0 ≤ x) (hm : 0 ≤ m) : 0 ≤ leftV m x n ∧ leftV m x n ≤ m := by
  unfold leftV; split
  · rename_i h; exact ⟨Int.mul_nonneg hx (by have := pow_pos' n.toNat; omega), h.2⟩
  · omega

theorem left_min {x : Int} (hx : 0 ≤ x) (n b : Nat) : x * 2 ^ n < 2 ^ b ↔ x * 2 ^ min n b < 2 ^ b := by
  by_cases h : n ≤ b
  · rw [Nat.min_eq_left h]
  · rw [Nat.min_eq_right (by omega)]
    have p := pow_pos' b
    have q := pow_le (show b ≤ n by omega)
    have zero : ∀ c : Int, 2 ^ b ≤ c → x * c < 2 ^ b → x = 0 := by
      intro c hc hl
      refine Classical.byContradiction fun hne => ?_
      have : 1 * c ≤ x * c := Int.mul_le_mul_of_nonneg_right (by omega) (by omega)
      omega
    constructor
    · intro hl; rw [zero _ q hl]; simp; omega
    · intro hl; rw [zero _ (Int.le_refl _) hl]; simp; omega
theorem left_val {x : Int} (hx : 0 ≤ x) (n b : Nat) (h : x * 2 ^ n < 2 ^ b) : x * 2 ^ min n b = x * 2 ^ n := by
  by_cases hn : n ≤ b
  · rw [Nat.min_eq_left hn]
  · have p := pow_pos' b
    have q := pow_le (show b ≤ n by omega)
    have : x = 0 := by
      refine Classical.byContradiction fun hne => ?_
      have : 1 * 2 ^ n ≤ x * 2 ^ n := Int.mul_le_mul_of_nonneg_right (by omega) (by omega)
      omega
    rw [this]; simp
theorem left_mod {x : Int} (hx : 0 ≤ x) (n b : Nat) (h : x * 2 ^ n < 2 ^ b) : x * 2 ^ min n b % 2 ^ b = x * 2 ^ n := by
  rw [left_val hx n b h]
  exact Int.emod_eq_of_lt (Int.mul_nonneg hx (by have := pow_pos' n; omega)) h
theorem left_div {x : Int} (hx : 0 ≤ x) (n b : Nat) (h : x * 2 ^ n < 2 ^ b) : x * 2 ^ n / 2 ^ min n b = x := by
  rw [← left_val hx n b h]
  exact Int.mul_ediv_cancel _ (by have := pow_pos' (min n b); omega)
theorem left_bad {x : Int} (hx : 0 ≤ x) (n b : Nat) (h : ¬ x * 2 ^ n < 2 ^ b) : (x * 2 ^ min n b % 2 ^ b / 2 ^ min n b != x) = true := by
  rw [left_min hx] at h
  have p := pow_pos' (min n b)
  have q := pow_pos' b
  simp only [bne_iff_ne, ne_eq]
  intro e
  have h1 : x * 2 ^ min n b % 2 ^ b < 2 ^ b := Int.emod_lt_of_pos _ (by omega)
  have h2 : x * 2 ^ min n b % 2 ^ b / 2 ^ min n b * 2 ^ min n b ≤ x * 2 ^ min n b % 2 ^ b := Int.ediv_mul_le _ (by omega)
  rw [e] at h2
  omega

theorem grow_le {x : Int} (hx : 0 ≤ x) {k n : Nat} (h : k ≤ n) : x * 2 ^ k ≤ x * 2 ^ n :=
  Int.mul_le_mul_of_nonneg_left (pow_le h) hx

set_option maxHeartbeats 400000 in
theorem add32 (a b : Int) (w : World) (a0 : 0 ≤ a) (a1 : a ≤ 4294967295) (b0 : 0 ≤ b) (b1 : b ≤ 4294967295) :
    Calls Tryd.prog 5 #[.int .u32 a, .int .u32 b] w fun e w' => e = .returned (.tuple #[.int .u32 (addV 4294967295 a b), .bool (addOk 4294967295 a b)]) ∧ w' = w := by
  by_cases h : a + b ≤ 4294967295
  · rw [addV_pos h, addOk_pos h]
    go_enter Tryd.func5, Tryd.ntmps5
    go_wp2
    go_ret2
    exact ⟨rfl, rfl⟩
  · rw [addV_neg h, addOk_neg h]
    go_enter Tryd.func5, Tryd.ntmps5
    go_wp2
    go_ret2
    exact ⟨rfl, rfl⟩

set_option maxHeartbeats 400000 in
theorem add64 (a b : Int) (w : World) (a0 : 0 ≤ a) (a1 : a ≤ 18446744073709551615) (b0 : 0 ≤ b) (b1 : b ≤ 18446744073709551615) :
    Calls Tryd.prog 6 #[.int .u64 a, .int .u64 b] w fun e w' => e = .returned (.tuple #[.int .u64 (addV 18446744073709551615 a b), .bool (addOk 18446744073709551615 a b)]) ∧ w' = w := by
  by_cases h : a + b ≤ 18446744073709551615
  · rw [addV_pos h, addOk_pos h]
    go_enter Tryd.func6, Tryd.ntmps6
    go_wp2
    go_ret2
    exact ⟨rfl, rfl⟩
  · rw [addV_neg h, addOk_neg h]
    have hw : IntKind.u64.wrap (a + b) < a := by rw [w64]; omega
    go_enter Tryd.func6, Tryd.ntmps6
    go_wp2
    go_ret2
    exact ⟨rfl, rfl⟩

set_option maxHeartbeats 400000 in
theorem left32 (x n : Int) (w : World) (x0 : 0 ≤ x) (x1 : x ≤ 4294967295) (n1 : n ≤ 9223372036854775807) :
    Calls Tryd.prog 8 #[.int .u32 x, .int .i64 n] w fun e w' => e = .returned (.tuple #[.int .u32 (leftV 4294967295 x n), .bool (leftOk 4294967295 x n)]) ∧ w' = w := by
  by_cases n0 : 0 ≤ n
  · by_cases h : x * 2 ^ n.toNat ≤ 4294967295
    · rw [leftV_pos n0 h, leftOk_pos n0 h]
      have h' : x * 2 ^ n.toNat < 2 ^ 32 := by
        show x * 2 ^ n.toNat < 4294967296
        omega
      have hm : x * 2 ^ min n.toNat 32 % 4294967296 = x * 2 ^ n.toNat := by exact left_mod x0 _ _ h'
      have hd := left_div x0 _ 32 h'
      clear h h'
      go_enter Tryd.func8, Tryd.ntmps8
      go_wp2
      go_ret2
      exact ⟨ret_two hm, rfl⟩
    · rw [leftV_neg (by omega), leftOk_neg (by omega)]
      have h' : ¬ x * 2 ^ n.toNat < 2 ^ 32 := by
        show ¬ x * 2 ^ n.toNat < 4294967296
        omega
      have hb : (x * 2 ^ min n.toNat 32 % 4294967296 / 2 ^ min n.toNat 32 != x) = true := by exact left_bad x0 _ _ h'
      clear h h'
      go_enter Tryd.func8, Tryd.ntmps8
      go_wp2
      go_ret2
      exact ⟨rfl, rfl⟩
  · rw [leftV_neg (by omega), leftOk_neg (by omega)]
    go_enter Tryd.func8, Tryd.ntmps8
    go_wp2
    go_ret2
    exact ⟨rfl, rfl⟩

end Go.Proofs.YtiammdgcljjdmabDoor
