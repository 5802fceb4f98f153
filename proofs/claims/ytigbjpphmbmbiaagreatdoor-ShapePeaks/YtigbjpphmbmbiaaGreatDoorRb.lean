/- What the document's Below and Log answer. -/
import Derived.Test.YtigbjpphmbmbiaaGreatDoorS1
namespace Go.Proofs.YtigbjpphmbmbiaaGreatDoor
open Go.RowKit
set_option linter.unusedVariables false
set_option linter.unusedSimpArgs false

theorem pow_pos' (k : Nat) : (1 : Int) ≤ 2 ^ k := by have := Nat.two_pow_pos k; have := pow_cast k; omega
theorem pow_63 {k : Nat} (h : k ≤ 63) : (2 : Int) ^ k ≤ 9223372036854775808 := by have := two_le h; have := pow_cast k; omega
theorem pow_le {j k : Nat} (h : j ≤ k) : (2 : Int) ^ j ≤ 2 ^ k := by have := pow_le2 h; have := pow_cast j; have := pow_cast k; omega
theorem two_pow (j : Nat) (h : j ≤ 63) : (1 : Int) ≤ 2 ^ j ∧ (2 : Int) ^ j ≤ 9223372036854775808 := ⟨pow_pos' j, pow_63 h⟩
theorem pow_up (j : Nat) : (2 : Int) ^ (j + 1) = 2 ^ j * 2 := Int.pow_succ 2 j

set_option maxHeartbeats 1000000 in
theorem rbelow_of (n : Int) (k : Nat) (w : World) (hk : k ≤ 63) (h1 : (2 : Int) ^ k < n) (h2 : n ≤ 2 * 2 ^ k) (hn : n ≤ 18446744073709551615) :
    Calls Tryz.prog 23 #[.int .u64 n] w fun e w' => e = .returned (.tuple #[.int .u64 (2 ^ k), .bool true]) ∧ w' = w := by
  have h3 := two_pow k hk
  have hn2 : 2 ≤ n := by omega
  go_enter Tryz.func23, Tryz.ntmps23
  go_wp2
  go_loop [4] (fun p => ∃ j : Nat, j ≤ k ∧ p = .int .u64 (2 ^ j)) (fun p => (9223372036854775808 - intOf p).toNat)
  case atStart => exact ⟨0, Nat.zero_le _, rfl⟩
  case round =>
    obtain ⟨j, hj, rfl⟩ := hrel
    have hb := two_pow j (by omega)
    by_cases hlt : j < k
    · have hu := pow_up j
      have hle : (2 : Int) ^ (j + 1) ≤ 2 ^ k := pow_le (by omega)
      have c1 : (2 : Int) ^ j < 9223372036854775808 := by omega
      have c2 : (2 : Int) ^ j * 2 < n := by omega
      have HU : Hid ((2 : Int) ^ (j + 1) = 2 ^ j * 2) := hu
      clear hu hle
      go_wp2
      go_round
      case rel => exact ⟨j + 1, by omega, by rw [HU.out]⟩
      case measure => simp [intOf]; omega
    · obtain rfl : j = k := by omega
      by_cases hk63 : j = 63
      · subst hk63
        go_wp2
        go_ret2
        exact ⟨rfl, rfl⟩
      · have hle : (2 : Int) ^ (j + 1) ≤ 9223372036854775808 := pow_63 (by omega)
        have hu := pow_up j
        have c1 : (2 : Int) ^ j < 9223372036854775808 := by omega
        have c2 : ¬ (2 : Int) ^ j * 2 < n := by omega
        clear hu hle
        go_wp2
        go_ret2
        exact ⟨rfl, rfl⟩
theorem rbelow_no (n : Int) (w : World) (h0 : 0 ≤ n) (h1 : n < 2) :
    Calls Tryz.prog 23 #[.int .u64 n] w fun e w' => e = .returned (.tuple #[.int .u64 0, .bool false]) ∧ w' = w := by
  go_enter Tryz.func23, Tryz.ntmps23
  go_wp2
  go_ret2
  exact ⟨rfl, rfl⟩
set_option maxHeartbeats 1000000 in
theorem rlog_of (n : Int) (k : Nat) (w : World) (hk : k ≤ 63) (h1 : (2 : Int) ^ k < n) (h2 : n ≤ 2 * 2 ^ k) (hn : n ≤ 18446744073709551615) :
    Calls Tryz.prog 35 #[.int .u64 n] w fun e w' => e = .returned (.tuple #[.int .i64 (k + 1), .bool true]) ∧ w' = w := by
  have h3 := two_pow k hk
  have hz : (n == 0) = false := by simp; omega
  go_enter Tryz.func35, Tryz.ntmps35
  go_wp2
  go_loop [4, 5] (fun e p => ∃ j : Nat, j ≤ k + 1 ∧ j ≤ 63 ∧ p = .int .u64 (2 ^ j) ∧ e = .int .i64 j) (fun _ p => (9223372036854775808 - intOf p).toNat)
  case atStart => exact ⟨0, Nat.zero_le _, by omega, rfl, rfl⟩
  case round =>
    obtain ⟨j, hj, hj63, rfl, rfl⟩ := hrel
    have hb := two_pow j hj63
    by_cases hlt : j ≤ k
    · have hle : (2 : Int) ^ j ≤ 2 ^ k := pow_le hlt
      have c1 : (2 : Int) ^ j < n := by omega
      clear hle
      by_cases hk63 : j = 63
      · obtain rfl : k = 63 := by omega
        subst hk63
        go_wp2
        go_ret2
        exact ⟨rfl, rfl⟩
      · have hle : (2 : Int) ^ (j + 1) ≤ 9223372036854775808 := pow_63 (by omega)
        have hu := pow_up j
        have c2 : ((2 : Int) ^ j == 9223372036854775808) = false := by simp; omega
        have c3 : (2 : Int) ^ j * 2 ≤ 9223372036854775808 := by omega
        have HU : Hid ((2 : Int) ^ (j + 1) = 2 ^ j * 2) := hu
        clear hu hle
        go_wp2
        go_round
        case rel => exact ⟨j + 1, by omega, by omega, by rw [HU.out], by go_num⟩
        case measure => simp [intOf]; omega
    · obtain rfl : j = k + 1 := by omega
      have hu := pow_up k
      have c1 : ¬ (2 : Int) ^ (k + 1) < n := by omega
      clear hu
      go_wp2
      go_ret2
      exact ⟨by simp, rfl⟩
theorem rlog_one (w : World) :
    Calls Tryz.prog 35 #[.int .u64 1] w fun e w' => e = .returned (.tuple #[.int .i64 0, .bool true]) ∧ w' = w := by
  go_enter Tryz.func35, Tryz.ntmps35
  go_wp2
  go_loop [4, 5] (fun e p => p = .int .u64 1 ∧ e = .int .i64 0) (fun _ _ => 0)
  case atStart => exact ⟨rfl, rfl⟩
  case round =>
    obtain ⟨rfl, rfl⟩ := hrel
    go_wp2
    go_ret2
    exact ⟨rfl, rfl⟩

set_option maxHeartbeats 1000000 in
theorem rsplit_yes (n : Nat) (h1 : 2 ≤ n) (h2 : n ≤ 9223372036854775808) (w : World) :
    Calls Tryz.prog 8 #[.int .u64 (n : Int)] w fun x w' => x = .returned (.tuple #[.int .u64 (spl n : Int), .bool true]) ∧ w' = w := by
  obtain ⟨k, e, k1, k2⟩ := spl_ex h1
  have hk : k < 63 := pow_lt_inv (by rw [p63]; omega)
  have q := rbelow_of (n : Int) k w (by omega) (by have := pow_cast k; omega) (by have := pow_cast k; omega) (by omega)
  rw [e, pow_cast]
  clear e k1 k2
  go_enter Tryz.func8, Tryz.ntmps8
  go_wp2_with fail
  refine q.mono ?_
  rintro x w' ⟨rfl, rfl⟩
  go_wp2_with fail
  go_ret2
  exact ⟨rfl, rfl⟩
theorem rsplit_no (n : Nat) (h1 : ¬ (2 ≤ n ∧ n ≤ 9223372036854775808)) (h2 : n < 18446744073709551616) (w : World) :
    Calls Tryz.prog 8 #[.int .u64 (n : Int)] w fun x w' => x = .returned (.tuple #[.int .u64 0, .bool false]) ∧ w' = w := by
  by_cases h : n < 2
  · have q := rbelow_no (n : Int) w (by omega) (by omega)
    have hn : ¬ (9223372036854775808 : Int) < (n : Int) := by omega
    clear h1
    go_enter Tryz.func8, Tryz.ntmps8
    go_wp2_with fail
    refine q.mono ?_
    rintro x w' ⟨rfl, rfl⟩
    go_wp2_with fail
    go_ret2
    exact ⟨rfl, rfl⟩
  · have hn : (9223372036854775808 : Int) < (n : Int) := by omega
    clear h1
    go_enter Tryz.func8, Tryz.ntmps8
    go_wp2_with fail
    go_ret2
    exact ⟨rfl, rfl⟩
end Go.Proofs.YtigbjpphmbmbiaaGreatDoor
