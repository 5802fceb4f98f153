/- What math/bits answers at every number (how many bits, how many ones, how many noughts at the end), and what the program's Below and Log make of it. -/
import Derived.Test.YtiammdgcljjdmaaProg
import Derived.Test.YtiammdgcljjdmaaPlain
import Derived.Test.YtiammdgcljjdmaaLen
import Derived.WalkKit
import Derived.WalkSpells
import Derived.WalkLawsBesides
import Derived.Laws.Bits64b
namespace Go.Proofs.Ytiammdgcljjdmaa
open Go.RowKit
set_option linter.unusedVariables false

theorem w64 (n : Int) : IntKind.u64.wrap n = n % 18446744073709551616 := by simp [IntKind.wrap, IntKind.bits, IntKind.signed]
theorem ret_i {k : IntKind} {a b : Int} (h : a = b) : Ending.returned (.int k a) = .returned (.int k b) := by rw [h]

theorem pow_cast (k : Nat) : ((2 ^ k : Nat) : Int) = 2 ^ k := by norm_cast
theorem len64_of (x : Int) (k : Nat) (w : World) (hk : k ≤ 63) (h1 : (2 : Int) ^ k ≤ x) (h2 : x < 2 * 2 ^ k) :
    Calls Try.prog 53 #[.int .u64 x] w fun e w' => e = .returned (.int .i64 (k + 1)) ∧ w' = w := by
  have h3 : (2 : Nat) ^ k ≤ 2 ^ 63 := Nat.pow_le_pow_right (by decide) hk
  have h4 : (2 : Nat) ^ 63 = 9223372036854775808 := by decide
  have h5 := Nat.two_pow_pos k
  rw [← pow_cast] at h1 h2
  have b := bitLen_of x.toNat k hk (by omega) (by omega)
  have c := len64_any x w (by omega) (by omega)
  rw [b] at c
  exact_mod_cast c
theorem len64_zero (w : World) : Calls Try.prog 53 #[.int .u64 0] w fun e w' => e = .returned (.int .i64 0) ∧ w' = w :=
  len64_any 0 w (by omega) (by omega)

set_option maxHeartbeats 400000 in
theorem highest_of (x : Int) (k : Nat) (w : World) (hk : k ≤ 63) (h1 : (2 : Int) ^ k ≤ x) (h2 : x < 2 * 2 ^ k) :
    Calls Try.prog 52 #[.int .u64 x] w fun e w' => e = .returned (.int .u64 (2 ^ k)) ∧ w' = w := by
  have h3 : (2 : Nat) ^ k ≤ 2 ^ 63 := Nat.pow_le_pow_right (by decide) hk
  have h4 : (2 : Nat) ^ 63 = 9223372036854775808 := by decide
  have hm : min k 64 = k := by omega
  have hw : IntKind.u64.wrap (2 ^ k) = 2 ^ k := by
    have h6 := pow_cast k
    rw [w64, ← h6]; omega
  go_enter Try.func52, Try.ntmps52
  go_wp2_with (go_at_call 53; refine (len64_of _ k _ hk h1 h2).mono ?_; rintro e w' ⟨rfl, rfl⟩)
  go_ret
  first
    | exact ⟨rfl, rfl⟩
    | (refine ⟨ret_i ?_, rfl⟩; simp [hm, hw])

set_option maxHeartbeats 400000 in
theorem below_of (n : Int) (k : Nat) (w : World) (hk : k ≤ 63) (h1 : (2 : Int) ^ k < n) (h2 : n ≤ 2 * 2 ^ k) :
    Calls Try.prog 7 #[.int .u64 n] w fun e w' => e = .returned (.tuple #[.int .u64 (2 ^ k), .bool true]) ∧ w' = w := by
  have h3 : (2 : Nat) ^ k ≤ 2 ^ 63 := Nat.pow_le_pow_right (by decide) hk
  have h4 : (2 : Nat) ^ 63 = 9223372036854775808 := by decide
  have h5 := Nat.two_pow_pos k
  have h6 := pow_cast k
  have hn : 2 ≤ n := by omega
  have hn' : n ≤ 18446744073709551616 := by omega
  clear h3 h4 h5 h6
  go_enter Try.func7, Try.ntmps7
  go_wp2_with (go_at_call 52; refine (highest_of _ k _ hk (by omega) (by omega)).mono ?_; rintro e w' ⟨rfl, rfl⟩)
  go_ret2
  exact ⟨rfl, rfl⟩
theorem below_no (n : Int) (w : World) (h0 : 0 ≤ n) (h1 : n < 2) :
    Calls Try.prog 7 #[.int .u64 n] w fun e w' => e = .returned (.tuple #[.int .u64 0, .bool false]) ∧ w' = w := by
  go_enter Try.func7, Try.ntmps7
  go_wp2
  go_ret2
  exact ⟨rfl, rfl⟩
set_option maxHeartbeats 400000 in
theorem log_of (n : Int) (k : Nat) (w : World) (hk : k ≤ 63) (h1 : (2 : Int) ^ k < n) (h2 : n ≤ 2 * 2 ^ k) :
    Calls Try.prog 9 #[.int .u64 n] w fun e w' => e = .returned (.tuple #[.int .i64 (k + 1), .bool true]) ∧ w' = w := by
  have h3 : (2 : Nat) ^ k ≤ 2 ^ 63 := Nat.pow_le_pow_right (by decide) hk
  have h4 : (2 : Nat) ^ 63 = 9223372036854775808 := by decide
  have h5 := Nat.two_pow_pos k
  have h6 := pow_cast k
  have hn : 2 ≤ n := by omega
  have hn' : n ≤ 18446744073709551616 := by omega
  have hz : (n == 0) = false := by simp; omega
  clear h3 h4 h5 h6
  go_enter Try.func9, Try.ntmps9
  go_wp2_with (go_at_call 53; refine (len64_of _ k _ hk (by omega) (by omega)).mono ?_; rintro e w' ⟨rfl, rfl⟩)
  go_ret2
  exact ⟨rfl, rfl⟩
theorem log_one (w : World) :
    Calls Try.prog 9 #[.int .u64 1] w fun e w' => e = .returned (.tuple #[.int .i64 0, .bool true]) ∧ w' = w := by
  go_enter Try.func9, Try.ntmps9
  go_wp2_with (go_at_call 53; refine (len64_zero _).mono ?_; rintro e w' ⟨rfl, rfl⟩)
  go_ret2
  exact ⟨rfl, rfl⟩
theorem log_zero (w : World) :
    Calls Try.prog 9 #[.int .u64 0] w fun e w' => e = .returned (.tuple #[.int .i64 0, .bool false]) ∧ w' = w := by
  go_enter Try.func9, Try.ntmps9
  go_wp2
  go_ret2
  exact ⟨rfl, rfl⟩
end Go.Proofs.Ytiammdgcljjdmaa
