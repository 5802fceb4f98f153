/- What the reference's greatest number of a kind and the law's own comparison answer, at every input: plain contracts of the small functions that several statements call. -/
import Derived.Test.YtiammdgcljjdmaaProg
import Derived.WalkKit
import Derived.WalkSpells
import Derived.WalkLawsBesides
namespace Go.Proofs.Ytiammdgcljjdmaa
open Go.RowKit

theorem wu16 (n : Int) : IntKind.u16.wrap n = n % 65536 := by simp [IntKind.wrap, IntKind.bits, IntKind.signed]
theorem wu64 (n : Int) : IntKind.u64.wrap n = n % 18446744073709551616 := by simp [IntKind.wrap, IntKind.bits, IntKind.signed]
theorem pow_le {a b : Nat} (h : a ≤ b) : (2 : Int) ^ a ≤ 2 ^ b := by
  have := Nat.pow_le_pow_right (n := 2) (by decide) h
  exact_mod_cast this
theorem pow_pos' (a : Nat) : (1 : Int) ≤ 2 ^ a := by
  have := pow_le (Nat.zero_le a); simpa using this
theorem pow_63 {a : Nat} (h : a ≤ 63) : (2 : Int) ^ a ≤ 9223372036854775808 := by
  have := pow_le h; simpa using this

set_option maxHeartbeats 400000 in
theorem most_lt (n : Nat) (hn : n < 64) (w : World) :
    Calls Try.prog 55 #[.int .i64 n] w fun e w' => e = .returned (.int .u64 (2 ^ n - 1)) ∧ w' = w := by
  have h64 : ((n : Int) == 64) = false := by simp; omega
  go_enter Try.func55, Try.ntmps55
  go_wp2
  go_loop [3, 4] (fun p i => ∃ k : Nat, k ≤ n ∧ i = .int .i64 k ∧ p = .int .u64 (2 ^ k)) (fun _ i => n - (intOf i).toNat)
  case atStart => exact ⟨0, Nat.zero_le _, rfl, rfl⟩
  case round =>
    obtain ⟨k, hk, rfl, rfl⟩ := hrel
    have hp : (1 : Int) ≤ 2 ^ k := pow_pos' k
    by_cases hlt : k < n
    · have h63 : (2 : Int) ^ k * 2 ≤ 9223372036854775808 := by
        have := pow_63 (a := k + 1) (by omega)
        rw [Int.pow_succ] at this; exact this
      go_wp2
      go_round
      case rel => exact ⟨k + 1, by omega, by go_num, by rw [Int.pow_succ]⟩
      case measure => simp [intOf]; omega
    · obtain rfl : k = n := by omega
      have h63 := pow_63 (a := k) (by omega)
      go_wp2
      go_ret
      exact ⟨rfl, rfl⟩
theorem most64 (w : World) :
    Calls Try.prog 55 #[.int .i64 64] w fun e w' => e = .returned (.int .u64 18446744073709551615) ∧ w' = w := by
  go_enter Try.func55, Try.ntmps55
  go_wp2
  go_ret
  exact ⟨rfl, rfl⟩
theorem most8 (w : World) : Calls Try.prog 55 #[.int .i64 8] w fun e w' => e = .returned (.int .u64 255) ∧ w' = w := most_lt 8 (by decide) w
theorem most16 (w : World) : Calls Try.prog 55 #[.int .i64 16] w fun e w' => e = .returned (.int .u64 65535) ∧ w' = w := most_lt 16 (by decide) w
theorem most32 (w : World) : Calls Try.prog 55 #[.int .i64 32] w fun e w' => e = .returned (.int .u64 4294967295) ∧ w' = w := most_lt 32 (by decide) w
theorem same_t (v : Int) (ok : Bool) (w : World) :
    Calls Try.prog 11 #[.int .u64 v, .bool ok, .int .u64 v, .bool ok] w fun e w' => e = .returned (.bool true) ∧ w' = w := by
  go_enter Try.func11, Try.ntmps11
  go_wp2
  go_ret
  exact ⟨rfl, rfl⟩
end Go.Proofs.Ytiammdgcljjdmaa
