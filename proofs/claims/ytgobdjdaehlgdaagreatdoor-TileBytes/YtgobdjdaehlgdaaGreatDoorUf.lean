/- tile: the document's Of; TileOfs. -/
import Derived.Test.YtgobdjdaehlgdaaGreatDoorUd
namespace Go.Proofs.YtgobdjdaehlgdaaGreatDoor
open Go.RowKit
set_option linter.unusedVariables false
set_option linter.unusedSimpArgs false
set_option maxHeartbeats 1000000 in
theorem fits_any (n k : Nat) (hn : n ≤ 9223372036854775808) (hk : k ≤ 1000) (b : Bool) (hb : b = true ↔ n * 2 ^ k ≤ 9223372036854775808) (w : World) :
    Calls Tryz.prog 127 #[.int .u64 (n : Int), .int .u64 (k : Int)] w fun e w' => e = .returned (.bool b) ∧ w' = w := by
  have HB : Hid (b = true ↔ n * 2 ^ k ≤ 9223372036854775808) := hb
  clear hb
  go_enter Tryz.func127, Tryz.ntmps127
  go_wp2
  go_loop [0, 5] (fun s i => ∃ j m : Nat, j ≤ k ∧ i = .int .u64 (j : Int) ∧ s = .int .u64 (m : Int) ∧ m = n * 2 ^ j ∧ m ≤ 9223372036854775808) (fun _ i => k - (intOf i).toNat)
  case atStart => exact ⟨0, n, by omega, rfl, rfl, by simp, hn⟩
  case round =>
    obtain ⟨j, m, hj, rfl, rfl, hm, hmb⟩ := hrel
    have HM : Hid (m = n * 2 ^ j) := hm
    clear hm
    by_cases hlt : j < k
    · have hji : (j : Int) < (k : Int) := by omega
      by_cases hbig : 4611686018427387904 < m
      · have hbi : (4611686018427387904 : Int) < (m : Int) := by omega
        have hbf : b = false := by
          cases b with
          | false => rfl
          | true =>
            have h1 := HB.out.1 rfl
            have h2 : n * 2 ^ (j + 1) ≤ n * 2 ^ k := Nat.mul_le_mul_left _ (Nat.pow_le_pow_right (by decide) hlt)
            rw [Nat.pow_succ, ← Nat.mul_assoc, ← HM.out] at h2
            omega
        subst hbf
        go_wp2
        go_ret
        exact ⟨rfl, rfl⟩
      · have hbi : ¬ (4611686018427387904 : Int) < (m : Int) := by omega
        go_wp2
        exact ⟨⟨j + 1, 2 * m, by omega, by go_num, by go_num, by rw [HM.out, Nat.pow_succ]; rw [Nat.mul_comm 2, Nat.mul_assoc], by omega⟩, by simp [intOf]; omega⟩
    · obtain rfl : j = k := by omega
      have hji : ¬ (j : Int) < (j : Int) := by omega
      have hmi : (m : Int) ≤ 9223372036854775808 := by omega
      obtain rfl : b = true := HB.out.2 (by rw [← HM.out]; exact hmb)
      go_wp2
      go_ret
      exact ⟨rfl, rfl⟩
end Go.Proofs.YtgobdjdaehlgdaaGreatDoor
