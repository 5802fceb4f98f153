/- tile: the document's In; TileIns. -/
import Derived.Test.YtgobdjdaehlgdaaGreatDoorUc
namespace Go.Proofs.YtgobdjdaehlgdaaGreatDoor
open Go.RowKit
open Go.Lib (decDigits nDigits)
set_option linter.unusedVariables false
set_option linter.unusedSimpArgs false
set_option maxHeartbeats 1000000 in
theorem nodes_any (S k : Nat) (hS : S < 18446744073709551616) (hk : k ≤ 1000) (w : World) :
    Calls Tryz.prog 28 #[.int .u64 (S : Int), .int .u64 (k : Int)] w fun e w' => e = .returned (.int .u64 ((S / 2 ^ k : Nat) : Int)) ∧ w' = w := by
  go_enter Tryz.func28, Tryz.ntmps28
  go_wp2
  go_loop [0, 5] (fun s i => ∃ j m : Nat, j ≤ k ∧ i = .int .u64 (j : Int) ∧ s = .int .u64 (m : Int) ∧ m = S / 2 ^ j) (fun _ i => k - (intOf i).toNat)
  case atStart => exact ⟨0, S, by omega, rfl, rfl, by simp⟩
  case round =>
    obtain ⟨j, m, hj, rfl, rfl, hm⟩ := hrel
    have HM : Hid (m = S / 2 ^ j) := hm
    have hmS : m ≤ S := by rw [hm]; exact Nat.div_le_self _ _
    clear hm
    by_cases hlt : j < k
    · have hji : (j : Int) < (k : Int) := by omega
      go_wp2
      exact ⟨⟨j + 1, m / 2, by omega, by go_num, by go_num, by rw [HM.out, Nat.div_div_eq_div_mul, Nat.pow_succ]⟩, by simp [intOf]; omega⟩
    · obtain rfl : j = k := by omega
      have hji : ¬ (j : Int) < (j : Int) := by omega
      go_wp2
      go_ret
      exact ⟨by rw [HM.out]; rfl, rfl⟩
end Go.Proofs.YtgobdjdaehlgdaaGreatDoor
