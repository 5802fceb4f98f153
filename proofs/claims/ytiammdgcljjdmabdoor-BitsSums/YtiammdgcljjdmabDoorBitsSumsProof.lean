/- BitsSums returns true at every three numbers, the table of math/bits being what the program's own text lays: Add does not hang on the order, what does not fit is told by the wider kind, and Left is adding to itself; no other condition. -/
import Derived.Test.YtiammdgcljjdmabDoorRows
import Derived.Test.YtiammdgcljjdmabDoorKinds
import Derived.Test.YtiammdgcljjdmabDoorAdds
import Derived.Test.YtiammdgcljjdmabDoorTie
import Derived.Test.YtiammdgcljjdmabDoorCards
import Derived.WalkKit
import Derived.ProofKit
import Derived.OpenShut
import Derived.LaidMore
import Derived.Stop.Joined
import Derived.Lib.LaidTab
import Derived.SevenTiedAt
namespace Go.Proofs.YtiammdgcljjdmabDoor.bitsSums
open Go.ChangeShapes Go.WideShapes Go.ChangeAt Go.RowKit
set_option linter.unusedVariables false      -- a walk need not use every 'w<i>' (that an integer argument fits its kind)

theorem own : ownKnob Tryd.prog.godebug = none := by kernel_rfl


set_option maxRecDepth 100000 in
set_option maxHeartbeats 4000000 in
theorem sumsYY (x y : Int) (n : Nat) (w : World) (hT : TabAt w) (x0 : 0 ≤ x) (x1 : x ≤ 4294967295) (y0 : 0 ≤ y) (y1 : y ≤ 4294967295) (hn : n ≤ 255) (hs : x + y ≤ 4294967295) (hl : x * 2 ^ n ≤ 4294967295) :
    Calls Tryd.prog 3 #[.int .u32 x, .int .u32 y, .int .u8 n] w fun e w' => e = .returned (.bool true) ∧ w' = w := by
  have e1 : addV 4294967295 x y = x + y := addV_pos hs
  have e2 : addV 4294967295 y x = x + y := by rw [addV_pos (by omega)]; omega
  have e3 : addOk 4294967295 x y = true := addOk_pos hs
  have e4 : addOk 4294967295 y x = true := addOk_pos (by omega)
  have e5 : addV 18446744073709551615 x y = x + y := addV_pos (by omega)
  have e6 : addOk 18446744073709551615 x y = true := addOk_pos (by omega)
  have e7 : leftV 4294967295 x n = x * 2 ^ n := leftV_pos (by omega) (by simpa using hl)
  have e8 : leftOk 4294967295 x n = true := leftOk_pos (by omega) (by simpa using hl)
  have HL : Hid (x * 2 ^ n ≤ 4294967295) := hl
  clear hl
  go_enter Tryd.func3, Tryd.ntmps3
  go_wp2_with (first
    | (go_at_call 5; refine (add32 _ _ _ (by omega) (by omega) (by omega) (by omega)).mono ?_; rintro e w' ⟨rfl, rfl⟩)
    | (go_at_call 6; refine (add64 _ _ _ (by omega) (by omega) (by omega) (by omega)).mono ?_; rintro e w' ⟨rfl, rfl⟩)
    | (go_at_call 7; refine (alive_t _ hT).mono ?_; rintro e w' ⟨rfl, rfl⟩)
    | (go_at_call 8; refine (left32 _ _ _ (by omega) (by omega) (by omega)).mono ?_; rintro e w' ⟨rfl, rfl⟩))
  clear e1 e2 e3 e4 e5 e6
  go_loop [15, 16, 17] (fun b f i => ∃ k : Nat, k ≤ n ∧ i = .int .i64 k ∧ b = .int .u32 (x * 2 ^ k) ∧ f = .bool true) (fun _ _ i => n - (intOf i).toNat)
  case atStart => exact ⟨0, Nat.zero_le _, rfl, by simp, rfl⟩
  case round =>
    obtain ⟨k, hk, rfl, rfl, rfl⟩ := hrel
    have hn0 : 0 ≤ x * 2 ^ k := Int.mul_nonneg x0 (by have := pow_pos' k; omega)
    have hnk : x * 2 ^ k ≤ 4294967295 := Int.le_trans (grow_le x0 hk) HL.out
    by_cases hlt : k < n
    · have hs2 : x * 2 ^ (k + 1) = x * 2 ^ k + x * 2 ^ k := by rw [Int.pow_succ, ← Int.mul_assoc]; omega
      have hle : x * 2 ^ (k + 1) ≤ 4294967295 := Int.le_trans (grow_le x0 (show k + 1 ≤ n by omega)) HL.out
      have d1 : addV 4294967295 (x * 2 ^ k) (x * 2 ^ k) = x * 2 ^ (k + 1) := by rw [addV_pos (by omega), hs2]
      have d2 : addOk 4294967295 (x * 2 ^ k) (x * 2 ^ k) = true := addOk_pos (by omega)
      clear hs2
      go_wp2_with (go_at_call 5; refine (add32 _ _ _ (by omega) (by omega) (by omega) (by omega)).mono ?_; rintro e w' ⟨rfl, rfl⟩)
      go_round
      case rel => exact ⟨k + 1, by omega, by go_num, by first | rfl | rw [d1], by first | rfl | rw [d2]⟩
      case measure => simp [intOf]; omega
    · obtain rfl : k = n := by omega
      go_wp2
      go_ret
      exact ⟨rfl, rfl⟩

set_option maxRecDepth 100000 in
set_option maxHeartbeats 4000000 in
theorem sumsYN (x y : Int) (n : Nat) (w : World) (hT : TabAt w) (x0 : 0 ≤ x) (x1 : x ≤ 4294967295) (y0 : 0 ≤ y) (y1 : y ≤ 4294967295) (hn : n ≤ 255) (hs : x + y ≤ 4294967295) (hl : 4294967295 < x * 2 ^ n) :
    Calls Tryd.prog 3 #[.int .u32 x, .int .u32 y, .int .u8 n] w fun e w' => e = .returned (.bool true) ∧ w' = w := by
  have e1 : addV 4294967295 x y = x + y := addV_pos hs
  have e2 : addV 4294967295 y x = x + y := by rw [addV_pos (by omega)]; omega
  have e3 : addOk 4294967295 x y = true := addOk_pos hs
  have e4 : addOk 4294967295 y x = true := addOk_pos (by omega)
  have e5 : addV 18446744073709551615 x y = x + y := addV_pos (by omega)
  have e6 : addOk 18446744073709551615 x y = true := addOk_pos (by omega)
  have e7 : leftV 4294967295 x n = 0 := leftV_neg (by simp only [Int.toNat_natCast]; omega)
  have e8 : leftOk 4294967295 x n = false := leftOk_neg (by simp only [Int.toNat_natCast]; omega)
  have HL : Hid (4294967295 < x * 2 ^ n) := hl
  clear hl
  go_enter Tryd.func3, Tryd.ntmps3
  go_wp2_with (first
    | (go_at_call 5; refine (add32 _ _ _ (by omega) (by omega) (by omega) (by omega)).mono ?_; rintro e w' ⟨rfl, rfl⟩)
    | (go_at_call 6; refine (add64 _ _ _ (by omega) (by omega) (by omega) (by omega)).mono ?_; rintro e w' ⟨rfl, rfl⟩)
    | (go_at_call 7; refine (alive_t _ hT).mono ?_; rintro e w' ⟨rfl, rfl⟩)
    | (go_at_call 8; refine (left32 _ _ _ (by omega) (by omega) (by omega)).mono ?_; rintro e w' ⟨rfl, rfl⟩))
  clear e1 e2 e3 e4 e5 e6
  go_loop [15, 16, 17] (fun b f i => ∃ k : Nat, k ≤ n ∧ i = .int .i64 k ∧ ((b = .int .u32 (x * 2 ^ k) ∧ f = .bool true ∧ x * 2 ^ k ≤ 4294967295) ∨ (b = .int .u32 0 ∧ f = .bool false))) (fun _ _ i => n - (intOf i).toNat)
  case atStart => exact ⟨0, Nat.zero_le _, rfl, .inl ⟨by simp, rfl, by simpa using x1⟩⟩
  case round =>
    obtain ⟨k, hk, rfl, h⟩ := hrel
    rcases h with ⟨rfl, rfl, hle⟩ | ⟨rfl, rfl⟩
    · have hn0 : 0 ≤ x * 2 ^ k := Int.mul_nonneg x0 (by have := pow_pos' k; omega)
      have hlt : k < n := by
        refine Classical.byContradiction fun hc => ?_
        have := HL.out
        obtain rfl : k = n := by omega
        omega
      have hs2 : x * 2 ^ (k + 1) = x * 2 ^ k + x * 2 ^ k := by rw [Int.pow_succ, ← Int.mul_assoc]; omega
      by_cases hc : x * 2 ^ k + x * 2 ^ k ≤ 4294967295
      · have d1 : addV 4294967295 (x * 2 ^ k) (x * 2 ^ k) = x * 2 ^ (k + 1) := by rw [addV_pos hc, hs2]
        have d2 : addOk 4294967295 (x * 2 ^ k) (x * 2 ^ k) = true := addOk_pos hc
        have HS : Hid (x * 2 ^ (k + 1) = x * 2 ^ k + x * 2 ^ k) := hs2
        clear hs2
        go_wp2_with (go_at_call 5; refine (add32 _ _ _ (by omega) (by omega) (by omega) (by omega)).mono ?_; rintro e w' ⟨rfl, rfl⟩)
        go_round
        case rel => exact ⟨k + 1, by omega, by go_num, .inl ⟨by first | rfl | rw [d1], by first | rfl | rw [d2], by rw [HS.out]; exact hc⟩⟩
        case measure => simp [intOf]; omega
      · have d1 : addV 4294967295 (x * 2 ^ k) (x * 2 ^ k) = 0 := addV_neg hc
        have d2 : addOk 4294967295 (x * 2 ^ k) (x * 2 ^ k) = false := addOk_neg hc
        clear hs2
        go_wp2_with (go_at_call 5; refine (add32 _ _ _ (by omega) (by omega) (by omega) (by omega)).mono ?_; rintro e w' ⟨rfl, rfl⟩)
        go_round
        case rel => exact ⟨k + 1, by omega, by go_num, .inr ⟨by first | rfl | rw [d1], by first | rfl | rw [d2]⟩⟩
        case measure => simp [intOf]; omega
    · by_cases hlt : k < n
      all_goals
        go_wp2
        go_ret
        exact ⟨rfl, rfl⟩

set_option maxRecDepth 100000 in
set_option maxHeartbeats 4000000 in
theorem sumsNY (x y : Int) (n : Nat) (w : World) (hT : TabAt w) (x0 : 0 ≤ x) (x1 : x ≤ 4294967295) (y0 : 0 ≤ y) (y1 : y ≤ 4294967295) (hn : n ≤ 255) (hs : ¬ x + y ≤ 4294967295) (hl : x * 2 ^ n ≤ 4294967295) :
    Calls Tryd.prog 3 #[.int .u32 x, .int .u32 y, .int .u8 n] w fun e w' => e = .returned (.bool true) ∧ w' = w := by
  have e1 : addV 4294967295 x y = 0 := addV_neg hs
  have e2 : addV 4294967295 y x = 0 := addV_neg (by omega)
  have e3 : addOk 4294967295 x y = false := addOk_neg hs
  have e4 : addOk 4294967295 y x = false := addOk_neg (by omega)
  have e5 : addV 18446744073709551615 x y = x + y := addV_pos (by omega)
  have e6 : addOk 18446744073709551615 x y = true := addOk_pos (by omega)
  have e7 : leftV 4294967295 x n = x * 2 ^ n := leftV_pos (by omega) (by simpa using hl)
  have e8 : leftOk 4294967295 x n = true := leftOk_pos (by omega) (by simpa using hl)
  have HL : Hid (x * 2 ^ n ≤ 4294967295) := hl
  clear hl
  go_enter Tryd.func3, Tryd.ntmps3
  go_wp2_with (first
    | (go_at_call 5; refine (add32 _ _ _ (by omega) (by omega) (by omega) (by omega)).mono ?_; rintro e w' ⟨rfl, rfl⟩)
    | (go_at_call 6; refine (add64 _ _ _ (by omega) (by omega) (by omega) (by omega)).mono ?_; rintro e w' ⟨rfl, rfl⟩)
    | (go_at_call 7; refine (alive_t _ hT).mono ?_; rintro e w' ⟨rfl, rfl⟩)
    | (go_at_call 8; refine (left32 _ _ _ (by omega) (by omega) (by omega)).mono ?_; rintro e w' ⟨rfl, rfl⟩))
  clear e1 e2 e3 e4 e5 e6
  go_loop [15, 16, 17] (fun b f i => ∃ k : Nat, k ≤ n ∧ i = .int .i64 k ∧ b = .int .u32 (x * 2 ^ k) ∧ f = .bool true) (fun _ _ i => n - (intOf i).toNat)
  case atStart => exact ⟨0, Nat.zero_le _, rfl, by simp, rfl⟩
  case round =>
    obtain ⟨k, hk, rfl, rfl, rfl⟩ := hrel
    have hn0 : 0 ≤ x * 2 ^ k := Int.mul_nonneg x0 (by have := pow_pos' k; omega)
    have hnk : x * 2 ^ k ≤ 4294967295 := Int.le_trans (grow_le x0 hk) HL.out
    by_cases hlt : k < n
    · have hs2 : x * 2 ^ (k + 1) = x * 2 ^ k + x * 2 ^ k := by rw [Int.pow_succ, ← Int.mul_assoc]; omega
      have hle : x * 2 ^ (k + 1) ≤ 4294967295 := Int.le_trans (grow_le x0 (show k + 1 ≤ n by omega)) HL.out
      have d1 : addV 4294967295 (x * 2 ^ k) (x * 2 ^ k) = x * 2 ^ (k + 1) := by rw [addV_pos (by omega), hs2]
      have d2 : addOk 4294967295 (x * 2 ^ k) (x * 2 ^ k) = true := addOk_pos (by omega)
      clear hs2
      go_wp2_with (go_at_call 5; refine (add32 _ _ _ (by omega) (by omega) (by omega) (by omega)).mono ?_; rintro e w' ⟨rfl, rfl⟩)
      go_round
      case rel => exact ⟨k + 1, by omega, by go_num, by first | rfl | rw [d1], by first | rfl | rw [d2]⟩
      case measure => simp [intOf]; omega
    · obtain rfl : k = n := by omega
      go_wp2
      go_ret
      exact ⟨rfl, rfl⟩

set_option maxRecDepth 100000 in
set_option maxHeartbeats 4000000 in
theorem sumsNN (x y : Int) (n : Nat) (w : World) (hT : TabAt w) (x0 : 0 ≤ x) (x1 : x ≤ 4294967295) (y0 : 0 ≤ y) (y1 : y ≤ 4294967295) (hn : n ≤ 255) (hs : ¬ x + y ≤ 4294967295) (hl : 4294967295 < x * 2 ^ n) :
    Calls Tryd.prog 3 #[.int .u32 x, .int .u32 y, .int .u8 n] w fun e w' => e = .returned (.bool true) ∧ w' = w := by
  have e1 : addV 4294967295 x y = 0 := addV_neg hs
  have e2 : addV 4294967295 y x = 0 := addV_neg (by omega)
  have e3 : addOk 4294967295 x y = false := addOk_neg hs
  have e4 : addOk 4294967295 y x = false := addOk_neg (by omega)
  have e5 : addV 18446744073709551615 x y = x + y := addV_pos (by omega)
  have e6 : addOk 18446744073709551615 x y = true := addOk_pos (by omega)
  have e7 : leftV 4294967295 x n = 0 := leftV_neg (by simp only [Int.toNat_natCast]; omega)
  have e8 : leftOk 4294967295 x n = false := leftOk_neg (by simp only [Int.toNat_natCast]; omega)
  have HL : Hid (4294967295 < x * 2 ^ n) := hl
  clear hl
  go_enter Tryd.func3, Tryd.ntmps3
  go_wp2_with (first
    | (go_at_call 5; refine (add32 _ _ _ (by omega) (by omega) (by omega) (by omega)).mono ?_; rintro e w' ⟨rfl, rfl⟩)
    | (go_at_call 6; refine (add64 _ _ _ (by omega) (by omega) (by omega) (by omega)).mono ?_; rintro e w' ⟨rfl, rfl⟩)
    | (go_at_call 7; refine (alive_t _ hT).mono ?_; rintro e w' ⟨rfl, rfl⟩)
    | (go_at_call 8; refine (left32 _ _ _ (by omega) (by omega) (by omega)).mono ?_; rintro e w' ⟨rfl, rfl⟩))
  clear e1 e2 e3 e4 e5 e6
  go_loop [15, 16, 17] (fun b f i => ∃ k : Nat, k ≤ n ∧ i = .int .i64 k ∧ ((b = .int .u32 (x * 2 ^ k) ∧ f = .bool true ∧ x * 2 ^ k ≤ 4294967295) ∨ (b = .int .u32 0 ∧ f = .bool false))) (fun _ _ i => n - (intOf i).toNat)
  case atStart => exact ⟨0, Nat.zero_le _, rfl, .inl ⟨by simp, rfl, by simpa using x1⟩⟩
  case round =>
    obtain ⟨k, hk, rfl, h⟩ := hrel
    rcases h with ⟨rfl, rfl, hle⟩ | ⟨rfl, rfl⟩
    · have hn0 : 0 ≤ x * 2 ^ k := Int.mul_nonneg x0 (by have := pow_pos' k; omega)
      have hlt : k < n := by
        refine Classical.byContradiction fun hc => ?_
        have := HL.out
        obtain rfl : k = n := by omega
        omega
      have hs2 : x * 2 ^ (k + 1) = x * 2 ^ k + x * 2 ^ k := by rw [Int.pow_succ, ← Int.mul_assoc]; omega
      by_cases hc : x * 2 ^ k + x * 2 ^ k ≤ 4294967295
      · have d1 : addV 4294967295 (x * 2 ^ k) (x * 2 ^ k) = x * 2 ^ (k + 1) := by rw [addV_pos hc, hs2]
        have d2 : addOk 4294967295 (x * 2 ^ k) (x * 2 ^ k) = true := addOk_pos hc
        have HS : Hid (x * 2 ^ (k + 1) = x * 2 ^ k + x * 2 ^ k) := hs2
        clear hs2
        go_wp2_with (go_at_call 5; refine (add32 _ _ _ (by omega) (by omega) (by omega) (by omega)).mono ?_; rintro e w' ⟨rfl, rfl⟩)
        go_round
        case rel => exact ⟨k + 1, by omega, by go_num, .inl ⟨by first | rfl | rw [d1], by first | rfl | rw [d2], by rw [HS.out]; exact hc⟩⟩
        case measure => simp [intOf]; omega
      · have d1 : addV 4294967295 (x * 2 ^ k) (x * 2 ^ k) = 0 := addV_neg hc
        have d2 : addOk 4294967295 (x * 2 ^ k) (x * 2 ^ k) = false := addOk_neg hc
        clear hs2
        go_wp2_with (go_at_call 5; refine (add32 _ _ _ (by omega) (by omega) (by omega) (by omega)).mono ?_; rintro e w' ⟨rfl, rfl⟩)
        go_round
        case rel => exact ⟨k + 1, by omega, by go_num, .inr ⟨by first | rfl | rw [d1], by first | rfl | rw [d2]⟩⟩
        case measure => simp [intOf]; omega
    · by_cases hlt : k < n
      all_goals
        go_wp2
        go_ret
        exact ⟨rfl, rfl⟩

theorem walkSums (x y n : Int) (w : World) (hT : TabAt w) (x0 : 0 ≤ x) (x1 : x ≤ 4294967295) (y0 : 0 ≤ y) (y1 : y ≤ 4294967295) (n0 : 0 ≤ n) (n1 : n ≤ 255) :
    Calls Tryd.prog 3 #[.int .u32 x, .int .u32 y, .int .u8 n] w fun e w' => e = .returned (.bool true) ∧ w' = w := by
  obtain ⟨k, rfl⟩ : ∃ k : Nat, n = k := ⟨n.toNat, by omega⟩
  by_cases hs : x + y ≤ 4294967295
  · by_cases hl : x * 2 ^ k ≤ 4294967295
    · exact sumsYY x y k w hT x0 x1 y0 y1 (by omega) hs hl
    · exact sumsYN x y k w hT x0 x1 y0 y1 (by omega) hs (by omega)
  · by_cases hl : x * 2 ^ k ≤ 4294967295
    · exact sumsNY x y k w hT x0 x1 y0 y1 (by omega) hs hl
    · exact sumsNN x y k w hT x0 x1 y0 y1 (by omega) hs (by omega)

theorem walk (a0 a1 a2 : Int) (w0 : (Lit.int .u32 a0).wf = true) (w1 : (Lit.int .u32 a1).wf = true) (w2 : (Lit.int .u8 a2).wf = true) (w : World) (hT : TabAt w) :
    Calls Tryd.prog 3 #[.int .u32 a0, .int .u32 a1, .int .u8 a2] w fun e w' => e = .returned (.bool true) ∧ Grown w w' := by
  obtain ⟨x0, x1⟩ := bounds_u32 w0
  obtain ⟨y0, y1⟩ := bounds_u32 w1
  obtain ⟨z0, z1⟩ := bounds_u8 w2
  exact (walkSums a0 a1 a2 w hT x0 x1 y0 y1 z0 z1).mono fun e w' ⟨he, hw⟩ => ⟨he, by subst hw; exact Grown.refl _⟩

theorem gTab : Tryd.prog.globalNamed "math/bits.deBruijn64tab" = some 0 := by kernel_rfl
theorem tTab : (Tryd.prog.globals[0]?).map (·.type) = some 45 := by kernel_rfl
theorem cE : Tryd.prog.cellsOf 5 = 1 := by kernel_rfl
theorem cG : Tryd.prog.cellsOf 45 = 64 := by kernel_rfl
theorem door_met (os : Os) (args : Array Value) : laidMetH Tryd.prog [("math/bits.deBruijn64tab", Rows.laid_math_bits_deBruijn64tab)] ((World.doorLaid Tryd.prog 14 os).forCall (fun _ _ => 0) ⟨#[], args, []⟩).memory :=
  laidMetH_of_parts3 (fuel := 8) (laidMet_of_run' 8 (by kernel_rfl) (by kernel_rfl)) (by kernel_rfl) (by kernel_rfl)
theorem of_laid {W : World} (h : laidMetH Tryd.prog [("math/bits.deBruijn64tab", Rows.laid_math_bits_deBruijn64tab)] W) : TabAt W := by
  rw [MakeChecks.laidMetH_plain _ _ _ (by kernel_rfl)] at h
  have h2 : laidMet Tryd.prog (("math/bits.deBruijn64tab", Lib.tabData .u8 [0, 1, 56, 2, 57, 49, 28, 3, 61, 58, 42, 50, 38, 29, 17, 4, 62, 47, 59, 36, 45, 43, 51, 22, 53, 39, 33, 30, 24, 18, 12, 5, 63, 55, 48, 27, 60, 41, 37, 16, 46, 35, 44, 21, 52, 32, 23, 11, 54, 26, 40, 15, 34, 20, 31, 10, 25, 14, 19, 9, 13, 8, 7, 6]) :: []) W := h
  have h3 := Lib.tabIs_of_head gTab tTab Tryd.underlying45 Tryd.underlying5 cE cG h2
  intro j hj
  have h4 := h3.cell gTab j hj
  rw [h4]
  have e : ∀ j : Fin 64, ([0, 1, 56, 2, 57, 49, 28, 3, 61, 58, 42, 50, 38, 29, 17, 4, 62, 47, 59, 36, 45, 43, 51, 22, 53, 39, 33, 30, 24, 18, 12, 5, 63, 55, 48, 27, 60, 41, 37, 16, 46, 35, 44, 21, 52, 32, 23, 11, 54, 26, 40, 15, 34, 20, 31, 10, 25, 14, 19, 9, 13, 8, 7, 6] : List Int).getD j.val 0 = ((Lib.deBruijn64tab.getD j.val 0 : Nat) : Int) := by decide +kernel
  rw [e ⟨j, hj⟩]

/-! ### THE ROW's STEP: WRITTEN OUT: LEAVE IT -/
set_option maxRecDepth 100000 in
theorem lifted (os : Os) (started : os.Started) (H : Type) (enc : TypeId × Value → H) :
    ReturnsInHanded {} Tryd.checked os 3 .any (fun w args => (Rows.bitsSumsSpec.pre enc Tryd.prog Tryd.f3 [] false w args ∧ laidMetH Tryd.prog [("math/bits.deBruijn64tab", Rows.laid_math_bits_deBruijn64tab)] w) ∧ sizedMet enc Tryd.prog Tryd.f3 (OpenSpec.ofChange Rows.bitsSumsSpec) false w args)
      (Rows.bitsSumsSpec.post enc Tryd.prog Tryd.f3 false true false false) := by
  refine returnsInHanded_of_change_and (C := Tryd.checked) (X := fun w _ => laidMetH Tryd.prog [("math/bits.deBruijn64tab", Rows.laid_math_bits_deBruijn64tab)] w) (fun _ _ _ hh h => h.of_heap hh) own started (by kernel_rfl) Tryd.func3
    (ChangeSpec.witness_shaped (enc := enc) (C := Tryd.checked) (os := os) (X := fun w _ => laidMetH Tryd.prog [("math/bits.deBruijn64tab", Rows.laid_math_bits_deBruijn64tab)] w) false (World.doorLaid Tryd.prog 14 os) #[.int .u32 0, .int .u32 0, .int .u8 0] 8 rfl (World.shaped_of_RefB (by kernel_rfl) (by kernel_rfl)) (by kernel_rfl) (by kernel_rfl) (by kernel_rfl) (door_met os _)) ?_
  intro W base args ds gs before hval0 hW _ _ hL _
  have hval : ∀ (j : Nat) t v, Tryd.f3.params[j]? = some t → args[j]? = some v → Value.okWide Tryd.prog W .any base t v := hval0
  have hW' := hW
  obtain ⟨p, q, hA0, hV, rfl, hfz, hnd⟩ := hW
  have hA : DataW.TrodAll enc Tryd.prog W 0 (fun _ => true) true Tryd.f3.params.toList args.toList ds p := hA0
  rw [Tryd.params3] at hA hval
  obtain ⟨v0, vs0, d0, ds0, p0, q0, hargs, rfl, rfl, h0, r0⟩ := trodAll_cons hA
  obtain ⟨v1, vs1, d1, ds1, p1, q1, rfl, rfl, rfl, h1, r1⟩ := trodAll_cons r0
  obtain ⟨v2, vs2, d2, ds2, p2, q2, rfl, rfl, rfl, h2, r2⟩ := trodAll_cons r1
  obtain ⟨rfl, rfl, rfl⟩ := trodAll_nil r2
  obtain rfl : args = #[v0, v1, v2] := by cases args; simp_all
  obtain ⟨rfl, rfl⟩ := trodVars_none hV
  obtain ⟨a0, rfl, rfl, rfl, w0⟩ := open_int Tryd.underlying22 (hval 0 22 v0 rfl rfl) h0
  obtain ⟨a1, rfl, rfl, rfl, w1⟩ := open_int Tryd.underlying22 (hval 1 22 v1 rfl rfl) h1
  obtain ⟨a2, rfl, rfl, rfl, w2⟩ := open_int Tryd.underlying5 (hval 2 5 v2 rfl rfl) h2
  clear hA0 hval0
  simp only [List.append_nil] at hW'
  refine (walk a0 a1 a2 w0 w1 w2 W (of_laid hL)).mono fun e W' ⟨he, hg⟩ => ?_
  subst he
  exact ⟨_, rfl, post_of_same (pa := []) (pv := []) hW' (fun _ _ _ => (trodAll_cons_mk (shut_bool Tryd.underlying4 _) trodAll_mk0)) (fun sp _ => (trodAll_cons_mk (shut_int Tryd.underlying22 w0) (trodAll_cons_mk (shut_int Tryd.underlying22 w1) (trodAll_cons_mk (shut_int Tryd.underlying5 w2) trodAll_mk0)))) (fun _ _ => rfl) rfl
    (hg.frame _) hg.2.1 (ok_one (by kernel_rfl) rfl (okWide_bool_mk Tryd.underlying4 _))⟩

theorem over : Rows.bitsSumsRow.holds Tryd.pinned (OpenSpec.ofChange Rows.bitsSumsSpec) :=
  OpenClaim.holds_of_wide 3 Tryd.f3 rfl rfl rfl rfl rfl rfl rfl ⟨rfl, rfl, rfl, rfl, rfl⟩ rfl rfl rfl rfl rfl (by kernel_rfl) Tryd.func3 (by kernel_rfl)
    (of_decide_eq_true (by kernel_rfl)) (by unfold Func.isWrapper; first | (rw [if_pos (by decide +kernel)]; kernel_rfl) | (rw [if_neg (by decide +kernel)]; exact ⟨rfl, rfl⟩))
    (fun os started H enc _ => lifted os started H enc)

theorem proved : Rows.BitsSumsCardSaid :=
  Claim7.holds_tied_plain_at .later [] [.data] true (true, "49b3990423dfa95936398192008f2b1f40032d26b0d5fcb8f5abdcad84bf145b") false
    over (fun _ h => by cases h) (by kernel_rfl) (fun _ h => by cases h) bitsSums_row_tie rfl ⟨rfl, rfl⟩ (by kernel_rfl) rfl
    (fun f fn hf hfn => by
      obtain rfl : f = 3 := Option.some.inj ((show Tryd.prog.funcNamed "cartulary/cartularylaw01.BitsSums" = some 3 by kernel_rfl).symm.trans hf) |>.symm
      obtain rfl : fn = Tryd.f3 := (Option.some.inj (Tryd.func3.symm.trans hfn)).symm
      exact ⟨by kernel_rfl, fun j t ht => by
        rw [Tryd.params3] at ht
        have hm : t ∈ [22, 5] := by simpa using Array.mem_of_getElem? ht
        have hall : ([22, 5].all fun u => !Tryd.prog.wantsStandIn u) = true := by kernel_rfl
        exact (show Tryd.prog.wantsStandIn t = false by simpa using List.all_eq_true.1 hall t hm)⟩)
    (by kernel_rfl)
#print axioms proved
end Go.Proofs.YtiammdgcljjdmabDoor.bitsSums

namespace Go.Proofs.YtiammdgcljjdmabDoor
theorem bitsSums_holds : Rows.BitsSumsCardSaid := bitsSums.proved
end Go.Proofs.YtiammdgcljjdmabDoor
