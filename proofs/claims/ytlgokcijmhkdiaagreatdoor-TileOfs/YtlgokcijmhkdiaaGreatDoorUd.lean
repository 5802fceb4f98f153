/- tile: the document's In; TileIns. -/
import Derived.Test.YtlgokcijmhkdiaaGreatDoorUc
namespace Go.Proofs.YtlgokcijmhkdiaaGreatDoor
open Go.RowKit
open Go.Lib (decDigits nDigits)
set_option linter.unusedVariables false
set_option linter.unusedSimpArgs false
set_option maxHeartbeats 1000000 in
theorem nodes_any (S k : Nat) (hS : S < 18446744073709551616) (hk : k ≤ 1000) (w : World) :
    Calls Tryz.prog 38 #[.int .u64 (S : Int), .int .u64 (k : Int)] w fun e w' => e = .returned (.int .u64 ((S / 2 ^ k : Nat) : Int)) ∧ w' = w := by
  go_enter Tryz.func38, Tryz.ntmps38
  go_wp2
  go_loop [0, 5] (fun s i => ∃ j m : Nat, j ≤ k ∧ i = .int .u64 (j : Int) ∧ s = .int .u64 (m : Int) ∧ m = S / 2 ^ j) (fun _ i => k - (intOf i).toNat)
  case atStart => exact ⟨0, S, by omega, rfl, rfl, by simp⟩
  case round =>
    obtain ⟨j, m, hj, rfl, rfl, hm⟩ := hrel
    have HM : Hid (m = S / 2 ^ j) := hm
    have hmS : m ≤ S := by rw [hm]; exact Nat.div_le_self _ _
    clear hm
    by_cases hlt : j < k
    · have hji : (j : Int) < (k : Int) := by omega
      go_wp2
      exact ⟨⟨j + 1, m / 2, by omega, by go_num, by go_num, by rw [HM.out, Nat.div_div_eq_div_mul, Nat.pow_succ]⟩, by simp [intOf]; omega⟩
    · obtain rfl : j = k := by omega
      have hji : ¬ (j : Int) < (j : Int) := by omega
      go_wp2
      go_ret
      exact ⟨by rw [HM.out]; rfl, rfl⟩
set_option maxHeartbeats 1000000 in
theorem rin_no (L I S : Nat) (hL : L ≤ 255) (hI : I < 18446744073709551616) (hS : S < 18446744073709551616) (h : wid L I S = 0) (w : World) :
    Calls Tryz.prog 13 #[.int .u8 (L : Int), .int .u64 (I : Int), .int .u64 (S : Int)] w fun e w' => e = .returned (.tuple #[tl 0 0 0, .bool false]) ∧ Nw w w' := by
  by_cases h7 : 7 < L
  · have h7i : (7 : Int) < (L : Int) := by omega
    go_enter Tryz.func13, Tryz.ntmps13
    go_wp2
    (refine bodyPost_ret (results_cell_slot (V := #[.int .u8 0, .int .u64 0, .int .i64 0]) (ty := 26) (f := (0, 0)) Tryz.results13 Tryz.isAgg26 Tryz.sizeOf26 rfl _ rfl ?_ rfl) rfl ⟨rfl, (by repeat first | with_reducible exact nwr w | with_reducible refine Fr.alloc ?_ _ | with_reducible refine Fr.drew ?_ | (with_reducible refine Fr.setCell ?_ _ _ (fun h => ?_); rotate_left; focus (simp only at h; omega)))⟩; (repeat first | with_reducible exact heap_new _ _ | with_reducible exact heap_new _ _ | with_reducible exact heap_next _ _ _ | with_reducible exact heap_third _ _ _ _ | with_reducible refine hp_dr ?_ | (with_reducible refine hp_ne ?_ ?_; focus omega) | (with_reducible refine hp_al ?_ ?_; focus (first | omega | (simp <;> omega))) | with_reducible apply hp_set) <;> rfl)
  by_cases h63 : 9223372036854775808 < S
  · have h7i : ¬ (7 : Int) < (L : Int) := by omega
    have h63i : (9223372036854775808 : Int) < (S : Int) := by omega
    go_enter Tryz.func13, Tryz.ntmps13
    go_wp2
    (refine bodyPost_ret (results_cell_slot (V := #[.int .u8 0, .int .u64 0, .int .i64 0]) (ty := 26) (f := (0, 0)) Tryz.results13 Tryz.isAgg26 Tryz.sizeOf26 rfl _ rfl ?_ rfl) rfl ⟨rfl, (by repeat first | with_reducible exact nwr w | with_reducible refine Fr.alloc ?_ _ | with_reducible refine Fr.drew ?_ | (with_reducible refine Fr.setCell ?_ _ _ (fun h => ?_); rotate_left; focus (simp only at h; omega)))⟩; (repeat first | with_reducible exact heap_new _ _ | with_reducible exact heap_new _ _ | with_reducible exact heap_next _ _ _ | with_reducible exact heap_third _ _ _ _ | with_reducible refine hp_dr ?_ | (with_reducible refine hp_ne ?_ ?_; focus omega) | (with_reducible refine hp_al ?_ ?_; focus (first | omega | (simp <;> omega))) | with_reducible apply hp_set) <;> rfl)
  have hw : min (nod8 L S - I * 256) 256 = 0 := by unfold wid at h; rwa [if_neg (by omega)] at h
  have h7i : ¬ (7 : Int) < (L : Int) := by omega
  have h63i : ¬ (9223372036854775808 : Int) < (S : Int) := by omega
  have q := nodes_any S (8 * L) hS (by omega)
  obtain ⟨N, hN, hNb, ed⟩ := nod_lift L S (by omega)
  have hq : S / 2 ^ (8 * L) = N := by rw [hN]; rfl
  rw [hq, show ((8 * L : Nat) : Int) = 8 * (L : Int) by omega] at q
  rw [← hN] at hw
  have n0 := nwa w (.cells #[.int .u8 0, .int .u64 0, .int .i64 0] 26)
  have b0 := heap_new w (.cells #[.int .u8 0, .int .u64 0, .int .i64 0] 26)
  obtain ⟨w1, hw1⟩ : ∃ q, w.alloc (.cells #[.int .u8 0, .int .u64 0, .int .i64 0] 26) = q := ⟨_, rfl⟩
  rw [hw1] at n0 b0
  clear hN h hq ed
  have hcase : I ≥ N ∨ (¬ I ≥ N ∧ I > 36028797018963968) ∨ (¬ I ≥ N ∧ ¬ I > 36028797018963968 ∧ I * 256 ≥ N) := by omega
  go_enter Tryz.func13, Tryz.ntmps13
  go_wp2_with fail
  refine (q _).mono ?_
  rintro e w2 ⟨rfl, rfl⟩
  obtain ⟨d0, d1, d2⟩ := cell3 b0
  have z0 := frozen_of b0 0
  have z1 := frozen_of b0 1
  have z2 := frozen_of b0 2
  have l0 := heap_lt b0
  clear q hw1
  rcases hcase with hc | ⟨hc, hc2⟩ | ⟨hc, hc2, hc3⟩
  · have hci : (N : Int) ≤ (I : Int) := by omega
    go_wp2
    (refine bodyPost_ret (results_cell_slot (V := #[.int .u8 0, .int .u64 0, .int .i64 0]) (ty := 26) (f := (0, 0)) Tryz.results13 Tryz.isAgg26 Tryz.sizeOf26 rfl _ rfl ?_ rfl) rfl ⟨rfl, (by repeat first | with_reducible exact n0 | with_reducible refine Fr.alloc ?_ _ | with_reducible refine Fr.drew ?_ | (with_reducible refine Fr.setCell ?_ _ _ (fun h => ?_); rotate_left; focus (simp only at h; omega)))⟩; (repeat first | with_reducible exact b0 | with_reducible exact heap_new _ _ | with_reducible exact heap_next _ _ _ | with_reducible exact heap_third _ _ _ _ | with_reducible refine hp_dr ?_ | (with_reducible refine hp_ne ?_ ?_; focus omega) | (with_reducible refine hp_al ?_ ?_; focus (first | omega | (simp <;> omega))) | with_reducible apply hp_set) <;> rfl)
  · have hci : ¬ (N : Int) ≤ (I : Int) := by omega
    have hci2 : (36028797018963968 : Int) < (I : Int) := by omega
    go_wp2
    (refine bodyPost_ret (results_cell_slot (V := #[.int .u8 0, .int .u64 0, .int .i64 0]) (ty := 26) (f := (0, 0)) Tryz.results13 Tryz.isAgg26 Tryz.sizeOf26 rfl _ rfl ?_ rfl) rfl ⟨rfl, (by repeat first | with_reducible exact n0 | with_reducible refine Fr.alloc ?_ _ | with_reducible refine Fr.drew ?_ | (with_reducible refine Fr.setCell ?_ _ _ (fun h => ?_); rotate_left; focus (simp only at h; omega)))⟩; (repeat first | with_reducible exact b0 | with_reducible exact heap_new _ _ | with_reducible exact heap_next _ _ _ | with_reducible exact heap_third _ _ _ _ | with_reducible refine hp_dr ?_ | (with_reducible refine hp_ne ?_ ?_; focus omega) | (with_reducible refine hp_al ?_ ?_; focus (first | omega | (simp <;> omega))) | with_reducible apply hp_set) <;> rfl)
  · have hci : ¬ (N : Int) ≤ (I : Int) := by omega
    have hci2 : ¬ (36028797018963968 : Int) < (I : Int) := by omega
    have hci3 : (N : Int) ≤ (I : Int) * 256 := by omega
    go_wp2
    (refine bodyPost_ret (results_cell_slot (V := #[.int .u8 0, .int .u64 0, .int .i64 0]) (ty := 26) (f := (0, 0)) Tryz.results13 Tryz.isAgg26 Tryz.sizeOf26 rfl _ rfl ?_ rfl) rfl ⟨rfl, (by repeat first | with_reducible exact n0 | with_reducible refine Fr.alloc ?_ _ | with_reducible refine Fr.drew ?_ | (with_reducible refine Fr.setCell ?_ _ _ (fun h => ?_); rotate_left; focus (simp only at h; omega)))⟩; (repeat first | with_reducible exact b0 | with_reducible exact heap_new _ _ | with_reducible exact heap_next _ _ _ | with_reducible exact heap_third _ _ _ _ | with_reducible refine hp_dr ?_ | (with_reducible refine hp_ne ?_ ?_; focus omega) | (with_reducible refine hp_al ?_ ?_; focus (first | omega | (simp <;> omega))) | with_reducible apply hp_set) <;> rfl)
set_option maxHeartbeats 1000000 in
theorem rin_yes (L I S W : Nat) (hI : I < 18446744073709551616) (h : wid L I S = W) (h0 : 0 < W) (w : World) :
    Calls Tryz.prog 13 #[.int .u8 (L : Int), .int .u64 (I : Int), .int .u64 (S : Int)] w fun e w' => e = .returned (.tuple #[tl L I W, .bool true]) ∧ Nw w w' := by
  have hc : ¬ (7 < L ∨ 9223372036854775808 < S) := fun q => by unfold wid at h; rw [if_pos q] at h; omega
  have hw : min (nod8 L S - I * 256) 256 = W := by unfold wid at h; rwa [if_neg hc] at h
  have hL : L ≤ 7 := by omega
  have hS : S ≤ 9223372036854775808 := by omega
  have h7i : ¬ (7 : Int) < (L : Int) := by omega
  have h63i : ¬ (9223372036854775808 : Int) < (S : Int) := by omega
  have q := nodes_any S (8 * L) (by omega) (by omega)
  obtain ⟨N, hN, hNb, ed⟩ := nod_lift L S hS
  have hq : S / 2 ^ (8 * L) = N := by rw [hN]; rfl
  rw [hq, show ((8 * L : Nat) : Int) = 8 * (L : Int) by omega] at q
  rw [← hN] at hw
  obtain ⟨D, hD⟩ : ∃ D, D = N - I * 256 := ⟨_, rfl⟩
  have eD : (N : Int) - (I : Int) * 256 = (D : Int) := by omega
  rw [← hD] at hw
  have hmin : min (256 : Int) (D : Int) = (W : Int) := by omega
  have hci : ¬ (N : Int) ≤ (I : Int) := by omega
  have hci2 : ¬ (36028797018963968 : Int) < (I : Int) := by omega
  have hci3 : ¬ (N : Int) ≤ (I : Int) * 256 := by omega
  have hDb : D ≤ 9223372036854775808 := by omega
  have hWb : W ≤ 256 := by omega
  have n0 := nwa w (.cells #[.int .u8 0, .int .u64 0, .int .i64 0] 26)
  have b0 := heap_new w (.cells #[.int .u8 0, .int .u64 0, .int .i64 0] 26)
  obtain ⟨w1, hw1⟩ : ∃ q, w.alloc (.cells #[.int .u8 0, .int .u64 0, .int .i64 0] 26) = q := ⟨_, rfl⟩
  rw [hw1] at n0 b0
  clear hN h hq ed hc hw hD
  go_enter Tryz.func13, Tryz.ntmps13
  go_wp2_with fail
  refine (q _).mono ?_
  rintro e w2 ⟨rfl, rfl⟩
  obtain ⟨d0, d1, d2⟩ := cell3 b0
  have z0 := frozen_of b0 0
  have z1 := frozen_of b0 1
  have z2 := frozen_of b0 2
  have l0 := heap_lt b0
  clear q hw1
  go_wp2
  (refine bodyPost_ret (results_cell_slot (V := #[.int .u8 (L : Int), .int .u64 (I : Int), .int .i64 (W : Int)]) (ty := 26) (f := (0, 0)) Tryz.results13 Tryz.isAgg26 Tryz.sizeOf26 rfl _ rfl ?_ rfl) rfl ⟨rfl, (by repeat first | with_reducible exact n0 | with_reducible refine Fr.alloc ?_ _ | with_reducible refine Fr.drew ?_ | (with_reducible refine Fr.setCell ?_ _ _ (fun h => ?_); rotate_left; focus (simp only at h; omega)))⟩; (repeat first | with_reducible exact b0 | with_reducible exact heap_new _ _ | with_reducible exact heap_next _ _ _ | with_reducible exact heap_third _ _ _ _ | with_reducible refine hp_dr ?_ | (with_reducible refine hp_ne ?_ ?_; focus omega) | (with_reducible refine hp_al ?_ ?_; focus (first | omega | (simp <;> omega))) | with_reducible apply hp_set) <;> rfl)
end Go.Proofs.YtlgokcijmhkdiaaGreatDoor
