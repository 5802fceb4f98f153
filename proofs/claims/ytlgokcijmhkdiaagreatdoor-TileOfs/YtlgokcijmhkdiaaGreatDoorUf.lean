/- tile: the document's Of; TileOfs. -/
import Derived.Test.YtlgokcijmhkdiaaGreatDoorUd
namespace Go.Proofs.YtlgokcijmhkdiaaGreatDoor
open Go.RowKit
set_option linter.unusedVariables false
set_option linter.unusedSimpArgs false
set_option maxHeartbeats 1000000 in
theorem fits_any (n k : Nat) (hn : n ≤ 9223372036854775808) (hk : k ≤ 1000) (b : Bool) (hb : b = true ↔ n * 2 ^ k ≤ 9223372036854775808) (w : World) :
    Calls Tryz.prog 103 #[.int .u64 (n : Int), .int .u64 (k : Int)] w fun e w' => e = .returned (.bool b) ∧ w' = w := by
  have HB : Hid (b = true ↔ n * 2 ^ k ≤ 9223372036854775808) := hb
  clear hb
  go_enter Tryz.func103, Tryz.ntmps103
  go_wp2
  go_loop [0, 5] (fun s i => ∃ j m : Nat, j ≤ k ∧ i = .int .u64 (j : Int) ∧ s = .int .u64 (m : Int) ∧ m = n * 2 ^ j ∧ m ≤ 9223372036854775808) (fun _ i => k - (intOf i).toNat)
  case atStart => exact ⟨0, n, by omega, rfl, rfl, by simp, hn⟩
  case round =>
    obtain ⟨j, m, hj, rfl, rfl, hm, hmb⟩ := hrel
    have HM : Hid (m = n * 2 ^ j) := hm
    clear hm
    by_cases hlt : j < k
    · have hji : (j : Int) < (k : Int) := by omega
      by_cases hbig : 4611686018427387904 < m
      · have hbi : (4611686018427387904 : Int) < (m : Int) := by omega
        have hbf : b = false := by
          cases b with
          | false => rfl
          | true =>
            have h1 := HB.out.1 rfl
            have h2 : n * 2 ^ (j + 1) ≤ n * 2 ^ k := Nat.mul_le_mul_left _ (Nat.pow_le_pow_right (by decide) hlt)
            rw [Nat.pow_succ, ← Nat.mul_assoc, ← HM.out] at h2
            omega
        subst hbf
        go_wp2
        go_ret
        exact ⟨rfl, rfl⟩
      · have hbi : ¬ (4611686018427387904 : Int) < (m : Int) := by omega
        go_wp2
        exact ⟨⟨j + 1, 2 * m, by omega, by go_num, by go_num, by rw [HM.out, Nat.pow_succ]; rw [Nat.mul_comm 2, Nat.mul_assoc], by omega⟩, by simp [intOf]; omega⟩
    · obtain rfl : j = k := by omega
      have hji : ¬ (j : Int) < (j : Int) := by omega
      have hmi : (m : Int) ≤ 9223372036854775808 := by omega
      obtain rfl : b = true := HB.out.2 (by rw [← HM.out]; exact hmb)
      go_wp2
      go_ret
      exact ⟨rfl, rfl⟩
set_option maxHeartbeats 1000000 in
theorem whole_any (L I : Nat) (hL : L ≤ 255) (hI : I < 18446744073709551616) (b : Bool) (hb : b = true ↔ may L I) (w : World) :
    Calls Tryz.prog 36 #[cd L I] w fun e w' => e = .returned (.bool b) ∧ Nw w w' := by
  have HB : Hid (b = true ↔ may L I) := hb
  clear hb
  have hf : ¬ (L ≤ 63 ∧ I < 9223372036854775808) → b = false := fun h => by
    cases b with
    | false => rfl
    | true =>
      have h1 := HB.out.1 rfl
      have h2 := may_bd h1
      rw [p63] at h2
      exact absurd ⟨h1.1, by omega⟩ h
  by_cases h63 : L ≤ 63
  · have h63i : (L : Int) ≤ 63 := by omega
    by_cases hI63 : I < 9223372036854775808
    · have hIi : (I : Int) < 9223372036854775808 := by omega
      have q := fits_any (I + 1) L (by omega) (by omega) b (by rw [HB.out]; unfold may; rw [p63]; exact ⟨fun h => h.2, fun h => ⟨h63, h⟩⟩)
      rw [show ((I + 1 : Nat) : Int) = (I : Int) + 1 by omega] at q
      clear hf
      go_enter Tryz.func36, Tryz.ntmps36
      go_wp2_with fail
      refine (q _).mono ?_
      rintro e w1 ⟨rfl, rfl⟩
      go_wp2
      go_ret
      exact ⟨rfl, nwa w _⟩
    · have hIi : ¬ (I : Int) < 9223372036854775808 := by omega
      obtain rfl := hf (fun h => hI63 h.2)
      clear hf
      go_enter Tryz.func36, Tryz.ntmps36
      go_wp2
      go_ret
      exact ⟨rfl, nwa w _⟩
  · have h63i : ¬ (L : Int) ≤ 63 := by omega
    obtain rfl := hf (fun h => h63 h.1)
    clear hf
    go_enter Tryz.func36, Tryz.ntmps36
    go_wp2
    go_ret
    exact ⟨rfl, nwa w _⟩
set_option maxHeartbeats 1000000 in
theorem rof_no (L I : Nat) (h : ¬ may L I) (hL : L ≤ 255) (hI : I < 18446744073709551616) (w : World) :
    Calls Tryz.prog 10 #[cd L I] w fun e w' => e = .returned (.tuple #[tl 0 0 0, .int .i64 0, .int .i64 0, .bool false]) ∧ Nw w w' := by
  go_enter Tryz.func10, Tryz.ntmps10
  go_wp2_with fail
  refine (whole_any L I hL hI false (by simp [h]) _).mono ?_
  rintro e w1 ⟨rfl, n1⟩
  obtain ⟨⟨l0, l1⟩, b0, b1, n2⟩ := two_made n1
  obtain ⟨d0, d1, d2⟩ := cell3 b1
  have z0 := frozen_of b1 0
  have z1 := frozen_of b1 1
  have z2 := frozen_of b1 2
  clear n1
  go_wp2
  refine bodyPost_ret (results_cell_3 (V := #[.int .u8 0, .int .u64 0, .int .i64 0]) (ty := 26) (f := (0, 0)) Tryz.results10 Tryz.isAgg26 Tryz.sizeOf26 rfl _ _ _ rfl rfl rfl ?_ rfl) rfl ⟨rfl, (by repeat first | with_reducible exact n2 | with_reducible refine Fr.alloc ?_ _ | with_reducible refine Fr.drew ?_ | (with_reducible refine Fr.setCell ?_ _ _ (fun h => ?_); rotate_left; focus (simp only at h; omega)))⟩
  (repeat first | with_reducible exact b1 | with_reducible exact heap_new _ _ | with_reducible exact heap_next _ _ _ | with_reducible exact heap_third _ _ _ _ | with_reducible refine hp_dr ?_ | (with_reducible refine hp_ne ?_ ?_; focus omega) | (with_reducible refine hp_al ?_ ?_; focus (first | omega | (simp <;> omega))) | with_reducible apply hp_set) <;> rfl
set_option maxHeartbeats 2000000 in
theorem rof_yes (L I : Nat) (h : may L I) (w : World) :
    Calls Tryz.prog 10 #[cd L I] w fun e w' => e = .returned (.tuple #[tl (L / 8) (ofA L I / 256) (ofW L), .int .i64 ((ofA L I % 256 : Nat) : Int), .int .i64 ((2 ^ (L % 8) : Nat) : Int), .bool true]) ∧ Nw w w' := by
  have hL := h.1
  have hb := ofA_bd h
  have hI := may_bd h
  rw [p63] at hI
  have hp := pow8 (L % 8) (by omega)
  have QW : Hid (∀ V, Calls Tryz.prog 36 #[cd L I] V fun e w' => e = .returned (.bool true) ∧ Nw V w') := fun V => whole_any L I (by omega) (by omega) true (by simp [h]) V
  obtain ⟨W, hW⟩ : ∃ W, W = ofW L := ⟨_, rfl⟩
  have HW : Hid (W = if L / 8 = 7 then 128 else 256) := hW
  obtain ⟨A, hA⟩ : ∃ A, A = ofA L I := ⟨_, rfl⟩
  obtain ⟨C, hC⟩ : ∃ C, C = 2 ^ (L % 8) := ⟨_, rfl⟩
  have HC : Hid (C = 2 ^ (L % 8)) := hC
  have hAC : A = I * C := by rw [hA, hC]; rfl
  have HAC : Hid (A = I * C) := hAC
  rw [← hW, ← hA, ← hC]
  rw [← hA] at hb
  rw [← hC] at hp
  obtain ⟨J, hJ⟩ : ∃ J, J = L % 8 := ⟨_, rfl⟩
  have HJ : Hid (J = L % 8) := hJ
  have hJ8 : J < 8 := by omega
  have eJ : (L : Int) % 8 = (J : Int) := by omega
  clear hW hA hC h hAC hJ
  go_enter Tryz.func10, Tryz.ntmps10
  go_wp2_with fail
  refine (QW.out _).mono ?_
  rintro e w1 ⟨rfl, n1⟩
  obtain ⟨⟨l0, l1⟩, b0, b1, n2⟩ := two_made n1
  have c0 := cell2a b0
  have c1 := cell2b b0
  have B1 : Hid (w1.heap[w.heap.size + 1]? = some (.cells #[.int .u8 0, .int .u64 0, .int .i64 0] 26)) := b1
  have N2 : Hid (Nw w w1) := n2
  clear n1 b0 b1 n2
  go_wp2
  go_loop [6, 7] (fun s i => ∃ j m : Nat, j ≤ J ∧ i = .int .u8 (j : Int) ∧ s = .int .u64 (m : Int) ∧ m = 2 ^ j ∧ m ≤ 128) (fun _ i => J - (intOf i).toNat)
  case atStart => exact ⟨0, 1, by omega, rfl, rfl, rfl, by omega⟩
  case round =>
    obtain ⟨j, m, hj, rfl, rfl, hm, hmb⟩ := hrel
    have HM : Hid (m = 2 ^ j) := hm
    clear hm
    by_cases hlt : j < J
    · have hji : (j : Int) < (J : Int) := by omega
      have hp2 := (pow8 (j + 1) (by omega)).1
      have HP2 : Hid (2 ^ (j + 1) ≤ 128) := hp2
      clear hp2
      go_wp2
      exact ⟨⟨j + 1, 2 * m, by omega, by go_num, by go_num, by rw [HM.out, Nat.pow_succ, Nat.mul_comm], by have := HP2.out; rw [Nat.pow_succ, ← HM.out] at this; omega⟩, by simp [intOf]; omega⟩
    · have hjJ : j = J := by omega
      have hmC : m = C := by rw [HM.out, HC.out, hjJ, HJ.out]
      subst hjJ
      subst hmC
      have hji : ¬ (j : Int) < (j : Int) := by omega
      have eA : (I : Int) * (m : Int) = (A : Int) := by rw [HAC.out]; exact (Int.natCast_mul _ _).symm
      have hb1 := B1.out
      have hn2 := N2.out
      obtain ⟨d0, d1, d2⟩ := cell3 hb1
      have z0 := frozen_of hb1 0
      have z1 := frozen_of hb1 1
      have z2 := frozen_of hb1 2
      by_cases h7 : L / 8 = 7
      · have h7i : ((L : Int) / 8 == 7) = true := by simp only [beq_iff_eq]; omega
        obtain rfl : W = 128 := by rw [HW.out, if_pos h7]
        clear h7
        go_wp2
        refine bodyPost_ret (results_cell_3 (V := #[.int .u8 ((L : Int) / 8), .int .u64 ((A : Int) / 256), .int .i64 128]) (ty := 26) (f := (0, 0)) Tryz.results10 Tryz.isAgg26 Tryz.sizeOf26 rfl _ _ _ rfl rfl rfl ?_ rfl) rfl ⟨rfl, (by repeat first | with_reducible exact hn2 | with_reducible refine Fr.alloc ?_ _ | with_reducible refine Fr.drew ?_ | (with_reducible refine Fr.setCell ?_ _ _ (fun h => ?_); rotate_left; focus (simp only at h; omega)))⟩
        (repeat first | with_reducible exact hb1 | with_reducible exact heap_new _ _ | with_reducible exact heap_next _ _ _ | with_reducible exact heap_third _ _ _ _ | with_reducible refine hp_dr ?_ | (with_reducible refine hp_ne ?_ ?_; focus omega) | (with_reducible refine hp_al ?_ ?_; focus (first | omega | (simp <;> omega))) | with_reducible apply hp_set) <;> rfl
      · have h7i : ((L : Int) / 8 == 7) = false := by simp only [beq_eq_false_iff_ne, ne_eq]; omega
        obtain rfl : W = 256 := by rw [HW.out, if_neg h7]
        clear h7
        go_wp2
        refine bodyPost_ret (results_cell_3 (V := #[.int .u8 ((L : Int) / 8), .int .u64 ((A : Int) / 256), .int .i64 256]) (ty := 26) (f := (0, 0)) Tryz.results10 Tryz.isAgg26 Tryz.sizeOf26 rfl _ _ _ rfl rfl rfl ?_ rfl) rfl ⟨rfl, (by repeat first | with_reducible exact hn2 | with_reducible refine Fr.alloc ?_ _ | with_reducible refine Fr.drew ?_ | (with_reducible refine Fr.setCell ?_ _ _ (fun h => ?_); rotate_left; focus (simp only at h; omega)))⟩
        (repeat first | with_reducible exact hb1 | with_reducible exact heap_new _ _ | with_reducible exact heap_next _ _ _ | with_reducible exact heap_third _ _ _ _ | with_reducible refine hp_dr ?_ | (with_reducible refine hp_ne ?_ ?_; focus omega) | (with_reducible refine hp_al ?_ ?_; focus (first | omega | (simp <;> omega))) | with_reducible apply hp_set) <;> rfl
set_option maxRecDepth 100000 in
set_option maxHeartbeats 1000000 in
theorem ofs_any (L I : Nat) (hL : L ≤ 255) (hI : I < 18446744073709551616) (w : World) (hP : TX.Pow w) (hM : MaxL w) {B : Nat} {a : Nat → Addr} (hSe : Sent B w a) :
    Calls Tryz.prog 3 #[cd L I] w fun e w' => e = .returned (.bool true) ∧ Nw w w' := by
  obtain ⟨x, y, z, p, q, ok, h1, h2⟩ : ∃ (x y z p q : Nat) (ok : Bool), (∀ V, Calls Tryz.prog 9 #[cd L I] V fun e w' => e = .returned (.tuple #[tl x y z, .int .i64 (p : Int), .int .i64 (q : Int), .bool ok]) ∧ Nw V w') ∧ (∀ V, Calls Tryz.prog 10 #[cd L I] V fun e w' => e = .returned (.tuple #[tl x y z, .int .i64 (p : Int), .int .i64 (q : Int), .bool ok]) ∧ Nw V w') := by
    by_cases h : may L I
    · exact ⟨_, _, _, _, _, true, tof_yes L I h, rof_yes L I h⟩
    · exact ⟨0, 0, 0, 0, 0, false, tof_no L I h hL hI, rof_no L I h hL hI⟩
  have Q1 := show Hid _ from h1
  have Q2 := show Hid _ from h2
  have QV : Hid (∀ V, Nw w V → Calls Tryz.prog 11 #[] V fun e w' => e = .returned (.bool true) ∧ Nw V w') := fun V nV => lives_any V (hP.fr nV) (hM.nw nV) (hSe.fr nV (fun _ _ f => f))
  clear h1 h2 hP hM hSe
  go_enter Tryz.func3, Tryz.ntmps3
  go_wp2_with fail
  refine (Q1.out _).mono ?_
  rintro e w1 ⟨rfl, n1⟩
  obtain ⟨l0, b0, m1⟩ := one_made n1
  have B0 : Hid (w1.heap[w.heap.size]? = some (.cells #[.int .u8 (L : Int), .int .u64 (I : Int)] 24)) := b0
  have N1 : Hid (Nw w w1) := m1
  have e0 := cell2a b0
  have e1 := cell2b b0
  clear n1 b0 m1
  go_wp2_with fail
  refine (Q2.out _).mono ?_
  rintro e w2 ⟨rfl, n2⟩
  obtain ⟨l1, b1, m2⟩ := one_made n2
  have N2 : Hid (Nw w w2) := N1.out.tr m2
  obtain ⟨c0, c1, c2⟩ := cell3 b1
  clear n2 m2 N1 e0 e1 l0
  go_wp2_with fail
  refine (QV.out _ (N2.out.alloc _)).mono ?_
  rintro e w3 ⟨rfl, n3⟩
  go_wp2
  go_ret
  exact ⟨rfl, N2.out.tr ((nwa w2 _).tr n3)⟩
end Go.Proofs.YtlgokcijmhkdiaaGreatDoor
