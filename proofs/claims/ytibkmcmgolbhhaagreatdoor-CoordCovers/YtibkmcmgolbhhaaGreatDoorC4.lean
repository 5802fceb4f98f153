/- The greatest tree at a stretch's beginning; Of. -/
import Derived.Test.YtibkmcmgolbhhaaGreatDoorC3
namespace Go.Proofs.YtibkmcmgolbhhaaGreatDoor
open Go.RowKit
set_option linter.unusedVariables false
set_option linter.unusedSimpArgs false

theorem ones_pow : ∀ (f a : Nat), a < 2 ^ f → ∀ k, k ≤ ones f (2 ^ f - 1 - a) ↔ k ≤ f ∧ 2 ^ k ∣ a
  | 0, a, h, k => by
    have : a = 0 := by simpa using h
    subst this
    simp [ones]
  | f + 1, a, h, k => by
    have hs : 2 ^ (f + 1) = 2 * 2 ^ f := Nat.pow_succ'
    have hp := Nat.two_pow_pos f
    rw [hs] at h ⊢
    have ih := ones_pow f (a / 2) (by omega)
    have e : (2 * 2 ^ f - 1 - a) / 2 = 2 ^ f - 1 - a / 2 := by omega
    cases k with
    | zero => simp
    | succ k =>
      by_cases h1 : a % 2 = 0
      · have r : ones (f + 1) (2 * 2 ^ f - 1 - a) = 1 + ones f ((2 * 2 ^ f - 1 - a) / 2) := if_pos (by omega)
        rw [r, e]
        have := ih k
        have hd : 2 ^ (k + 1) ∣ a ↔ 2 ^ k ∣ a / 2 := by
          have ha : a = 2 * (a / 2) := by omega
          rw [Nat.pow_succ', ha, Nat.mul_div_cancel_left _ (by decide : 0 < 2)]
          exact Nat.mul_dvd_mul_iff_left (by decide)
        rw [hd]
        omega
      · have r : ones (f + 1) (2 * 2 ^ f - 1 - a) = 0 := if_neg (by omega)
        rw [r]
        constructor
        · intro hk; omega
        · rintro ⟨_, hk⟩
          exfalso
          have : 2 ^ 1 ∣ a := Nat.dvd_trans (Nat.pow_dvd_pow 2 (by omega)) hk
          omega
/-- The level, as the program reckons it. -/
theorem isW_min (b e k : Nat) (hb : b < e) (he : e ≤ 9223372036854775808) (h1 : 2 ^ k ≤ e - b) (h2 : e - b < 2 * 2 ^ k) : IsW b e (min (ones 64 (18446744073709551615 - b)) k) := by
  have hones := ones_pow 64 b (by have : (2 : Nat) ^ 64 = 18446744073709551616 := by decide
                                  omega)
  have e64 : 2 ^ 64 - 1 - b = 18446744073709551615 - b := rfl
  rw [e64] at hones
  have hk63 : k ≤ 63 := pow_le_inv (by rw [p63]; omega)
  have hs2 : 2 ^ (k + 1) = 2 * 2 ^ k := Nat.pow_succ'
  obtain ⟨o, ho⟩ : ∃ o, o = ones 64 (18446744073709551615 - b) := ⟨_, rfl⟩
  rw [← ho] at hones ⊢
  refine ⟨⟨((hones _).1 (Nat.min_le_left _ _)).2, ?_⟩, ?_⟩
  · have := pow_le2 (Nat.min_le_right o k)
    omega
  · rintro ⟨d1, d2⟩
    rcases Nat.le_total o k with h | h
    · rw [Nat.min_eq_left h] at d1 d2
      have := (hones (o + 1)).2 ⟨by omega, d1⟩
      omega
    · rw [Nat.min_eq_right h] at d2
      omega

theorem TabAt.nw {w w' : World} (h : TabAt w) (n : Nw w w') : TabAt w' := fun j hj => n.cellOf (h j hj)

set_option maxHeartbeats 2000000 in
theorem widest_any (b e L : Nat) (hL : IsW b e L) (he : e ≤ 9223372036854775808) (w : World) (hT : TabAt w) :
    Calls Tryz.prog 14 #[sp b e] w fun x w' => x = .returned (cd L (b / 2 ^ L)) ∧ Nw w w' := by
  have hlt : b < e := by have := hL.1.2; have := Nat.two_pow_pos L; omega
  obtain ⟨k, hk, k1, k2⟩ := top_of (e - b) (by omega) (by omega)
  have hmin := isW_uniq (isW_min b e k hlt he k1 k2) hL
  have hL63 := isW_le hL (by rw [p63]; exact he)
  have hno := not_u64 b (by omega) (by omega)
  obtain ⟨o, ho⟩ : ∃ o, o = ones 64 (18446744073709551615 - b) := ⟨_, rfl⟩
  rw [← ho] at hmin
  have ho64 : o ≤ 64 := by rw [ho]; exact ones_le _ _
  have HO : Hid (o = ones 64 (18446744073709551615 - b)) := ho
  have HL : Hid (IsW b e L) := hL
  have HM : Hid (min o k = L) := hmin
  have HK : Hid (2 ^ k ≤ e - b ∧ e - b < 2 * 2 ^ k) := ⟨k1, k2⟩
  have HT : Hid (TabAt w) := hT
  clear hL ho k1 k2 hmin hT
  go_enter Tryz.func14, Tryz.ntmps14
  go_wp2_with fail
  have q1 := ones_any (18446744073709551615 - (b : Int)) ((w.alloc (.cells #[.int .u64 (b : Int), .int .u64 (e : Int)] 24)).alloc (.cells #[.int .u8 0, .int .u64 0] 59)) (by omega) (by omega) (HT.out.nw ((nwa w _).alloc _))
  have t1 : (18446744073709551615 - (b : Int)).toNat = 18446744073709551615 - b := by omega
  rw [t1, ← HO.out] at q1
  refine q1.mono ?_
  rintro x w1 ⟨rfl, rfl⟩
  clear q1 t1
  go_wp2_with fail
  have q2 := log_of ((e : Int) - (b : Int) + 1) k ((w.alloc (.cells #[.int .u64 (b : Int), .int .u64 (e : Int)] 24)).alloc (.cells #[.int .u8 0, .int .u64 0] 59)) hk (by have := HK.out; have := pow_cast k; omega) (by have := HK.out; have := pow_cast k; omega)
  refine q2.mono ?_
  rintro x w1 ⟨rfl, rfl⟩
  clear q2
  go_wp2
  have hm : min (o : Int) (k : Int) = (L : Int) := by have := HM.out; omega
  (refine bodyPost_ret (results_cell (V := #[.int .u8 (min (o : Int) (k : Int)), .int .u64 ((b : Int) / 2 ^ (min (o : Int) (k : Int)).toNat)]) (ty := 59) (f := (0, 0)) Tryz.results14 Tryz.isAgg59 Tryz.sizeOf59 rfl ?_ rfl) rfl ⟨by rw [hm, Int.toNat_natCast, castd], (by repeat first | with_reducible exact nwr w | with_reducible refine Fr.alloc ?_ _ | with_reducible refine Fr.drew ?_ | (with_reducible refine Fr.setCell ?_ _ _ (fun h => ?_); rotate_left; focus (simp only at h; omega)))⟩; (repeat first | with_reducible exact heap_next w _ _ | with_reducible exact heap_new _ _ | with_reducible exact heap_next _ _ _ | with_reducible exact heap_third _ _ _ _ | with_reducible refine hp_dr ?_ | (with_reducible refine hp_ne ?_ ?_; focus omega) | (with_reducible refine hp_al ?_ ?_; focus (first | omega | (simp <;> omega))) | with_reducible apply hp_set) <;> rfl)

theorem isW_tree {L I : Nat} : IsW (I * 2 ^ L) ((I + 1) * 2 ^ L) L := by
  have e : (I + 1) * 2 ^ L = I * 2 ^ L + 2 ^ L := by rw [Nat.add_mul, Nat.one_mul]
  rw [e]
  have hp := Nat.two_pow_pos L
  refine ⟨⟨⟨I, Nat.mul_comm _ _⟩, Nat.le_refl _⟩, fun h => ?_⟩
  have := h.2
  have : 2 ^ (L + 1) = 2 * 2 ^ L := Nat.pow_succ'
  omega
theorem sp_ne {a b c d : Int} (h : ¬ (a = c ∧ b = d)) : (a == c && b == d) = false := by
  rw [Bool.and_eq_false_iff]
  simp only [beq_eq_false_iff_ne, ne_eq]
  omega

set_option maxHeartbeats 2000000 in
theorem of_yes (L I : Nat) (h : may L I) (w : World) (hT : TabAt w) :
    Calls Tryz.prog 67 #[sp (I * 2 ^ L) ((I + 1) * 2 ^ L)] w fun x w' => x = .returned (.tuple #[cd L I, .bool true]) ∧ Nw w w' := by
  have hW : IsW (I * 2 ^ L) ((I + 1) * 2 ^ L) L := isW_tree
  have hd : I * 2 ^ L / 2 ^ L = I := Nat.mul_div_cancel _ (Nat.two_pow_pos L)
  have he := h.2
  rw [p63] at he
  have hbe : I * 2 ^ L < (I + 1) * 2 ^ L := by have := hW.1.2; have := Nat.two_pow_pos L; omega
  have H : Hid (may L I) := h
  obtain ⟨b, hb⟩ : ∃ b, b = I * 2 ^ L := ⟨_, rfl⟩
  obtain ⟨e, hee⟩ : ∃ e, e = (I + 1) * 2 ^ L := ⟨_, rfl⟩
  have hsp := fun w => span_yes L I h w
  rw [← hb] at hW hd hbe hsp ⊢
  rw [← hee] at hW he hbe hsp ⊢
  have HD : Hid (b / 2 ^ L = I) := hd
  have HW : Hid (IsW b e L) := hW
  have HT : Hid (TabAt w) := hT
  clear hb hee hd hW hT h
  have hne : ((b : Int) == (e : Int)) = false := by simp; omega
  go_enter Tryz.func67, Tryz.ntmps67
  go_wp2_with fail
  refine (smb b e true (by simp; omega) (by omega) (by omega) _).mono ?_
  rintro x w1 ⟨rfl, n1⟩
  obtain ⟨⟨l0, l1⟩, b0, b1, n2⟩ := two_made n1
  have c0 := cell2a b0
  have c1 := cell2b b0
  clear n1
  go_wp2_with fail
  refine (widest_any b e L HW.out he w1 (HT.out.nw n2)).mono ?_
  rintro x w2 ⟨rfl, n3⟩
  rw [HD.out]
  have l0' := Nat.lt_of_lt_of_le l0 n3.size
  have l1' := Nat.lt_of_lt_of_le l1 n3.size
  have b0' := (n3.block _ l0 (fun f => f)).trans b0
  have b1' := (n3.block _ l1 (fun f => f)).trans b1
  have n4 : Nw w w2 := n2.tr n3
  clear c0 c1 b0 b1 n3 n2 l0 l1
  go_wp2_with fail
  refine (hsp _).mono ?_
  rintro x w3 ⟨rfl, n5⟩
  obtain ⟨l2, b2, n6⟩ := one_made n5
  have l0 := Nat.lt_of_lt_of_le l0' n6.size
  have l1 := Nat.lt_of_lt_of_le l1' n6.size
  have b0 := (n6.block _ l0' (fun f => f)).trans b0'
  have b1 := (n6.block _ l1' (fun f => f)).trans b1'
  have n7 : Nw w w3 := n4.tr n6
  clear b0' b1' n4 n5 n6 hsp
  have hw2 : w2.heap.size ≠ w.heap.size := by omega
  have hw3 : w2.heap.size ≠ w.heap.size + 1 := by omega
  clear l0' l1'
  have c0 := cell2a b0
  have c1 := cell2b b0
  have d0 := cell2a b1
  have d1 := cell2b b1
  have z0 := frozen_of b1 0
  have z1 := frozen_of b1 1
  have g0 := cell2a b2
  have g1 := cell2b b2
  go_wp2
  (refine bodyPost_ret (results_cell_slot (V := #[.int .u8 (L : Int), .int .u64 (I : Int)]) (ty := 59) (f := (0, 0)) Tryz.results67 Tryz.isAgg59 Tryz.sizeOf59 rfl _ rfl ?_ rfl) rfl ⟨rfl, (by repeat first | with_reducible exact n7 | with_reducible refine Fr.alloc ?_ _ | with_reducible refine Fr.drew ?_ | (with_reducible refine Fr.setCell ?_ _ _ (fun h => ?_); rotate_left; focus (simp only at h; omega)))⟩; (repeat first | with_reducible exact b1 | with_reducible exact heap_new _ _ | with_reducible exact heap_next _ _ _ | with_reducible exact heap_third _ _ _ _ | with_reducible refine hp_dr ?_ | (with_reducible refine hp_ne ?_ ?_; focus omega) | (with_reducible refine hp_al ?_ ?_; focus (first | omega | (simp <;> omega))) | with_reducible apply hp_set) <;> rfl)

set_option maxHeartbeats 2000000 in
theorem of_no (b e : Nat) (h : ∀ L I, may L I → ¬ (b = I * 2 ^ L ∧ e = (I + 1) * 2 ^ L)) (hb : b < 18446744073709551616) (he : e < 18446744073709551616) (w : World) (hT : TabAt w) :
    Calls Tryz.prog 67 #[sp b e] w fun x w' => x = .returned (.tuple #[cd 0 0, .bool false]) ∧ Nw w w' := by
  have H : Hid (∀ L I, may L I → ¬ (b = I * 2 ^ L ∧ e = (I + 1) * 2 ^ L)) := h
  have HT : Hid (TabAt w) := hT
  clear h hT
  by_cases hs : b ≤ e ∧ e ≤ 9223372036854775808
  · by_cases hq : b = e
    · subst hq
      go_enter Tryz.func67, Tryz.ntmps67
      go_wp2_with fail
      refine (smb b b true (by simp; omega) (by omega) (by omega) _).mono ?_
      rintro x w1 ⟨rfl, n1⟩
      obtain ⟨⟨l0, l1⟩, b0, b1, n2⟩ := two_made n1
      have c0 := cell2a b0
      have c1 := cell2b b0
      have d0 := cell2a b1
      have d1 := cell2b b1
      have z0 := frozen_of b1 0
      have z1 := frozen_of b1 1
      clear n1
      go_wp2
      (refine bodyPost_ret (results_cell_slot (V := #[.int .u8 0, .int .u64 0]) (ty := 59) (f := (0, 0)) Tryz.results67 Tryz.isAgg59 Tryz.sizeOf59 rfl _ rfl ?_ rfl) rfl ⟨rfl, (by repeat first | with_reducible exact n2 | with_reducible refine Fr.alloc ?_ _ | with_reducible refine Fr.drew ?_ | (with_reducible refine Fr.setCell ?_ _ _ (fun h => ?_); rotate_left; focus (simp only at h; omega)))⟩; (repeat first | with_reducible exact b1 | with_reducible exact heap_new _ _ | with_reducible exact heap_next _ _ _ | with_reducible exact heap_third _ _ _ _ | with_reducible refine hp_dr ?_ | (with_reducible refine hp_ne ?_ ?_; focus omega) | (with_reducible refine hp_al ?_ ?_; focus (first | omega | (simp <;> omega))) | with_reducible apply hp_set) <;> rfl)
    · have hlt : b < e := by omega
      obtain ⟨L, hL⟩ : ∃ L, L = lev b e := ⟨_, rfl⟩
      have hW := lev_is hlt
      rw [← hL] at hW
      have hmay := isW_may hW (by rw [p63]; exact hs.2)
      have hdv : b / 2 ^ L * 2 ^ L = b := Nat.div_mul_cancel hW.1.1
      have hne2 : ¬ e = b + 2 ^ L := fun k => H.out L (b / 2 ^ L) hmay ⟨hdv.symm, by rw [Nat.add_mul, Nat.one_mul, hdv]; exact k⟩
      have hsp := fun w => span_yes L (b / 2 ^ L) hmay w
      have e3 : (b / 2 ^ L + 1) * 2 ^ L = b + 2 ^ L := by rw [Nat.add_mul, Nat.one_mul, hdv]
      rw [hdv, e3] at hsp
      have HW : Hid (IsW b e L) := hW
      obtain ⟨I, hI⟩ : ∃ I, I = b / 2 ^ L := ⟨_, rfl⟩
      obtain ⟨e', he'⟩ : ∃ e', e' = b + 2 ^ L := ⟨_, rfl⟩
      rw [← he'] at hsp hne2
      have hle := hW.1.2
      have HI : Hid (I = b / 2 ^ L) := hI
      rw [← hI] at hsp
      have hen : ((e' : Int) == (e : Int)) = false := by simp; omega
      clear hL hW hmay hdv e3 hI he' hle hne2
      have hne : ((b : Int) == (e : Int)) = false := by simp; omega
      go_enter Tryz.func67, Tryz.ntmps67
      go_wp2_with fail
      refine (smb b e true (by simp; omega) (by omega) (by omega) _).mono ?_
      rintro x w1 ⟨rfl, n1⟩
      obtain ⟨⟨l0, l1⟩, b0, b1, n2⟩ := two_made n1
      have c0 := cell2a b0
      have c1 := cell2b b0
      clear n1
      go_wp2_with fail
      refine (widest_any b e L HW.out hs.2 w1 (HT.out.nw n2)).mono ?_
      rintro x w2 ⟨rfl, n3⟩
      rw [← HI.out]
      have l0' := Nat.lt_of_lt_of_le l0 n3.size
      have l1' := Nat.lt_of_lt_of_le l1 n3.size
      have b0' := (n3.block _ l0 (fun f => f)).trans b0
      have b1' := (n3.block _ l1 (fun f => f)).trans b1
      have n4 : Nw w w2 := n2.tr n3
      clear c0 c1 b0 b1 n3 n2 l0 l1
      go_wp2_with fail
      refine (hsp _).mono ?_
      rintro x w3 ⟨rfl, n5⟩
      obtain ⟨l2, b2, n6⟩ := one_made n5
      have l0 := Nat.lt_of_lt_of_le l0' n6.size
      have l1 := Nat.lt_of_lt_of_le l1' n6.size
      have b0 := (n6.block _ l0' (fun f => f)).trans b0'
      have b1 := (n6.block _ l1' (fun f => f)).trans b1'
      have n7 : Nw w w3 := n4.tr n6
      clear b0' b1' n4 n5 n6 hsp
      have hw2 : w2.heap.size ≠ w.heap.size := by omega
      have hw3 : w2.heap.size ≠ w.heap.size + 1 := by omega
      clear l0' l1'
      have c0 := cell2a b0
      have c1 := cell2b b0
      have d0 := cell2a b1
      have d1 := cell2b b1
      have z0 := frozen_of b1 0
      have z1 := frozen_of b1 1
      have g0 := cell2a b2
      have g1 := cell2b b2
      go_wp2
      (refine bodyPost_ret (results_cell_slot (V := #[.int .u8 0, .int .u64 0]) (ty := 59) (f := (0, 0)) Tryz.results67 Tryz.isAgg59 Tryz.sizeOf59 rfl _ rfl ?_ rfl) rfl ⟨rfl, (by repeat first | with_reducible exact n7 | with_reducible refine Fr.alloc ?_ _ | with_reducible refine Fr.drew ?_ | (with_reducible refine Fr.setCell ?_ _ _ (fun h => ?_); rotate_left; focus (simp only at h; omega)))⟩; (repeat first | with_reducible exact b1 | with_reducible exact heap_new _ _ | with_reducible exact heap_next _ _ _ | with_reducible exact heap_third _ _ _ _ | with_reducible refine hp_dr ?_ | (with_reducible refine hp_ne ?_ ?_; focus omega) | (with_reducible refine hp_al ?_ ?_; focus (first | omega | (simp <;> omega))) | with_reducible apply hp_set) <;> rfl)
  · go_enter Tryz.func67, Tryz.ntmps67
    go_wp2_with fail
    refine (smb b e false (by simp; omega) (by omega) (by omega) _).mono ?_
    rintro x w1 ⟨rfl, n1⟩
    obtain ⟨⟨l0, l1⟩, b0, b1, n2⟩ := two_made n1
    have d0 := cell2a b1
    have d1 := cell2b b1
    have z0 := frozen_of b1 0
    have z1 := frozen_of b1 1
    clear n1 b0
    go_wp2
    (refine bodyPost_ret (results_cell_slot (V := #[.int .u8 0, .int .u64 0]) (ty := 59) (f := (0, 0)) Tryz.results67 Tryz.isAgg59 Tryz.sizeOf59 rfl _ rfl ?_ rfl) rfl ⟨rfl, (by repeat first | with_reducible exact n2 | with_reducible refine Fr.alloc ?_ _ | with_reducible refine Fr.drew ?_ | (with_reducible refine Fr.setCell ?_ _ _ (fun h => ?_); rotate_left; focus (simp only at h; omega)))⟩; (repeat first | with_reducible exact b1 | with_reducible exact heap_new _ _ | with_reducible exact heap_next _ _ _ | with_reducible exact heap_third _ _ _ _ | with_reducible refine hp_dr ?_ | (with_reducible refine hp_ne ?_ ?_; focus omega) | (with_reducible refine hp_al ?_ ?_; focus (first | omega | (simp <;> omega))) | with_reducible apply hp_set) <;> rfl)
end Go.Proofs.YtibkmcmgolbhhaaGreatDoor
