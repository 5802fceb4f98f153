/- The greatest tree at a stretch's beginning; Of. -/
import Derived.Test.YtigbjpphmbmbiabDoorC3
namespace Go.Proofs.YtigbjpphmbmbiabDoor
open Go.RowKit
set_option linter.unusedVariables false
set_option linter.unusedSimpArgs false

theorem ones_pow : ∀ (f a : Nat), a < 2 ^ f → ∀ k, k ≤ ones f (2 ^ f - 1 - a) ↔ k ≤ f ∧ 2 ^ k ∣ a
  | 0, a, h, k => by
    have : a = 0 := by simpa using h
    subst this
    simp [ones]
  | f + 1, a, h, k => by
    have hs : 2 ^ (f + 1) = 2 * 2 ^ f := Nat.pow_succ'
    have hp := Nat.two_pow_pos f
    rw [hs] at h ⊢
    have ih := ones_pow f (a / 2) (by omega)
    have e : (2 * 2 ^ f - 1 - a) / 2 = 2 ^ f - 1 - a / 2 := by omega
    cases k with
    | zero => simp
    | succ k =>
      by_cases h1 : a % 2 = 0
      · have r : ones (f + 1) (2 * 2 ^ f - 1 - a) = 1 + ones f ((2 * 2 ^ f - 1 - a) / 2) := if_pos (by omega)
        rw [r, e]
        have := ih k
        have hd : 2 ^ (k + 1) ∣ a ↔ 2 ^ k ∣ a / 2 := by
          have ha : a = 2 * (a / 2) := by omega
          rw [Nat.pow_succ', ha, Nat.mul_div_cancel_left _ (by decide : 0 < 2)]
          exact Nat.mul_dvd_mul_iff_left (by decide)
        rw [hd]
        omega
      · have r : ones (f + 1) (2 * 2 ^ f - 1 - a) = 0 := if_neg (by omega)
        rw [r]
        constructor
        · intro hk; omega
        · rintro ⟨_, hk⟩
          exfalso
          have : 2 ^ 1 ∣ a := Nat.dvd_trans (Nat.pow_dvd_pow 2 (by omega)) hk
          omega
/-- The level, as the program reckons it. -/
theorem isW_min (b e k : Nat) (hb : b < e) (he : e ≤ 9223372036854775808) (h1 : 2 ^ k ≤ e - b) (h2 : e - b < 2 * 2 ^ k) : IsW b e (min (ones 64 (18446744073709551615 - b)) k) := by
  have hones := ones_pow 64 b (by have : (2 : Nat) ^ 64 = 18446744073709551616 := by decide
                                  omega)
  have e64 : 2 ^ 64 - 1 - b = 18446744073709551615 - b := rfl
  rw [e64] at hones
  have hk63 : k ≤ 63 := pow_le_inv (by rw [p63]; omega)
  have hs2 : 2 ^ (k + 1) = 2 * 2 ^ k := Nat.pow_succ'
  obtain ⟨o, ho⟩ : ∃ o, o = ones 64 (18446744073709551615 - b) := ⟨_, rfl⟩
  rw [← ho] at hones ⊢
  refine ⟨⟨((hones _).1 (Nat.min_le_left _ _)).2, ?_⟩, ?_⟩
  · have := pow_le2 (Nat.min_le_right o k)
    omega
  · rintro ⟨d1, d2⟩
    rcases Nat.le_total o k with h | h
    · rw [Nat.min_eq_left h] at d1 d2
      have := (hones (o + 1)).2 ⟨by omega, d1⟩
      omega
    · rw [Nat.min_eq_right h] at d2
      omega

theorem TabAt.nw {w w' : World} (h : TabAt w) (n : Nw w w') : TabAt w' := fun j hj => n.cellOf (h j hj)

set_option maxHeartbeats 2000000 in
theorem widest_any (b e L : Nat) (hL : IsW b e L) (he : e ≤ 9223372036854775808) (w : World) (hT : TabAt w) :
    Calls Tryd.prog 34 #[sp b e] w fun x w' => x = .returned (cd L (b / 2 ^ L)) ∧ Nw w w' := by
  have hlt : b < e := by have := hL.1.2; have := Nat.two_pow_pos L; omega
  obtain ⟨k, hk, k1, k2⟩ := top_of (e - b) (by omega) (by omega)
  have hmin := isW_uniq (isW_min b e k hlt he k1 k2) hL
  have hL63 := isW_le hL (by rw [p63]; exact he)
  have hno := not_u64 b (by omega) (by omega)
  obtain ⟨o, ho⟩ : ∃ o, o = ones 64 (18446744073709551615 - b) := ⟨_, rfl⟩
  rw [← ho] at hmin
  have ho64 : o ≤ 64 := by rw [ho]; exact ones_le _ _
  have HO : Hid (o = ones 64 (18446744073709551615 - b)) := ho
  have HL : Hid (IsW b e L) := hL
  have HM : Hid (min o k = L) := hmin
  have HK : Hid (2 ^ k ≤ e - b ∧ e - b < 2 * 2 ^ k) := ⟨k1, k2⟩
  have HT : Hid (TabAt w) := hT
  clear hL ho k1 k2 hmin hT
  go_enter Tryd.func34, Tryd.ntmps34
  go_wp2_with fail
  have q1 := ones_any (18446744073709551615 - (b : Int)) ((w.alloc (.cells #[.int .u64 (b : Int), .int .u64 (e : Int)] 33)).alloc (.cells #[.int .u8 0, .int .u64 0] 45)) (by omega) (by omega) (HT.out.nw ((nwa w _).alloc _))
  have t1 : (18446744073709551615 - (b : Int)).toNat = 18446744073709551615 - b := by omega
  rw [t1, ← HO.out] at q1
  refine q1.mono ?_
  rintro x w1 ⟨rfl, rfl⟩
  clear q1 t1
  go_wp2_with fail
  have q2 := log_of ((e : Int) - (b : Int) + 1) k ((w.alloc (.cells #[.int .u64 (b : Int), .int .u64 (e : Int)] 33)).alloc (.cells #[.int .u8 0, .int .u64 0] 45)) hk (by have := HK.out; have := pow_cast k; omega) (by have := HK.out; have := pow_cast k; omega)
  refine q2.mono ?_
  rintro x w1 ⟨rfl, rfl⟩
  clear q2
  go_wp2
  have hm : min (o : Int) (k : Int) = (L : Int) := by have := HM.out; omega
  (refine bodyPost_ret (results_cell (V := #[.int .u8 (min (o : Int) (k : Int)), .int .u64 ((b : Int) / 2 ^ (min (o : Int) (k : Int)).toNat)]) (ty := 45) (f := (0, 0)) Tryd.results34 Tryd.isAgg45 Tryd.sizeOf45 rfl ?_ rfl) rfl ⟨by rw [hm, Int.toNat_natCast, castd], (by repeat first | with_reducible exact nwr w | with_reducible refine Fr.alloc ?_ _ | with_reducible refine Fr.drew ?_ | (with_reducible refine Fr.setCell ?_ _ _ (fun h => ?_); rotate_left; focus (simp only at h; omega)))⟩; (repeat first | with_reducible exact heap_next w _ _ | with_reducible exact heap_new _ _ | with_reducible exact heap_next _ _ _ | with_reducible exact heap_third _ _ _ _ | with_reducible refine hp_dr ?_ | (with_reducible refine hp_ne ?_ ?_; focus omega) | (with_reducible refine hp_al ?_ ?_; focus (first | omega | (simp <;> omega))) | with_reducible apply hp_set) <;> rfl)

theorem isW_tree {L I : Nat} : IsW (I * 2 ^ L) ((I + 1) * 2 ^ L) L := by
  have e : (I + 1) * 2 ^ L = I * 2 ^ L + 2 ^ L := by rw [Nat.add_mul, Nat.one_mul]
  rw [e]
  have hp := Nat.two_pow_pos L
  refine ⟨⟨⟨I, Nat.mul_comm _ _⟩, Nat.le_refl _⟩, fun h => ?_⟩
  have := h.2
  have : 2 ^ (L + 1) = 2 * 2 ^ L := Nat.pow_succ'
  omega
theorem sp_ne {a b c d : Int} (h : ¬ (a = c ∧ b = d)) : (a == c && b == d) = false := by
  rw [Bool.and_eq_false_iff]
  simp only [beq_eq_false_iff_ne, ne_eq]
  omega

end Go.Proofs.YtigbjpphmbmbiabDoor
