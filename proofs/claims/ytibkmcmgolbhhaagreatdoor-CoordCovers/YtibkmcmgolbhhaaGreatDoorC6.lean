/- Cmp: which tree stands ahead. -/
import Derived.Test.YtibkmcmgolbhhaaGreatDoorC4
import Derived.Deep.RegionHeld3
namespace Go.Proofs.YtibkmcmgolbhhaaGreatDoor
open Go.RowKit
set_option linter.unusedVariables false
set_option linter.unusedSimpArgs false

theorem left_min (x n b : Nat) : x * 2 ^ n < 2 ^ b ↔ x * 2 ^ min n b < 2 ^ b := by
  by_cases h : n ≤ b
  · rw [Nat.min_eq_left h]
  · rw [Nat.min_eq_right (by omega)]
    have zero : ∀ c, 2 ^ b ≤ c → x * c < 2 ^ b → x = 0 := by
      intro c hc hl
      rcases Nat.eq_zero_or_pos x with h0 | h0
      · exact h0
      · have : 1 * c ≤ x * c := Nat.mul_le_mul_right _ h0
        omega
    constructor
    · intro hl; rw [zero _ (pow_le2 (show b ≤ n by omega)) hl]; simp; exact Nat.two_pow_pos b
    · intro hl; rw [zero _ (Nat.le_refl _) hl]; simp; exact Nat.two_pow_pos b
theorem left_val (x n b : Nat) (h : x * 2 ^ n < 2 ^ b) : x * 2 ^ min n b = x * 2 ^ n := by
  by_cases hn : n ≤ b
  · rw [Nat.min_eq_left hn]
  · have : x = 0 := by
      rcases Nat.eq_zero_or_pos x with h0 | h0
      · exact h0
      · have : 1 * 2 ^ n ≤ x * 2 ^ n := Nat.mul_le_mul_right _ h0
        have := pow_le2 (show b ≤ n by omega)
        omega
    rw [this]; simp

theorem p64 : (2 : Nat) ^ 64 = 18446744073709551616 := by decide
set_option maxHeartbeats 1000000 in
theorem left_yes (x d : Nat) (h : x * 2 ^ d < 18446744073709551616) (hd : d ≤ 255) (w : World) :
    Calls Tryz.prog 115 #[.int .u64 (x : Int), .int .i64 (d : Int)] w fun e w' => e = .returned (.tuple #[.int .u64 ((x * 2 ^ d : Nat) : Int), .bool true]) ∧ w' = w := by
  have hx : x < 18446744073709551616 := by
    have := Nat.le_mul_of_pos_right x (Nat.two_pow_pos d)
    omega
  have hv := left_val x d 64 (by rw [p64]; exact h)
  have e1 : IntKind.u64.wrap ((x : Int) * 2 ^ min d 64) = ((x * 2 ^ d : Nat) : Int) := by
    rw [castm, w64, hv]; omega
  have e2 : ((x * 2 ^ d : Nat) : Int) / 2 ^ min d 64 = (x : Int) := by
    rw [castd, ← hv, Nat.mul_div_cancel _ (Nat.two_pow_pos _)]
  have hd0 : ¬ (d : Int) < 0 := by omega
  clear hv h
  obtain ⟨y, hy⟩ : ∃ y, y = x * 2 ^ d := ⟨_, rfl⟩
  rw [← hy] at e1 e2 ⊢
  clear hy
  go_enter Tryz.func115, Tryz.ntmps115
  go_wp2
  go_ret2
  exact ⟨rfl, rfl⟩
set_option maxHeartbeats 1000000 in
theorem left_no (x d : Nat) (h : ¬ x * 2 ^ d < 18446744073709551616) (hx : x < 18446744073709551616) (hd : d ≤ 255) (w : World) :
    Calls Tryz.prog 115 #[.int .u64 (x : Int), .int .i64 (d : Int)] w fun e w' => e = .returned (.tuple #[.int .u64 0, .bool false]) ∧ w' = w := by
  have hm : ¬ x * 2 ^ min d 64 < 18446744073709551616 := by
    intro k; rw [← p64] at k h; exact h ((left_min x d 64).2 k)
  have hp := Nat.two_pow_pos (min d 64)
  obtain ⟨y, hy⟩ : ∃ y, y = x * 2 ^ min d 64 % 18446744073709551616 := ⟨_, rfl⟩
  have e1 : IntKind.u64.wrap ((x : Int) * 2 ^ min d 64) = (y : Int) := by
    rw [castm, w64, hy]; omega
  have e2 : (((y : Nat) : Int) / 2 ^ min d 64 == (x : Int)) = false := by
    rw [castd]
    simp only [beq_eq_false_iff_ne, ne_eq]
    intro k
    have k2 : y / 2 ^ min d 64 = x := by omega
    have k3 := Nat.div_mul_le_self y (2 ^ min d 64)
    rw [k2] at k3
    have : y < 18446744073709551616 := by rw [hy]; exact Nat.mod_lt _ (by decide)
    omega
  have hyb : y < 18446744073709551616 := by rw [hy]; exact Nat.mod_lt _ (by decide)
  have hd0 : ¬ (d : Int) < 0 := by omega
  clear hm h hp hy
  go_enter Tryz.func115, Tryz.ntmps115
  go_wp2
  go_ret2
  exact ⟨rfl, rfl⟩

theorem nan64 (x : Nat) (w : World) : Calls Tryz.prog 126 #[.int .u64 (x : Int)] w fun e w' => e = .returned (.bool false) ∧ w' = w := by
  go_enter Tryz.func126, Tryz.ntmps126
  go_wp2
  go_ret
  exact ⟨rfl, rfl⟩
theorem nan8 (x : Int) (w : World) : Calls Tryz.prog 127 #[.int .u8 x] w fun e w' => e = .returned (.bool false) ∧ w' = w := by
  go_enter Tryz.func127, Tryz.ntmps127
  go_wp2
  go_ret
  exact ⟨rfl, rfl⟩
/-- Of two numbers: -1, 0, 1. -/
def ord (a b : Nat) : Int := if a < b then -1 else if b < a then 1 else 0
theorem ord_lt {a b : Nat} (h : a < b) : ord a b = -1 := if_pos h
theorem ord_gt {a b : Nat} (h : b < a) : ord a b = 1 := by unfold ord; rw [if_neg (by omega), if_pos h]
theorem ord_eq (a : Nat) : ord a a = 0 := by simp [ord]
set_option maxHeartbeats 1000000 in
theorem compare64 (a b : Nat) (w : World) : Calls Tryz.prog 117 #[.int .u64 (a : Int), .int .u64 (b : Int)] w fun e w' => e = .returned (.int .i64 (ord a b)) ∧ w' = w := by
  have n := fun x w => nan64 x w
  rcases Nat.lt_trichotomy a b with h | h | h
  · rw [ord_lt h]
    have h1 : (a : Int) < (b : Int) := by omega
    go_enter Tryz.func117, Tryz.ntmps117
    go_wp2_with (go_at_call 126; refine (n _ _).mono ?_; rintro e w' ⟨rfl, rfl⟩)
    go_ret
    exact ⟨rfl, rfl⟩
  · subst h
    rw [ord_eq]
    go_enter Tryz.func117, Tryz.ntmps117
    go_wp2_with (go_at_call 126; refine (n _ _).mono ?_; rintro e w' ⟨rfl, rfl⟩)
    go_ret
    exact ⟨rfl, rfl⟩
  · rw [ord_gt h]
    have h1 : ¬ (a : Int) < (b : Int) := by omega
    have h2 : (a : Int) > (b : Int) := by omega
    go_enter Tryz.func117, Tryz.ntmps117
    go_wp2_with (go_at_call 126; refine (n _ _).mono ?_; rintro e w' ⟨rfl, rfl⟩)
    go_ret
    exact ⟨rfl, rfl⟩
set_option maxHeartbeats 1000000 in
theorem compare8 (d : Nat) (w : World) : Calls Tryz.prog 118 #[.int .u8 0, .int .u8 (d : Int)] w fun e w' => e = .returned (.int .i64 (ord 0 d)) ∧ w' = w := by
  have n := fun x w => nan8 x w
  rcases Nat.eq_zero_or_pos d with h | h
  · subst h
    rw [ord_eq]
    go_enter Tryz.func118, Tryz.ntmps118
    go_wp2_with (go_at_call 127; refine (n _ _).mono ?_; rintro e w' ⟨rfl, rfl⟩)
    go_ret
    exact ⟨rfl, rfl⟩
  · rw [ord_lt h]
    have h1 : (0 : Int) < (d : Int) := by omega
    go_enter Tryz.func118, Tryz.ntmps118
    go_wp2_with (go_at_call 127; refine (n _ _).mono ?_; rintro e w' ⟨rfl, rfl⟩)
    go_ret
    exact ⟨rfl, rfl⟩
/-- The first one that is not 0. -/
def orI (x y : Int) : Int := if x ≠ 0 then x else y
set_option maxHeartbeats 1000000 in
theorem cmpOr (b : Nat) (x y : Int) (w : World) (h : w.heap[b]? = some (.cells #[.int .i64 x, .int .i64 y] 3)) : Calls Tryz.prog 116 #[.slice (some ⟨b, 0, none⟩) 2 2] w fun e w' => e = .returned (.int .i64 (orI x y)) ∧ w' = w := by
  have c0 := cell2a h
  have c1 := cell2b h
  clear h
  go_enter Tryz.func116, Tryz.ntmps116
  go_wp2
  go_loop [8] (fun i => ∃ k : Nat, k ≤ 2 ∧ i = .int .i64 k ∧ (0 < k → x = 0) ∧ (1 < k → y = 0)) (fun i => 2 - (intOf i).toNat)
  case atStart => exact ⟨0, by omega, rfl, fun h => by omega, fun h => by omega⟩
  case round =>
    obtain ⟨k, hk, rfl, h0, h1⟩ := hrel
    have H0 : Hid (0 < k → x = 0) := h0
    have H1 : Hid (1 < k → y = 0) := h1
    clear h0 h1
    match k, hk with
    | 0, _ =>
      by_cases hx : x = 0
      · have hx1 : (x == 0) = true := by simp [hx]
        have HX : Hid (x = 0) := hx
        clear hx
        go_wp2
        go_round
        case rel => exact ⟨1, by omega, by go_num, fun _ => HX.out, fun h => by omega⟩
        case measure => simp [intOf]
      · have hx1 : (x == 0) = false := by simp [hx]
        have HX : Hid (¬ x = 0) := hx
        clear hx
        go_wp2
        go_ret
        exact ⟨by unfold orI; rw [if_pos HX.out]; rfl, rfl⟩
    | 1, _ =>
      have hx := H0.out (by omega)
      by_cases hy : y = 0
      · have hx1 : (y == 0) = true := by simp [hy]
        have HX : Hid (x = 0) := hx
        have HY : Hid (y = 0) := hy
        clear hx hy
        go_wp2
        go_round
        case rel => exact ⟨2, by omega, by go_num, fun _ => HX.out, fun _ => HY.out⟩
        case measure => simp [intOf]
      · have hx1 : (y == 0) = false := by simp [hy]
        have HX : Hid (x = 0) := hx
        clear hx hy
        go_wp2
        go_ret
        exact ⟨by unfold orI; rw [if_neg (by simp [HX.out])]; rfl, rfl⟩
    | 2, _ =>
      have HX : Hid (x = 0) := H0.out (by omega)
      have HY : Hid (y = 0) := H1.out (by omega)
      go_wp2
      go_ret
      exact ⟨by unfold orI; rw [if_neg (by simp [HX.out]), HY.out]; rfl, rfl⟩

theorem ord_high {Lh Ih Ll Il : Nat} (h : Ll ≤ Lh) : cmpT Lh Ih Ll Il = orI (ord (Ih * 2 ^ (Lh - Ll)) Il) (ord 0 (Lh - Ll)) := by
  rw [cmpT_high h]
  unfold orI ord
  repeat' split
  all_goals omega
theorem cmpT_far {Lh Ih Ll Il : Nat} (h : Ll ≤ Lh) (hf : ¬ Ih * 2 ^ (Lh - Ll) < 18446744073709551616) (hI : Il < 18446744073709551616) : cmpT Lh Ih Ll Il = 1 := by
  rw [cmpT_high h, if_neg (by omega), if_pos (by omega)]

set_option maxHeartbeats 4000000 in
theorem cmpHigher_any (Lh Ih Ll Il : Nat) (h : Ll ≤ Lh) (hL : Lh ≤ 255) (hI : Ih < 18446744073709551616) (hJ : Il < 18446744073709551616) (w : World) :
    Calls Tryz.prog 109 #[cd Lh Ih, cd Ll Il] w fun e w' => e = .returned (.int .i64 (cmpT Lh Ih Ll Il)) ∧ Nw w w' := by
  obtain ⟨d, hd⟩ : ∃ d, d = Lh - Ll := ⟨_, rfl⟩
  have e1 : (Lh : Int) - (Ll : Int) = (d : Int) := by omega
  have hd255 : d ≤ 255 := by omega
  by_cases hf : Ih * 2 ^ d < 18446744073709551616
  · rw [ord_high h, ← hd]
    have q1 := fun w => left_yes Ih d hf hd255 w
    obtain ⟨x, hx⟩ : ∃ x, x = Ih * 2 ^ d := ⟨_, rfl⟩
    rw [← hx] at q1 hf ⊢
    clear hx hd
    obtain ⟨r1, hr1⟩ : ∃ r1, r1 = ord x Il := ⟨_, rfl⟩
    obtain ⟨r2, hr2⟩ : ∃ r2, r2 = ord 0 d := ⟨_, rfl⟩
    have q2 := fun w => compare64 x Il w
    have q3 := fun w => compare8 d w
    rw [← hr1] at q2 ⊢
    rw [← hr2] at q3 ⊢
    clear hr1 hr2
    go_enter Tryz.func109, Tryz.ntmps109
    go_wp2_with fail
    refine (q1 _).mono ?_
    rintro v w1 ⟨rfl, rfl⟩
    clear q1
    go_wp2
    refine gen_world (fun W => W.heap[w.heap.size]? = some (.cells #[.int .u8 (d : Int), .int .u64 (Ih : Int)] 59) ∧ W.heap[w.heap.size + 1]? = some (.cells #[.int .u8 (Ll : Int), .int .u64 (Il : Int)] 59) ∧ Nw w W) ⟨by (repeat first | with_reducible exact heap_new w _ | with_reducible exact heap_new _ _ | with_reducible exact heap_next _ _ _ | with_reducible exact heap_third _ _ _ _ | with_reducible refine hp_dr ?_ | (with_reducible refine hp_ne ?_ ?_; focus omega) | (with_reducible refine hp_al ?_ ?_; focus (first | omega | (simp <;> omega))) | with_reducible apply hp_set) <;> rfl, by (repeat first | with_reducible exact heap_next w _ _ | with_reducible exact heap_new _ _ | with_reducible exact heap_next _ _ _ | with_reducible exact heap_third _ _ _ _ | with_reducible refine hp_dr ?_ | (with_reducible refine hp_ne ?_ ?_; focus omega) | (with_reducible refine hp_al ?_ ?_; focus (first | omega | (simp <;> omega))) | with_reducible apply hp_set) <;> rfl, (by repeat first | with_reducible exact nwr w | with_reducible refine Fr.alloc ?_ _ | with_reducible refine Fr.drew ?_ | (with_reducible refine Fr.setCell ?_ _ _ (fun h => ?_); rotate_left; focus (simp only at h; omega)))⟩ ?_
    rintro w2 ⟨b0, b1, n2⟩
    have l0 := heap_lt b0
    have l1 := heap_lt b1
    have c0 := cell2a b0
    have c1 := cell2b b1
    clear b0 b1
    have q4 := fun b w h => cmpOr b r1 r2 w h
    go_region_with (first
      | (go_at_call 117; refine (q2 _).mono ?_; rintro e w' ⟨rfl, rfl⟩)
      | (go_at_call 118; refine (q3 _).mono ?_; rintro e w' ⟨rfl, rfl⟩)
      | (go_at_call 116; refine (q4 w2.heap.size _ (hp_dr (heap_new w2 _))).mono ?_; rintro e w' ⟨rfl, rfl⟩))
    all_goals
      go_wp2
      go_ret
      exact ⟨rfl, (by repeat first | with_reducible exact n2 | with_reducible refine Fr.alloc ?_ _ | with_reducible refine Fr.drew ?_ | (with_reducible refine Fr.setCell ?_ _ _ (fun h => ?_); rotate_left; focus (simp only at h; omega)))⟩
  · have ht := cmpT_far h (by rw [← hd]; exact hf) hJ
    rw [ht]
    have q1 := fun w => left_no Ih d hf hI hd255 w
    clear hf ht hd
    go_enter Tryz.func109, Tryz.ntmps109
    go_wp2_with fail
    refine (q1 _).mono ?_
    rintro v w1 ⟨rfl, rfl⟩
    clear q1
    go_wp2
    go_ret
    exact ⟨rfl, (by repeat first | with_reducible exact nwr w | with_reducible refine Fr.alloc ?_ _ | with_reducible refine Fr.drew ?_ | (with_reducible refine Fr.setCell ?_ _ _ (fun h => ?_); rotate_left; focus (simp only at h; omega)))⟩

set_option maxHeartbeats 1000000 in
theorem cmp_any (La Ia Lb Ib : Nat) (hLa : La ≤ 255) (hIa : Ia < 18446744073709551616) (hLb : Lb ≤ 255) (hIb : Ib < 18446744073709551616) (w : World) :
    Calls Tryz.prog 69 #[cd La Ia, cd Lb Ib] w fun e w' => e = .returned (.int .i64 (cmpT La Ia Lb Ib)) ∧ Nw w w' := by
  by_cases h : La < Lb
  · have q1 := fun w => cmpHigher_any Lb Ib La Ia (by omega) hLb hIb hIa w
    rw [cmpT_neg Lb Ib La Ia]
    have hbd := cmpT_bd Lb Ib La Ia
    obtain ⟨r, hr⟩ : ∃ r, r = cmpT Lb Ib La Ia := ⟨_, rfl⟩
    rw [← hr] at q1 hbd ⊢
    clear hr
    have hi : (La : Int) < (Lb : Int) := by omega
    go_enter Tryz.func69, Tryz.ntmps69
    go_wp2_with fail
    refine (q1 _).mono ?_
    rintro v w1 ⟨rfl, n1⟩
    have n2 : Nw w w1 := Nw.tr ((nwa w _).alloc _) n1
    clear n1 q1
    go_wp2
    go_ret
    exact ⟨rfl, n2⟩
  · have q1 := fun w => cmpHigher_any La Ia Lb Ib (by omega) hLa hIa hIb w
    obtain ⟨r, hr⟩ : ∃ r, r = cmpT La Ia Lb Ib := ⟨_, rfl⟩
    rw [← hr] at q1 ⊢
    clear hr
    have hi : ¬ (La : Int) < (Lb : Int) := by omega
    go_enter Tryz.func69, Tryz.ntmps69
    go_wp2_with fail
    refine (q1 _).mono ?_
    rintro v w1 ⟨rfl, n1⟩
    have n2 : Nw w w1 := Nw.tr ((nwa w _).alloc _) n1
    clear n1 q1
    go_wp2
    go_ret
    exact ⟨rfl, n2⟩
end Go.Proofs.YtibkmcmgolbhhaaGreatDoor
