/- What the document answers: Cmp. -/
import Derived.Test.YtibkmcmgolbhhaaDoorD1
import Derived.Test.YtibkmcmgolbhhaaDoorC6
namespace Go.Proofs.YtibkmcmgolbhhaaDoor
open Go.RowKit
set_option linter.unusedVariables false
set_option linter.unusedSimpArgs false

set_option maxHeartbeats 1000000 in
theorem rorder (a b : Nat) (w : World) : Calls Tryd.prog 43 #[.int .u64 (a : Int), .int .u64 (b : Int)] w fun e w' => e = .returned (.int .i64 (ord a b)) ∧ w' = w := by
  rcases Nat.lt_trichotomy a b with h | h | h
  · rw [ord_lt h]
    have h1 : (a : Int) < (b : Int) := by omega
    go_enter Tryd.func43, Tryd.ntmps43
    go_wp2
    go_ret
    exact ⟨rfl, rfl⟩
  · subst h
    rw [ord_eq]
    go_enter Tryd.func43, Tryd.ntmps43
    go_wp2
    go_ret
    exact ⟨rfl, rfl⟩
  · rw [ord_gt h]
    have h1 : ¬ (a : Int) < (b : Int) := by omega
    have h2 : (a : Int) > (b : Int) := by omega
    go_enter Tryd.func43, Tryd.ntmps43
    go_wp2
    go_ret
    exact ⟨rfl, rfl⟩
theorem ord_mul (a b : Nat) {c : Nat} (hc : 0 < c) : ord (a * c) (b * c) = ord a b := by
  unfold ord
  have h1 : (a * c < b * c) ↔ a < b := Nat.mul_lt_mul_right hc
  have h2 : (b * c < a * c) ↔ b < a := Nat.mul_lt_mul_right hc
  simp only [h1, h2]
theorem ord_beg {La Ia Lb Ib : Nat} (h : Lb ≤ La) : ord (beg La Ia) (beg Lb Ib) = ord (Ia * 2 ^ (La - Lb)) Ib := by
  have e : beg La Ia = Ia * 2 ^ (La - Lb) * 2 ^ Lb := by unfold beg; rw [two_pow_split h, Nat.mul_comm (2 ^ Lb), Nat.mul_assoc]
  rw [e]
  exact ord_mul _ _ (Nat.two_pow_pos Lb)
theorem ord_neg (a b : Nat) : ord b a = - ord a b := by
  unfold ord
  repeat' split
  all_goals omega
theorem ord_bd (a b : Nat) : -1 ≤ ord a b ∧ ord a b ≤ 1 := by
  unfold ord
  repeat' split
  all_goals omega
theorem far_shift {I d : Nat} (hd : d ≤ 64) : I / 2 ^ (64 - d) = 0 ↔ I * 2 ^ d < 18446744073709551616 := by
  rw [← p64, Nat.div_eq_zero_iff]
  have e : 2 ^ 64 = 2 ^ (64 - d) * 2 ^ d := by rw [← Nat.pow_add]; congr 1; omega
  have hp := Nat.two_pow_pos (64 - d)
  rw [e]
  have : (I * 2 ^ d < 2 ^ (64 - d) * 2 ^ d) ↔ I < 2 ^ (64 - d) := Nat.mul_lt_mul_right (Nat.two_pow_pos d)
  rw [this]
  omega

set_option maxRecDepth 100000 in
set_option maxHeartbeats 2000000 in
theorem rbegins_high (La Ia Lb Ib : Nat) (h : Lb ≤ La) (hL : La ≤ 255) (hI : Ia < 18446744073709551616) (hJ : Ib < 18446744073709551616) (w : World) :
    Calls Tryd.prog 34 #[cd La Ia, cd Lb Ib] w fun e w' => e = .returned (.int .i64 (ord (beg La Ia) (beg Lb Ib))) ∧ Nw w w' := by
  rw [ord_beg h]
  obtain ⟨d, hd⟩ : ∃ d, d = La - Lb := ⟨_, rfl⟩
  rw [← hd]
  have e1 : (La : Int) - (Lb : Int) = (d : Int) := by omega
  have hi : ¬ (La : Int) < (Lb : Int) := by omega
  have hd255 : d ≤ 255 := by omega
  clear hd
  by_cases h0 : Ia = 0
  · subst h0
    have q := fun w => rorder 0 Ib w
    rw [Nat.zero_mul]
    obtain ⟨r, hr⟩ : ∃ r, r = ord 0 Ib := ⟨_, rfl⟩
    rw [← hr] at q ⊢
    clear hr
    go_enter Tryd.func34, Tryd.ntmps34
    go_wp2_with fail
    refine (q _).mono ?_
    rintro e w1 ⟨rfl, rfl⟩
    go_wp2
    go_ret
    exact ⟨rfl, (by repeat first | with_reducible exact nwr w | with_reducible refine Fr.alloc ?_ _ | with_reducible refine Fr.drew ?_ | (with_reducible refine Fr.setCell ?_ _ _ (fun h => ?_); rotate_left; focus (simp only at h; omega)))⟩
  · have h0' : ((Ia : Int) == 0) = false := by simp; omega
    by_cases hd0 : d = 0
    · subst hd0
      have q := fun w => rorder Ia Ib w
      rw [Nat.pow_zero, Nat.mul_one]
      obtain ⟨r, hr⟩ : ∃ r, r = ord Ia Ib := ⟨_, rfl⟩
      rw [← hr] at q ⊢
      clear hr
      go_enter Tryd.func34, Tryd.ntmps34
      go_wp2_with fail
      refine (q _).mono ?_
      rintro e w1 ⟨rfl, rfl⟩
      go_wp2
      go_ret
      exact ⟨rfl, (by repeat first | with_reducible exact nwr w | with_reducible refine Fr.alloc ?_ _ | with_reducible refine Fr.drew ?_ | (with_reducible refine Fr.setCell ?_ _ _ (fun h => ?_); rotate_left; focus (simp only at h; omega)))⟩
    · have hd0' : ((d : Int) == 0) = false := by simp; omega
      by_cases h64 : 64 ≤ d
      · have hfar : ord (Ia * 2 ^ d) Ib = 1 := by
          apply ord_gt
          have h1 : 2 ^ 64 ≤ 2 ^ d := pow_le2 h64
          have h2 : 1 * 2 ^ d ≤ Ia * 2 ^ d := Nat.mul_le_mul_right _ (by omega)
          rw [p64] at h1
          omega
        rw [hfar]
        clear hfar
        have hge : (d : Int) ≥ 64 := by omega
        go_enter Tryd.func34, Tryd.ntmps34
        go_wp2
        go_ret
        exact ⟨rfl, (by repeat first | with_reducible exact nwr w | with_reducible refine Fr.alloc ?_ _ | with_reducible refine Fr.drew ?_ | (with_reducible refine Fr.setCell ?_ _ _ (fun h => ?_); rotate_left; focus (simp only at h; omega)))⟩
      · have hge : ¬ (d : Int) ≥ 64 := by omega
        have hcd : (Ia : Int) / 2 ^ (64 - d) = ((Ia / 2 ^ (64 - d) : Nat) : Int) := castd _ _
        have hfs := far_shift (I := Ia) (d := d) (by omega)
        by_cases hf : Ia * 2 ^ d < 18446744073709551616
        · have hz := hfs.2 hf
          rw [hz] at hcd
          have hmin : min d 64 = d := by omega
          have hw : IntKind.u64.wrap ((Ia : Int) * 2 ^ d) = ((Ia * 2 ^ d : Nat) : Int) := by rw [castm, w64]; omega
          have q := fun w => rorder (Ia * 2 ^ d) Ib w
          obtain ⟨r, hr⟩ : ∃ r, r = ord (Ia * 2 ^ d) Ib := ⟨_, rfl⟩
          rw [← hr] at q ⊢
          obtain ⟨x, hx⟩ : ∃ x, x = Ia * 2 ^ d := ⟨_, rfl⟩
          rw [← hx] at q hw
          clear hr hx hf hz hfs
          go_enter Tryd.func34, Tryd.ntmps34
          go_wp2_with fail
          refine (q _).mono ?_
          rintro e w1 ⟨rfl, rfl⟩
          go_wp2
          go_ret
          exact ⟨rfl, (by repeat first | with_reducible exact nwr w | with_reducible refine Fr.alloc ?_ _ | with_reducible refine Fr.drew ?_ | (with_reducible refine Fr.setCell ?_ _ _ (fun h => ?_); rotate_left; focus (simp only at h; omega)))⟩
        · have hfar : ord (Ia * 2 ^ d) Ib = 1 := ord_gt (by omega)
          rw [hfar]
          have hz : ¬ Ia / 2 ^ (64 - d) = 0 := fun k => hf (hfs.1 k)
          obtain ⟨y, hy⟩ : ∃ y, y = Ia / 2 ^ (64 - d) := ⟨_, rfl⟩
          rw [← hy] at hcd hz
          have hgt : (y : Int) > 0 := by omega
          clear hfar hf hfs hy hz
          go_enter Tryd.func34, Tryd.ntmps34
          go_wp2
          go_ret
          exact ⟨rfl, (by repeat first | with_reducible exact nwr w | with_reducible refine Fr.alloc ?_ _ | with_reducible refine Fr.drew ?_ | (with_reducible refine Fr.setCell ?_ _ _ (fun h => ?_); rotate_left; focus (simp only at h; omega)))⟩
set_option maxHeartbeats 1000000 in
theorem rbegins_any (La Ia Lb Ib : Nat) (hLa : La ≤ 255) (hIa : Ia < 18446744073709551616) (hLb : Lb ≤ 255) (hIb : Ib < 18446744073709551616) (w : World) :
    Calls Tryd.prog 34 #[cd La Ia, cd Lb Ib] w fun e w' => e = .returned (.int .i64 (ord (beg La Ia) (beg Lb Ib))) ∧ Nw w w' := by
  by_cases h : La < Lb
  · have q1 := fun w => rbegins_high Lb Ib La Ia (by omega) hLb hIb hIa w
    rw [ord_neg (beg Lb Ib) (beg La Ia)]
    have hbd := ord_bd (beg Lb Ib) (beg La Ia)
    obtain ⟨r, hr⟩ : ∃ r, r = ord (beg Lb Ib) (beg La Ia) := ⟨_, rfl⟩
    rw [← hr] at q1 hbd ⊢
    clear hr
    have hi : (La : Int) < (Lb : Int) := by omega
    go_enter Tryd.func34, Tryd.ntmps34
    go_wp2_with fail
    refine (q1 _).mono ?_
    rintro v w1 ⟨rfl, n1⟩
    have n2 : Nw w w1 := Nw.tr ((nwa w _).alloc _) n1
    clear n1 q1
    go_wp2
    go_ret
    exact ⟨rfl, n2⟩
  · exact rbegins_high La Ia Lb Ib (by omega) hLa hIa hIb w

set_option maxHeartbeats 1000000 in
theorem rcmp_any (La Ia Lb Ib : Nat) (hLa : La ≤ 255) (hIa : Ia < 18446744073709551616) (hLb : Lb ≤ 255) (hIb : Ib < 18446744073709551616) (w : World) :
    Calls Tryd.prog 22 #[cd La Ia, cd Lb Ib] w fun e w' => e = .returned (.int .i64 (cmpT La Ia Lb Ib)) ∧ Nw w w' := by
  have q := fun w => rbegins_any La Ia Lb Ib hLa hIa hLb hIb w
  have hc : cmpT La Ia Lb Ib = if ord (beg La Ia) (beg Lb Ib) ≠ 0 ∨ La = Lb then ord (beg La Ia) (beg Lb Ib) else if Lb < La then -1 else 1 := by
    unfold cmpT ord
    repeat' split
    all_goals omega
  rw [hc]
  obtain ⟨r, hr⟩ : ∃ r, r = ord (beg La Ia) (beg Lb Ib) := ⟨_, rfl⟩
  rw [← hr] at q ⊢
  clear hr hc
  by_cases h0 : r = 0
  · subst h0
    by_cases hl : La = Lb
    · subst hl
      rw [if_pos (.inr rfl)]
      go_enter Tryd.func22, Tryd.ntmps22
      go_wp2_with fail
      refine (q _).mono ?_
      rintro v w1 ⟨rfl, n1⟩
      obtain ⟨⟨l0, l1⟩, b0, b1, n2⟩ := two_made n1
      have c0 := cell2a b0
      have d0 := cell2a b1
      clear n1 q
      go_wp2
      go_ret
      exact ⟨rfl, n2⟩
    · rw [if_neg (by simp [hl])]
      have hne : ((La : Int) == (Lb : Int)) = false := by simp; omega
      by_cases hg : Lb < La
      · rw [if_pos hg]
        have hi : (La : Int) > (Lb : Int) := by omega
        go_enter Tryd.func22, Tryd.ntmps22
        go_wp2_with fail
        refine (q _).mono ?_
        rintro v w1 ⟨rfl, n1⟩
        obtain ⟨⟨l0, l1⟩, b0, b1, n2⟩ := two_made n1
        have c0 := cell2a b0
        have d0 := cell2a b1
        clear n1 q
        go_wp2
        go_ret
        exact ⟨rfl, n2⟩
      · rw [if_neg hg]
        have hi : ¬ (La : Int) > (Lb : Int) := by omega
        go_enter Tryd.func22, Tryd.ntmps22
        go_wp2_with fail
        refine (q _).mono ?_
        rintro v w1 ⟨rfl, n1⟩
        obtain ⟨⟨l0, l1⟩, b0, b1, n2⟩ := two_made n1
        have c0 := cell2a b0
        have d0 := cell2a b1
        clear n1 q
        go_wp2
        go_ret
        exact ⟨rfl, n2⟩
  · rw [if_pos (.inl h0)]
    have hne : (r == 0) = false := by simp [h0]
    go_enter Tryd.func22, Tryd.ntmps22
    go_wp2_with fail
    refine (q _).mono ?_
    rintro v w1 ⟨rfl, n1⟩
    obtain ⟨⟨l0, l1⟩, b0, b1, n2⟩ := two_made n1
    have c0 := cell2a b0
    have d0 := cell2a b1
    clear n1 q
    go_wp2
    go_ret
    exact ⟨rfl, n2⟩
end Go.Proofs.YtibkmcmgolbhhaaDoor
