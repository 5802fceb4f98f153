/- Whole trees side by side: the cover of a stretch, and that there is one. -/
import Derived.Test.YtaeocbdphfkflaaDoorBpl
namespace Go.Proofs.YtaeocbdphfkflaaDoor
set_option linter.unusedVariables false
/- ### numbers -/
theorem two_pow_split {k L : Nat} (h : k ≤ L) : 2 ^ L = 2 ^ k * 2 ^ (L - k) := by rw [← Nat.pow_add]; congr 1; omega
theorem pow_dvd_of_le {k L a : Nat} (h : k ≤ L) (hd : 2 ^ L ∣ a) : 2 ^ k ∣ a := Nat.dvd_trans (Nat.pow_dvd_pow 2 h) hd
theorem pow_le2 {k L : Nat} (h : k ≤ L) : 2 ^ k ≤ 2 ^ L := Nat.pow_le_pow_right (by decide) h
theorem pow_lt2 {k L : Nat} (h : k < L) : 2 ^ k < 2 ^ L := Nat.pow_lt_pow_right (by decide) h
theorem pow_lt_inv {k L : Nat} (h : 2 ^ k < 2 ^ L) : k < L := (Nat.pow_lt_pow_iff_right (by decide)).1 h
theorem pow_le_inv {k L : Nat} (h : 2 ^ k ≤ 2 ^ L) : k ≤ L := (Nat.pow_le_pow_iff_right (by decide)).1 h

/-- A whole tree may be. -/
def may (L I : Nat) : Prop := L ≤ 63 ∧ (I + 1) * 2 ^ L ≤ 2 ^ 63
theorem may_lt {L I : Nat} (hL : L ≤ 63) : may L I ↔ I < 2 ^ (63 - L) := by
  unfold may
  have e : 2 ^ 63 = 2 ^ (63 - L) * 2 ^ L := by rw [← Nat.pow_add]; congr 1; omega
  rw [e]
  constructor
  · intro h; exact Nat.lt_of_succ_le (Nat.le_of_mul_le_mul_right h.2 (Nat.two_pow_pos L))
  · intro h; exact ⟨hL, Nat.mul_le_mul_right _ h⟩
theorem may_div {L I : Nat} (hL : L ≤ 63) : may L I ↔ I / 2 ^ (63 - L) = 0 := by
  rw [may_lt hL, Nat.div_eq_zero_iff]
  have := Nat.two_pow_pos (63 - L)
  omega
theorem may_bd {L I : Nat} (h : may L I) : I < 2 ^ 63 := by
  have h1 := h.2
  have h2 := Nat.two_pow_pos L
  have h3 : (I + 1) * 1 ≤ (I + 1) * 2 ^ L := Nat.mul_le_mul_left _ h2
  omega
theorem may_up {L I : Nat} (h : may L I) (hL : L < 63) : may (L + 1) (I / 2) := by
  refine ⟨by omega, ?_⟩
  have h1 := (may_lt h.1).1 h
  have h2 : I / 2 < 2 ^ (63 - (L + 1)) := by
    have : 2 ^ (63 - L) = 2 * 2 ^ (63 - (L + 1)) := by rw [← Nat.pow_succ']; congr 1; omega
    omega
  exact ((may_lt (by omega)).2 h2).2

/-- A whole tree of that level begins there, and ends within. -/
def fits (a c L : Nat) : Prop := 2 ^ L ∣ a ∧ a + 2 ^ L ≤ c
/-- It is the greatest one. -/
def IsW (a c L : Nat) : Prop := fits a c L ∧ ¬ fits a c (L + 1)
theorem fits_down {a c L k : Nat} (h : fits a c L) (hk : k ≤ L) : fits a c k :=
  ⟨pow_dvd_of_le hk h.1, by have := pow_le2 hk; have := h.2; omega⟩
theorem isW_max {a c L k : Nat} (h : IsW a c L) (hk : fits a c k) : k ≤ L := by
  rcases Nat.lt_or_ge L k with h1 | h1
  · exact absurd (fits_down hk h1) h.2
  · exact h1
theorem isW_uniq {a c L M : Nat} (h : IsW a c L) (k : IsW a c M) : L = M :=
  Nat.le_antisymm (isW_max k h.1) (isW_max h k.1)
theorem isW_le {a c L : Nat} (h : IsW a c L) (hc : c ≤ 2 ^ 63) : L ≤ 63 := by
  have := h.1.2
  exact pow_le_inv (by omega)
theorem isW_may {a c L : Nat} (h : IsW a c L) (hc : c ≤ 2 ^ 63) : may L (a / 2 ^ L) := by
  refine ⟨isW_le h hc, ?_⟩
  obtain ⟨q, hq⟩ := h.1.1
  have h2 := h.1.2
  rw [hq, Nat.mul_div_cancel_left _ (Nat.two_pow_pos L), Nat.add_mul, Nat.one_mul, Nat.mul_comm q]
  omega
/-- The level of the greatest one. -/
def levFrom (a c : Nat) : Nat → Nat → Nat
  | 0, L => L
  | n + 1, L => if a % 2 ^ (L + 1) = 0 ∧ a + 2 ^ (L + 1) ≤ c then levFrom a c n (L + 1) else L
def lev (a c : Nat) : Nat := levFrom a c c 0
theorem levFrom_is (a c : Nat) : ∀ (n L : Nat), c ≤ n + L → fits a c L → IsW a c (levFrom a c n L)
  | 0, L, hn, h => by
    have h1 := h.2
    have h2 : L < 2 ^ L := Nat.lt_two_pow_self
    omega
  | n + 1, L, hn, h => by
    show IsW a c (if a % 2 ^ (L + 1) = 0 ∧ a + 2 ^ (L + 1) ≤ c then levFrom a c n (L + 1) else L)
    split
    · rename_i h1
      exact levFrom_is a c n (L + 1) (by omega) ⟨Nat.dvd_of_mod_eq_zero h1.1, h1.2⟩
    · rename_i h1
      exact ⟨h, fun k => h1 ⟨Nat.mod_eq_zero_of_dvd k.1, k.2⟩⟩
theorem lev_is {a c : Nat} (h : a < c) : IsW a c (lev a c) := levFrom_is a c c 0 (by omega) ⟨by simp, by simp; omega⟩
theorem lev_eq {a c L : Nat} (hL : IsW a c L) : lev a c = L := by
  have h := hL.1.2
  have := Nat.two_pow_pos L
  exact isW_uniq (lev_is (by omega)) hL

/-- The cover. -/
def covN : Nat → Nat → Nat → List (Nat × Nat)
  | 0, _, _ => []
  | n + 1, a, c => if a < c then (lev a c, a / 2 ^ lev a c) :: covN n (a + 2 ^ lev a c) c else []
def cov (a c : Nat) : List (Nat × Nat) := covN (c - a) a c
theorem covN_fuel : ∀ (n m a c : Nat), c - a ≤ n → c - a ≤ m → covN n a c = covN m a c
  | 0, 0, a, c, _, _ => rfl
  | 0, m + 1, a, c, h, _ => by unfold covN; rw [if_neg (by omega)]
  | n + 1, 0, a, c, _, h => by unfold covN; rw [if_neg (by omega)]
  | n + 1, m + 1, a, c, h1, h2 => by
    unfold covN
    split
    · have := Nat.two_pow_pos (lev a c)
      rw [covN_fuel n m _ c (by omega) (by omega)]
    · rfl
theorem cov_nil {a c : Nat} (h : ¬ a < c) : cov a c = [] := by
  unfold cov
  have : c - a = 0 := by omega
  rw [this]; rfl
theorem cov_step {a c L : Nat} (hL : IsW a c L) : cov a c = (L, a / 2 ^ L) :: cov (a + 2 ^ L) c := by
  have h := hL.1.2
  have hp := Nat.two_pow_pos L
  have hlt : a < c := by omega
  obtain ⟨n, hn⟩ : ∃ n, c - a = n + 1 := ⟨c - a - 1, by omega⟩
  unfold cov
  rw [hn]
  show (if a < c then _ else _) = _
  rw [if_pos hlt, lev_eq hL, covN_fuel n (c - (a + 2 ^ L)) _ c (by omega) (by omega)]

/-- Trees side by side, from a to c. -/
def Row : Nat → Nat → List (Nat × Nat) → Prop
  | a, c, [] => a = c
  | a, c, t :: r => t.2 * 2 ^ t.1 = a ∧ Row (a + 2 ^ t.1) c r
/-- No two neighbours are both halves of one. -/
def Red : List (Nat × Nat) → Prop
  | t :: u :: r => ¬ (t.1 = u.1 ∧ t.2 % 2 = 0) ∧ Red (u :: r)
  | _ => True
theorem row_le : ∀ (l : List (Nat × Nat)) (a c : Nat), Row a c l → a ≤ c
  | [], a, c, h => by have : a = c := h; omega
  | t :: r, a, c, h => Nat.le_trans (Nat.le_add_right _ _) (row_le r _ _ h.2)
theorem red_tail {t : Nat × Nat} {r : List (Nat × Nat)} (h : Red (t :: r)) : Red r := by
  cases r with
  | nil => trivial
  | cons u s => exact h.2
theorem dvd_begin {t : Nat × Nat} {a : Nat} (h : t.2 * 2 ^ t.1 = a) : 2 ^ t.1 ∣ a := ⟨t.2, by rw [Nat.mul_comm]; exact h.symm⟩
theorem first_ge : ∀ (m a c : Nat) (l : List (Nat × Nat)), 2 ^ m ∣ a → a + 2 ^ m ≤ c → Row a c l → Red l → ∃ t r, l = t :: r ∧ m ≤ t.1
  | 0, a, c, l, _, hc, hr, _ => by
    cases l with
    | nil => have : a = c := hr; simp at hc; omega
    | cons t r => exact ⟨t, r, rfl, Nat.zero_le _⟩
  | m + 1, a, c, l, hd, hc, hr, hred => by
    have hs : 2 ^ (m + 1) = 2 * 2 ^ m := Nat.pow_succ'
    obtain ⟨t, r, rfl, ht⟩ := first_ge m a c l (pow_dvd_of_le (by omega) hd) (by omega) hr hred
    refine ⟨t, r, rfl, ?_⟩
    rcases Nat.lt_or_ge m t.1 with h1 | h1
    · exact h1
    · exfalso
      have e : t.1 = m := by omega
      obtain ⟨b1, b2⟩ := hr
      rw [e] at b1 b2
      have hd2 : 2 ^ m ∣ a + 2 ^ m := Nat.dvd_add (pow_dvd_of_le (by omega) hd) (Nat.dvd_refl _)
      obtain ⟨u, s, rfl, hu⟩ := first_ge m (a + 2 ^ m) c r hd2 (by omega) b2 (red_tail hred)
      have hte : t.2 % 2 = 0 := by
        obtain ⟨q, hq⟩ := hd
        rw [hs] at hq
        have h3 : t.2 * 2 ^ m = (2 * q) * 2 ^ m := by
          rw [b1, hq, Nat.mul_comm 2 (2 ^ m), Nat.mul_assoc, Nat.mul_comm]
        have h4 := Nat.eq_of_mul_eq_mul_right (Nat.two_pow_pos m) h3
        omega
      have hue : u.1 = m := by
        rcases Nat.lt_or_ge m u.1 with h5 | h5
        · exfalso
          have h6 : 2 ^ (m + 1) ∣ a + 2 ^ m := pow_dvd_of_le h5 (dvd_begin b2.1)
          have h7 : 2 ^ (m + 1) ∣ 2 ^ m := (Nat.dvd_add_right hd).1 h6
          have h8 := Nat.le_of_dvd (Nat.two_pow_pos m) h7
          have := Nat.two_pow_pos m
          omega
        · omega
      exact hred.1 ⟨by omega, hte⟩
/-- There is one row of whole trees of a stretch without both halves of one: its cover. -/
theorem cov_uniq : ∀ (l : List (Nat × Nat)) (a c : Nat), Row a c l → Red l → l = cov a c
  | [], a, c, h, _ => by have : a = c := h; rw [cov_nil (by omega)]
  | t :: r, a, c, h, hred => by
    have hle := row_le _ _ _ h.2
    have hf : fits a c t.1 := ⟨dvd_begin h.1, hle⟩
    have hw : IsW a c t.1 := by
      refine ⟨hf, fun k => ?_⟩
      obtain ⟨u, s, e, hu⟩ := first_ge _ a c (t :: r) k.1 k.2 h hred
      injection e with e1 _
      subst e1
      omega
    rw [cov_step hw, ← cov_uniq r _ c h.2 (red_tail hred)]
    congr 1
    have : a / 2 ^ t.1 = t.2 := by rw [← h.1]; exact Nat.mul_div_cancel _ (Nat.two_pow_pos _)
    rw [this]
theorem cov_row : ∀ (n a c : Nat), c - a ≤ n → a ≤ c → Row a c (cov a c) ∧ Red (cov a c)
  | n, a, c, hn, hac => by
    by_cases h : a < c
    · have hw := lev_is h
      obtain ⟨L, hL⟩ : ∃ L, L = lev a c := ⟨_, rfl⟩
      rw [← hL] at hw
      rw [cov_step hw]
      have h2 := hw.1.2
      have hp := Nat.two_pow_pos L
      cases n with
      | zero => omega
      | succ n =>
        obtain ⟨r1, r2⟩ := cov_row n (a + 2 ^ L) c (by omega) h2
        have hb : a / 2 ^ L * 2 ^ L = a := Nat.div_mul_cancel hw.1.1
        refine ⟨⟨hb, r1⟩, ?_⟩
        by_cases h3 : a + 2 ^ L < c
        · have hw2 := lev_is h3
          obtain ⟨M, hM⟩ : ∃ M, M = lev (a + 2 ^ L) c := ⟨_, rfl⟩
          rw [← hM] at hw2
          rw [cov_step hw2] at r2 ⊢
          refine ⟨?_, r2⟩
          rintro ⟨e, he⟩
          have e : L = M := e
          have he : a / 2 ^ L % 2 = 0 := he
          subst e
          refine hw.2 ⟨?_, ?_⟩
          · refine ⟨a / 2 ^ L / 2, ?_⟩
            rw [Nat.pow_succ, Nat.mul_assoc, Nat.mul_div_cancel' (Nat.dvd_of_mod_eq_zero he), Nat.mul_comm]
            exact hb.symm
          · have := hw2.1.2
            have : 2 ^ (L + 1) = 2 * 2 ^ L := Nat.pow_succ'
            omega
        · rw [cov_nil h3]; trivial
    · rw [cov_nil h]; exact ⟨show a = c by omega, trivial⟩
theorem cov_side {a c : Nat} (h : a ≤ c) : Row a c (cov a c) := (cov_row _ a c (Nat.le_refl _) h).1
theorem cov_red {a c : Nat} (h : a ≤ c) : Red (cov a c) := (cov_row _ a c (Nat.le_refl _) h).2

/- ### how many -/
theorem isW_small {a c k L : Nat} (hd : 2 ^ k ∣ a) (hs : c - a < 2 ^ k) (hL : IsW a c L) : L < k ∧ c - (a + 2 ^ L) < 2 ^ L := by
  have h1 := hL.1.2
  have hk : L < k := by
    refine pow_lt_inv (Nat.lt_of_le_of_lt ?_ hs)
    omega
  refine ⟨hk, ?_⟩
  have hs2 : 2 ^ (L + 1) = 2 * 2 ^ L := Nat.pow_succ'
  rcases Nat.lt_or_ge (c - (a + 2 ^ L)) (2 ^ L) with h | h
  · exact h
  · exact absurd ⟨pow_dvd_of_le (by omega) hd, by omega⟩ hL.2
theorem cov_falls : ∀ (k a c : Nat), 2 ^ k ∣ a → c - a < 2 ^ k → (cov a c).length ≤ k
  | k, a, c, hd, hs => by
    by_cases h : a < c
    · have hw := lev_is h
      obtain ⟨L, hL⟩ : ∃ L, L = lev a c := ⟨_, rfl⟩
      rw [← hL] at hw
      obtain ⟨h1, h2⟩ := isW_small hd hs hw
      rw [cov_step hw, List.length_cons]
      have := cov_falls L (a + 2 ^ L) c (Nat.dvd_add hw.1.1 (Nat.dvd_refl _)) h2
      omega
    · rw [cov_nil h]; simp
  termination_by k => k
theorem cov_len_from (c : Nat) (hc : c ≤ 2 ^ 63) : ∀ (n k a : Nat), k + n = 64 → 2 ^ k ∣ a → (cov a c).length ≤ 64 + n
  | n, k, a, hk, hd => by
    by_cases h : a < c
    · have hw := lev_is h
      obtain ⟨L, hL⟩ : ∃ L, L = lev a c := ⟨_, rfl⟩
      rw [← hL] at hw
      rw [cov_step hw, List.length_cons]
      have hL63 := isW_le hw hc
      have hs2 : 2 ^ (L + 1) = 2 * 2 ^ L := Nat.pow_succ'
      by_cases h2 : c - (a + 2 ^ L) < 2 ^ L
      · have := cov_falls L (a + 2 ^ L) c (Nat.dvd_add hw.1.1 (Nat.dvd_refl _)) h2
        omega
      · have hnd : ¬ 2 ^ (L + 1) ∣ a := fun hh => hw.2 ⟨hh, by omega⟩
        have hkL : k ≤ L := by
          rcases Nat.lt_or_ge L k with h3 | h3
          · exact absurd (pow_dvd_of_le h3 hd) hnd
          · exact h3
        have hd2 : 2 ^ (L + 1) ∣ a + 2 ^ L := by
          obtain ⟨q, hq⟩ := hw.1.1
          have hodd : q % 2 = 1 := by
            rcases Nat.mod_two_eq_zero_or_one q with h4 | h4
            · exfalso
              refine hnd ⟨q / 2, ?_⟩
              rw [Nat.pow_succ, Nat.mul_assoc, Nat.mul_div_cancel' (Nat.dvd_of_mod_eq_zero h4)]
              exact hq
            · exact h4
          refine ⟨(q + 1) / 2, ?_⟩
          rw [Nat.pow_succ, Nat.mul_assoc, Nat.mul_div_cancel' (Nat.dvd_of_mod_eq_zero (show (q + 1) % 2 = 0 by omega)), Nat.mul_add, ← hq, Nat.mul_one]
        cases n with
        | zero => omega
        | succ n =>
          have h5 := pow_dvd_of_le (show k + 1 ≤ L + 1 by omega) hd2
          have := cov_len_from c hc n (k + 1) (a + 2 ^ L) (by omega) h5
          omega
    · rw [cov_nil h]; simp
theorem cov_len (a c : Nat) (hc : c ≤ 2 ^ 63) : (cov a c).length ≤ 128 := cov_len_from c hc 64 0 a rfl (by simp)
/-- All of a cover's trees may be. -/
theorem row_may : ∀ (l : List (Nat × Nat)) (a c : Nat), Row a c l → c ≤ 2 ^ 63 → ∀ t ∈ l, may t.1 t.2
  | [], a, c, _, _, t, ht => by cases ht
  | u :: r, a, c, h, hc, t, ht => by
    rcases List.mem_cons.1 ht with rfl | ht
    · have h1 := row_le _ _ _ h.2
      have h2 := h.1
      refine ⟨?_, ?_⟩
      · exact pow_le_inv (by omega)
      · rw [Nat.add_mul, Nat.one_mul, h2]; omega
    · exact row_may r _ c h.2 hc t ht
/- ### which tree has which -/
theorem has_iff {l x L I : Nat} : (x * 2 ^ l ≤ I * 2 ^ L ∧ (I + 1) * 2 ^ L ≤ (x + 1) * 2 ^ l) ↔ L ≤ l ∧ I / 2 ^ (l - L) = x := by
  constructor
  · rintro ⟨h1, h2⟩
    have hL : L ≤ l := by
      refine pow_le_inv ?_
      rw [Nat.add_mul, Nat.one_mul] at h2
      rw [Nat.add_mul x, Nat.one_mul] at h2
      omega
    refine ⟨hL, ?_⟩
    rw [two_pow_split hL, Nat.mul_comm (2 ^ L), ← Nat.mul_assoc] at h1 h2
    have h3 := Nat.le_of_mul_le_mul_right h1 (Nat.two_pow_pos L)
    have h4 := Nat.le_of_mul_le_mul_right h2 (Nat.two_pow_pos L)
    exact Nat.div_eq_of_lt_le h3 h4
  · rintro ⟨hL, h⟩
    have hp := Nat.two_pow_pos (l - L)
    have h3 : x * 2 ^ (l - L) ≤ I := by rw [← h]; exact Nat.div_mul_le_self _ _
    have h4 : I + 1 ≤ (x + 1) * 2 ^ (l - L) := by
      have := Nat.lt_mul_div_succ I hp
      rw [h, Nat.mul_comm] at this
      exact this
    have e : 2 ^ l = 2 ^ (l - L) * 2 ^ L := by rw [two_pow_split hL, Nat.mul_comm]
    rw [e, ← Nat.mul_assoc, ← Nat.mul_assoc]
    exact ⟨Nat.mul_le_mul_right _ h3, Nat.mul_le_mul_right _ h4⟩
theorem anc_may {L I m : Nat} (h : may L I) (hm : L ≤ m) (hm2 : m ≤ 63) : may m (I / 2 ^ (m - L)) := by
  refine (may_lt hm2).2 ?_
  have h1 := (may_lt h.1).1 h
  rw [Nat.div_lt_iff_lt_mul (Nat.two_pow_pos _), ← Nat.pow_add]
  have : 63 - m + (m - L) = 63 - L := by omega
  rw [this]; exact h1
theorem anc_up {L I m : Nat} (hm : L ≤ m) : I / 2 ^ (m + 1 - L) = I / 2 ^ (m - L) / 2 := by
  rw [Nat.div_div_eq_div_mul, ← Nat.pow_succ]
  congr 2; omega
theorem anc_self (L I : Nat) : I / 2 ^ (L - L) = I := by simp
/-- m is the least level of a tree that has both. -/
structure IsC (La Ia Lb Ib m : Nat) : Prop where
  la : La ≤ m
  lb : Lb ≤ m
  eq : Ia / 2 ^ (m - La) = Ib / 2 ^ (m - Lb)
  least : ∀ k, La ≤ k → Lb ≤ k → k < m → Ia / 2 ^ (k - La) ≠ Ib / 2 ^ (k - Lb)
theorem IsC.symm {La Ia Lb Ib m : Nat} (h : IsC La Ia Lb Ib m) : IsC Lb Ib La Ia m := ⟨h.lb, h.la, h.eq.symm, fun k a b c d => h.least k b a c d.symm⟩
theorem IsC.self (L I : Nat) : IsC L I L I L := ⟨Nat.le_refl _, Nat.le_refl _, rfl, fun k a _ c => by omega⟩
theorem isC_ex {La Ia Lb Ib : Nat} (ha : may La Ia) (hb : may Lb Ib) : ∃ m, m ≤ 63 ∧ IsC La Ia Lb Ib m := by
  have top : Ia / 2 ^ (63 - La) = Ib / 2 ^ (63 - Lb) := by rw [(may_div ha.1).1 ha, (may_div hb.1).1 hb]
  have key : ∀ n, n ≤ 64 → (∃ m, m ≤ 63 ∧ IsC La Ia Lb Ib m) ∨ ∀ k, La ≤ k → Lb ≤ k → k < n → Ia / 2 ^ (k - La) ≠ Ib / 2 ^ (k - Lb) := by
    intro n
    induction n with
    | zero => intro _; exact .inr fun k _ _ h => by omega
    | succ n ih =>
      intro hn
      rcases ih (by omega) with h | h
      · exact .inl h
      · by_cases hc : La ≤ n ∧ Lb ≤ n ∧ Ia / 2 ^ (n - La) = Ib / 2 ^ (n - Lb)
        · exact .inl ⟨n, by omega, hc.1, hc.2.1, hc.2.2, h⟩
        · refine .inr fun k a b c => ?_
          by_cases hk : k = n
          · subst hk; exact fun e => hc ⟨a, b, e⟩
          · exact h k a b (by omega)
  rcases key 64 (by omega) with h | h
  · exact h
  · exact absurd top (h 63 ha.1 hb.1 (by omega))
/-- Where both go upward they meet at m, not ahead of it. -/
theorem IsC.meets {La Ia Lb Ib m i j : Nat} (h : IsC La Ia Lb Ib m) (hi : La ≤ i) (hj : Lb ≤ j) (him : i ≤ m) (hjm : j ≤ m) (e : i = j) (e2 : Ia / 2 ^ (i - La) = Ib / 2 ^ (j - Lb)) : i = m := by
  subst e
  rcases Nat.lt_or_ge i m with h1 | h1
  · exact absurd e2 (h.least i hi hj h1)
  · omega
theorem IsC.le63 {La Ia Lb Ib m : Nat} (h : IsC La Ia Lb Ib m) (ha : may La Ia) (hb : may Lb Ib) : m ≤ 63 := by
  rcases Nat.lt_or_ge 63 m with h1 | h1
  · refine absurd ?_ (h.least 63 ha.1 hb.1 h1)
    rw [(may_div ha.1).1 ha, (may_div hb.1).1 hb]
  · exact h1

/- ### where a tree begins -/
def beg (L I : Nat) : Nat := I * 2 ^ L
/-- Which one stands ahead: by where they begin, the greater first. -/
def cmpT (La Ia Lb Ib : Nat) : Int := if beg La Ia < beg Lb Ib then -1 else if beg Lb Ib < beg La Ia then 1 else if Lb < La then -1 else if La < Lb then 1 else 0
theorem cmpT_neg (La Ia Lb Ib : Nat) : cmpT Lb Ib La Ia = - cmpT La Ia Lb Ib := by
  unfold cmpT
  repeat' split
  all_goals omega
theorem cmpT_bd (La Ia Lb Ib : Nat) : -1 ≤ cmpT La Ia Lb Ib ∧ cmpT La Ia Lb Ib ≤ 1 := by
  unfold cmpT
  repeat' split
  all_goals omega
theorem cmpT_zero {La Ia Lb Ib : Nat} : cmpT La Ia Lb Ib = 0 ↔ La = Lb ∧ Ia = Ib := by
  unfold cmpT
  constructor
  · intro h
    have h1 : ¬ beg La Ia < beg Lb Ib := fun c => by rw [if_pos c] at h; omega
    rw [if_neg h1] at h
    have h2 : ¬ beg Lb Ib < beg La Ia := fun c => by rw [if_pos c] at h; omega
    rw [if_neg h2] at h
    have h3 : ¬ Lb < La := fun c => by rw [if_pos c] at h; omega
    rw [if_neg h3] at h
    have h4 : ¬ La < Lb := fun c => by rw [if_pos c] at h; omega
    have e : La = Lb := by omega
    subst e
    unfold beg at h1 h2
    exact ⟨rfl, Nat.eq_of_mul_eq_mul_right (Nat.two_pow_pos La) (by omega)⟩
  · rintro ⟨rfl, rfl⟩
    simp
theorem cmpT_lt {La Ia Lb Ib : Nat} (h : beg La Ia < beg Lb Ib) : cmpT La Ia Lb Ib = -1 := if_pos h
theorem cmpT_le {La Ia Lb Ib : Nat} : cmpT La Ia Lb Ib ≤ 0 ↔ beg La Ia < beg Lb Ib ∨ beg La Ia = beg Lb Ib ∧ Lb ≤ La := by
  unfold cmpT
  repeat' split
  all_goals omega
theorem cmpT_trans {La Ia Lb Ib Lc Ic : Nat} (h1 : cmpT La Ia Lb Ib ≤ 0) (h2 : cmpT Lb Ib Lc Ic ≤ 0) : cmpT La Ia Lc Ic ≤ 0 := by
  rw [cmpT_le] at *
  omega
theorem cmpT_trans' {La Ia Lb Ib Lc Ic : Nat} (h1 : 0 ≤ cmpT La Ia Lb Ib) (h2 : 0 ≤ cmpT Lb Ib Lc Ic) : 0 ≤ cmpT La Ia Lc Ic := by
  have a := cmpT_neg La Ia Lb Ib
  have b := cmpT_neg Lb Ib Lc Ic
  have c := cmpT_neg La Ia Lc Ic
  have := cmpT_trans (La := Lc) (Ia := Ic) (Lb := Lb) (Ib := Ib) (Lc := La) (Ic := Ia) (by omega) (by omega)
  omega
/-- By trees of the lower level. -/
theorem cmpT_high {Lh Ih Ll Il : Nat} (h : Ll ≤ Lh) : cmpT Lh Ih Ll Il = if Ih * 2 ^ (Lh - Ll) < Il then -1 else if Il < Ih * 2 ^ (Lh - Ll) then 1 else if 0 < Lh - Ll then -1 else 0 := by
  have e : beg Lh Ih = Ih * 2 ^ (Lh - Ll) * 2 ^ Ll := by unfold beg; rw [two_pow_split h, Nat.mul_comm (2 ^ Ll), Nat.mul_assoc]
  have e2 : beg Ll Il = Il * 2 ^ Ll := rfl
  have hp := Nat.two_pow_pos Ll
  unfold cmpT
  rw [e, e2]
  have h1 : (Ih * 2 ^ (Lh - Ll) * 2 ^ Ll < Il * 2 ^ Ll) ↔ Ih * 2 ^ (Lh - Ll) < Il := Nat.mul_lt_mul_right hp
  have h2 : (Il * 2 ^ Ll < Ih * 2 ^ (Lh - Ll) * 2 ^ Ll) ↔ Il < Ih * 2 ^ (Lh - Ll) := Nat.mul_lt_mul_right hp
  simp only [h1, h2]
  repeat' split
  all_goals omega
end Go.Proofs.YtaeocbdphfkflaaDoor
