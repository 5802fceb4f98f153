/- Whole trees side by side: the cover of a stretch, and that there is one. -/
import Derived.Test.YtjkhcplnedcmeaaGreatDoorBpl
namespace Go.Proofs.YtjkhcplnedcmeaaGreatDoor
set_option linter.unusedVariables false
/- ### numbers -/
theorem pow_dvd_of_le {k L a : Nat} (h : k ≤ L) (hd : 2 ^ L ∣ a) : 2 ^ k ∣ a := Nat.dvd_trans (Nat.pow_dvd_pow 2 h) hd
theorem pow_le2 {k L : Nat} (h : k ≤ L) : 2 ^ k ≤ 2 ^ L := Nat.pow_le_pow_right (by decide) h
theorem pow_lt_inv {k L : Nat} (h : 2 ^ k < 2 ^ L) : k < L := (Nat.pow_lt_pow_iff_right (by decide)).1 h
theorem pow_le_inv {k L : Nat} (h : 2 ^ k ≤ 2 ^ L) : k ≤ L := (Nat.pow_le_pow_iff_right (by decide)).1 h

/-- A whole tree may be. -/
def may (L I : Nat) : Prop := L ≤ 63 ∧ (I + 1) * 2 ^ L ≤ 2 ^ 63
theorem may_lt {L I : Nat} (hL : L ≤ 63) : may L I ↔ I < 2 ^ (63 - L) := by
  unfold may
  have e : 2 ^ 63 = 2 ^ (63 - L) * 2 ^ L := by rw [← Nat.pow_add]; congr 1; omega
  rw [e]
  constructor
  · intro h; exact Nat.lt_of_succ_le (Nat.le_of_mul_le_mul_right h.2 (Nat.two_pow_pos L))
  · intro h; exact ⟨hL, Nat.mul_le_mul_right _ h⟩
theorem may_div {L I : Nat} (hL : L ≤ 63) : may L I ↔ I / 2 ^ (63 - L) = 0 := by
  rw [may_lt hL, Nat.div_eq_zero_iff]
  have := Nat.two_pow_pos (63 - L)
  omega
theorem may_bd {L I : Nat} (h : may L I) : I < 2 ^ 63 := by
  have h1 := h.2
  have h2 := Nat.two_pow_pos L
  have h3 : (I + 1) * 1 ≤ (I + 1) * 2 ^ L := Nat.mul_le_mul_left _ h2
  omega
/-- A whole tree of that level begins there, and ends within. -/
def fits (a c L : Nat) : Prop := 2 ^ L ∣ a ∧ a + 2 ^ L ≤ c
/-- It is the greatest one. -/
def IsW (a c L : Nat) : Prop := fits a c L ∧ ¬ fits a c (L + 1)
theorem fits_down {a c L k : Nat} (h : fits a c L) (hk : k ≤ L) : fits a c k :=
  ⟨pow_dvd_of_le hk h.1, by have := pow_le2 hk; have := h.2; omega⟩
theorem isW_max {a c L k : Nat} (h : IsW a c L) (hk : fits a c k) : k ≤ L := by
  rcases Nat.lt_or_ge L k with h1 | h1
  · exact absurd (fits_down hk h1) h.2
  · exact h1
theorem isW_uniq {a c L M : Nat} (h : IsW a c L) (k : IsW a c M) : L = M :=
  Nat.le_antisymm (isW_max k h.1) (isW_max h k.1)
theorem isW_le {a c L : Nat} (h : IsW a c L) (hc : c ≤ 2 ^ 63) : L ≤ 63 := by
  have := h.1.2
  exact pow_le_inv (by omega)
theorem isW_may {a c L : Nat} (h : IsW a c L) (hc : c ≤ 2 ^ 63) : may L (a / 2 ^ L) := by
  refine ⟨isW_le h hc, ?_⟩
  obtain ⟨q, hq⟩ := h.1.1
  have h2 := h.1.2
  rw [hq, Nat.mul_div_cancel_left _ (Nat.two_pow_pos L), Nat.add_mul, Nat.one_mul, Nat.mul_comm q]
  omega
/-- The level of the greatest one. -/
def levFrom (a c : Nat) : Nat → Nat → Nat
  | 0, L => L
  | n + 1, L => if a % 2 ^ (L + 1) = 0 ∧ a + 2 ^ (L + 1) ≤ c then levFrom a c n (L + 1) else L
def lev (a c : Nat) : Nat := levFrom a c c 0
theorem levFrom_is (a c : Nat) : ∀ (n L : Nat), c ≤ n + L → fits a c L → IsW a c (levFrom a c n L)
  | 0, L, hn, h => by
    have h1 := h.2
    have h2 : L < 2 ^ L := Nat.lt_two_pow_self
    omega
  | n + 1, L, hn, h => by
    show IsW a c (if a % 2 ^ (L + 1) = 0 ∧ a + 2 ^ (L + 1) ≤ c then levFrom a c n (L + 1) else L)
    split
    · rename_i h1
      exact levFrom_is a c n (L + 1) (by omega) ⟨Nat.dvd_of_mod_eq_zero h1.1, h1.2⟩
    · rename_i h1
      exact ⟨h, fun k => h1 ⟨Nat.mod_eq_zero_of_dvd k.1, k.2⟩⟩
theorem lev_is {a c : Nat} (h : a < c) : IsW a c (lev a c) := levFrom_is a c c 0 (by omega) ⟨by simp, by simp; omega⟩
theorem lev_eq {a c L : Nat} (hL : IsW a c L) : lev a c = L := by
  have h := hL.1.2
  have := Nat.two_pow_pos L
  exact isW_uniq (lev_is (by omega)) hL

/-- The cover. -/
def covN : Nat → Nat → Nat → List (Nat × Nat)
  | 0, _, _ => []
  | n + 1, a, c => if a < c then (lev a c, a / 2 ^ lev a c) :: covN n (a + 2 ^ lev a c) c else []
def cov (a c : Nat) : List (Nat × Nat) := covN (c - a) a c
theorem covN_fuel : ∀ (n m a c : Nat), c - a ≤ n → c - a ≤ m → covN n a c = covN m a c
  | 0, 0, a, c, _, _ => rfl
  | 0, m + 1, a, c, h, _ => by unfold covN; rw [if_neg (by omega)]
  | n + 1, 0, a, c, _, h => by unfold covN; rw [if_neg (by omega)]
  | n + 1, m + 1, a, c, h1, h2 => by
    unfold covN
    split
    · have := Nat.two_pow_pos (lev a c)
      rw [covN_fuel n m _ c (by omega) (by omega)]
    · rfl
theorem cov_nil {a c : Nat} (h : ¬ a < c) : cov a c = [] := by
  unfold cov
  have : c - a = 0 := by omega
  rw [this]; rfl
theorem cov_step {a c L : Nat} (hL : IsW a c L) : cov a c = (L, a / 2 ^ L) :: cov (a + 2 ^ L) c := by
  have h := hL.1.2
  have hp := Nat.two_pow_pos L
  have hlt : a < c := by omega
  obtain ⟨n, hn⟩ : ∃ n, c - a = n + 1 := ⟨c - a - 1, by omega⟩
  unfold cov
  rw [hn]
  show (if a < c then _ else _) = _
  rw [if_pos hlt, lev_eq hL, covN_fuel n (c - (a + 2 ^ L)) _ c (by omega) (by omega)]

/-- Trees side by side, from a to c. -/
def Row : Nat → Nat → List (Nat × Nat) → Prop
  | a, c, [] => a = c
  | a, c, t :: r => t.2 * 2 ^ t.1 = a ∧ Row (a + 2 ^ t.1) c r
/-- No two neighbours are both halves of one. -/
def Red : List (Nat × Nat) → Prop
  | t :: u :: r => ¬ (t.1 = u.1 ∧ t.2 % 2 = 0) ∧ Red (u :: r)
  | _ => True
theorem row_le : ∀ (l : List (Nat × Nat)) (a c : Nat), Row a c l → a ≤ c
  | [], a, c, h => by have : a = c := h; omega
  | t :: r, a, c, h => Nat.le_trans (Nat.le_add_right _ _) (row_le r _ _ h.2)
theorem red_tail {t : Nat × Nat} {r : List (Nat × Nat)} (h : Red (t :: r)) : Red r := by
  cases r with
  | nil => trivial
  | cons u s => exact h.2
theorem dvd_begin {t : Nat × Nat} {a : Nat} (h : t.2 * 2 ^ t.1 = a) : 2 ^ t.1 ∣ a := ⟨t.2, by rw [Nat.mul_comm]; exact h.symm⟩
theorem first_ge : ∀ (m a c : Nat) (l : List (Nat × Nat)), 2 ^ m ∣ a → a + 2 ^ m ≤ c → Row a c l → Red l → ∃ t r, l = t :: r ∧ m ≤ t.1
  | 0, a, c, l, _, hc, hr, _ => by
    cases l with
    | nil => have : a = c := hr; simp at hc; omega
    | cons t r => exact ⟨t, r, rfl, Nat.zero_le _⟩
  | m + 1, a, c, l, hd, hc, hr, hred => by
    have hs : 2 ^ (m + 1) = 2 * 2 ^ m := Nat.pow_succ'
    obtain ⟨t, r, rfl, ht⟩ := first_ge m a c l (pow_dvd_of_le (by omega) hd) (by omega) hr hred
    refine ⟨t, r, rfl, ?_⟩
    rcases Nat.lt_or_ge m t.1 with h1 | h1
    · exact h1
    · exfalso
      have e : t.1 = m := by omega
      obtain ⟨b1, b2⟩ := hr
      rw [e] at b1 b2
      have hd2 : 2 ^ m ∣ a + 2 ^ m := Nat.dvd_add (pow_dvd_of_le (by omega) hd) (Nat.dvd_refl _)
      obtain ⟨u, s, rfl, hu⟩ := first_ge m (a + 2 ^ m) c r hd2 (by omega) b2 (red_tail hred)
      have hte : t.2 % 2 = 0 := by
        obtain ⟨q, hq⟩ := hd
        rw [hs] at hq
        have h3 : t.2 * 2 ^ m = (2 * q) * 2 ^ m := by
          rw [b1, hq, Nat.mul_comm 2 (2 ^ m), Nat.mul_assoc, Nat.mul_comm]
        have h4 := Nat.eq_of_mul_eq_mul_right (Nat.two_pow_pos m) h3
        omega
      have hue : u.1 = m := by
        rcases Nat.lt_or_ge m u.1 with h5 | h5
        · exfalso
          have h6 : 2 ^ (m + 1) ∣ a + 2 ^ m := pow_dvd_of_le h5 (dvd_begin b2.1)
          have h7 : 2 ^ (m + 1) ∣ 2 ^ m := (Nat.dvd_add_right hd).1 h6
          have h8 := Nat.le_of_dvd (Nat.two_pow_pos m) h7
          have := Nat.two_pow_pos m
          omega
        · omega
      exact hred.1 ⟨by omega, hte⟩
/-- There is one row of whole trees of a stretch without both halves of one: its cover. -/
theorem cov_uniq : ∀ (l : List (Nat × Nat)) (a c : Nat), Row a c l → Red l → l = cov a c
  | [], a, c, h, _ => by have : a = c := h; rw [cov_nil (by omega)]
  | t :: r, a, c, h, hred => by
    have hle := row_le _ _ _ h.2
    have hf : fits a c t.1 := ⟨dvd_begin h.1, hle⟩
    have hw : IsW a c t.1 := by
      refine ⟨hf, fun k => ?_⟩
      obtain ⟨u, s, e, hu⟩ := first_ge _ a c (t :: r) k.1 k.2 h hred
      injection e with e1 _
      subst e1
      omega
    rw [cov_step hw, ← cov_uniq r _ c h.2 (red_tail hred)]
    congr 1
    have : a / 2 ^ t.1 = t.2 := by rw [← h.1]; exact Nat.mul_div_cancel _ (Nat.two_pow_pos _)
    rw [this]
/- ### how many -/
theorem isW_small {a c k L : Nat} (hd : 2 ^ k ∣ a) (hs : c - a < 2 ^ k) (hL : IsW a c L) : L < k ∧ c - (a + 2 ^ L) < 2 ^ L := by
  have h1 := hL.1.2
  have hk : L < k := by
    refine pow_lt_inv (Nat.lt_of_le_of_lt ?_ hs)
    omega
  refine ⟨hk, ?_⟩
  have hs2 : 2 ^ (L + 1) = 2 * 2 ^ L := Nat.pow_succ'
  rcases Nat.lt_or_ge (c - (a + 2 ^ L)) (2 ^ L) with h | h
  · exact h
  · exact absurd ⟨pow_dvd_of_le (by omega) hd, by omega⟩ hL.2
theorem cov_falls : ∀ (k a c : Nat), 2 ^ k ∣ a → c - a < 2 ^ k → (cov a c).length ≤ k
  | k, a, c, hd, hs => by
    by_cases h : a < c
    · have hw := lev_is h
      obtain ⟨L, hL⟩ : ∃ L, L = lev a c := ⟨_, rfl⟩
      rw [← hL] at hw
      obtain ⟨h1, h2⟩ := isW_small hd hs hw
      rw [cov_step hw, List.length_cons]
      have := cov_falls L (a + 2 ^ L) c (Nat.dvd_add hw.1.1 (Nat.dvd_refl _)) h2
      omega
    · rw [cov_nil h]; simp
  termination_by k => k
theorem cov_len_from (c : Nat) (hc : c ≤ 2 ^ 63) : ∀ (n k a : Nat), k + n = 64 → 2 ^ k ∣ a → (cov a c).length ≤ 64 + n
  | n, k, a, hk, hd => by
    by_cases h : a < c
    · have hw := lev_is h
      obtain ⟨L, hL⟩ : ∃ L, L = lev a c := ⟨_, rfl⟩
      rw [← hL] at hw
      rw [cov_step hw, List.length_cons]
      have hL63 := isW_le hw hc
      have hs2 : 2 ^ (L + 1) = 2 * 2 ^ L := Nat.pow_succ'
      by_cases h2 : c - (a + 2 ^ L) < 2 ^ L
      · have := cov_falls L (a + 2 ^ L) c (Nat.dvd_add hw.1.1 (Nat.dvd_refl _)) h2
        omega
      · have hnd : ¬ 2 ^ (L + 1) ∣ a := fun hh => hw.2 ⟨hh, by omega⟩
        have hkL : k ≤ L := by
          rcases Nat.lt_or_ge L k with h3 | h3
          · exact absurd (pow_dvd_of_le h3 hd) hnd
          · exact h3
        have hd2 : 2 ^ (L + 1) ∣ a + 2 ^ L := by
          obtain ⟨q, hq⟩ := hw.1.1
          have hodd : q % 2 = 1 := by
            rcases Nat.mod_two_eq_zero_or_one q with h4 | h4
            · exfalso
              refine hnd ⟨q / 2, ?_⟩
              rw [Nat.pow_succ, Nat.mul_assoc, Nat.mul_div_cancel' (Nat.dvd_of_mod_eq_zero h4)]
              exact hq
            · exact h4
          refine ⟨(q + 1) / 2, ?_⟩
          rw [Nat.pow_succ, Nat.mul_assoc, Nat.mul_div_cancel' (Nat.dvd_of_mod_eq_zero (show (q + 1) % 2 = 0 by omega)), Nat.mul_add, ← hq, Nat.mul_one]
        cases n with
        | zero => omega
        | succ n =>
          have h5 := pow_dvd_of_le (show k + 1 ≤ L + 1 by omega) hd2
          have := cov_len_from c hc n (k + 1) (a + 2 ^ L) (by omega) h5
          omega
    · rw [cov_nil h]; simp
theorem cov_len (a c : Nat) (hc : c ≤ 2 ^ 63) : (cov a c).length ≤ 128 := cov_len_from c hc 64 0 a rfl (by simp)
/- ### which tree has which -/
theorem anc_up {L I m : Nat} (hm : L ≤ m) : I / 2 ^ (m + 1 - L) = I / 2 ^ (m - L) / 2 := by
  rw [Nat.div_div_eq_div_mul, ← Nat.pow_succ]
  congr 2; omega
/-- m is the least level of a tree that has both. -/
structure IsC (La Ia Lb Ib m : Nat) : Prop where
  la : La ≤ m
  lb : Lb ≤ m
  eq : Ia / 2 ^ (m - La) = Ib / 2 ^ (m - Lb)
  least : ∀ k, La ≤ k → Lb ≤ k → k < m → Ia / 2 ^ (k - La) ≠ Ib / 2 ^ (k - Lb)
theorem IsC.symm {La Ia Lb Ib m : Nat} (h : IsC La Ia Lb Ib m) : IsC Lb Ib La Ia m := ⟨h.lb, h.la, h.eq.symm, fun k a b c d => h.least k b a c d.symm⟩
/-- Where both go upward they meet at m, not ahead of it. -/
theorem IsC.meets {La Ia Lb Ib m i j : Nat} (h : IsC La Ia Lb Ib m) (hi : La ≤ i) (hj : Lb ≤ j) (him : i ≤ m) (hjm : j ≤ m) (e : i = j) (e2 : Ia / 2 ^ (i - La) = Ib / 2 ^ (j - Lb)) : i = m := by
  subst e
  rcases Nat.lt_or_ge i m with h1 | h1
  · exact absurd e2 (h.least i hi hj h1)
  · omega
theorem IsC.le63 {La Ia Lb Ib m : Nat} (h : IsC La Ia Lb Ib m) (ha : may La Ia) (hb : may Lb Ib) : m ≤ 63 := by
  rcases Nat.lt_or_ge 63 m with h1 | h1
  · refine absurd ?_ (h.least 63 ha.1 hb.1 h1)
    rw [(may_div ha.1).1 ha, (may_div hb.1).1 hb]
  · exact h1

/- ### where a tree begins -/
end Go.Proofs.YtjkhcplnedcmeaaGreatDoor
