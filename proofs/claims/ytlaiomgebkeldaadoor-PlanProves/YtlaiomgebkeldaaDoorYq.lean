/- plan: how many trees parts have; which trees they are (pure). -/
import Derived.Test.YtlaiomgebkeldaaDoorYj
namespace Go.Proofs.YtlaiomgebkeldaaDoor
open Go.RowKit
set_option linter.unusedVariables false
set_option linter.unusedSimpArgs false
theorem cov_whole (c b : Nat) (hd : 2 ^ c ∣ b) : cov b (b + 2 ^ c) = [(c, b / 2 ^ c)] := by
  obtain ⟨I, rfl⟩ := hd
  have hp := Nat.two_pow_pos c
  have hw : IsW (2 ^ c * I) (2 ^ c * I + 2 ^ c) c := by
    have := isW_tree (L := c) (I := I)
    rw [Nat.add_mul, Nat.one_mul, Nat.mul_comm I] at this
    exact this
  rw [cov_step hw, cov_nil (by omega)]
theorem cov_al (c b e : Nat) (hd : 2 ^ c ∣ b) (hbe : b < e) (h : e - b ≤ 2 ^ c) : (cov b e).length ≤ max c 1 := by
  rcases Nat.lt_or_ge (e - b) (2 ^ c) with h1 | h1
  · have := cov_falls c b e hd h1
    omega
  · have e1 : e = b + 2 ^ c := by omega
    rw [e1, cov_whole c b hd]
    simp
    omega
/-- How many trees the covers of stretches have. -/
def tcn (l : List (Nat × Nat)) : Nat := ((l.map cvr).flatten).length
theorem tcn_app (l m : List (Nat × Nat)) : tcn (l ++ m) = tcn l + tcn m := by simp [tcn]
theorem tcn_one (b e : Nat) : tcn [(b, e)] = (cov b e).length := by simp [tcn]
theorem tcn_nil : tcn [] = 0 := rfl
theorem dvd_low {c j b : Nat} (hd : 2 ^ c ∣ b) (h : j ≤ c) : 2 ^ j ∣ b := Nat.dvd_trans (Nat.pow_dvd_pow 2 h) hd
theorem spl_pow (j : Nat) : spl (2 ^ (j + 1)) = 2 ^ j := spl_of (k := j) (by rw [Nat.pow_succ]; have := Nat.two_pow_pos j; omega) (by rw [Nat.pow_succ]; omega)
theorem pth_whole : ∀ (j i b : Nat), 2 ^ j ∣ b → tcn (pth i b (b + 2 ^ j)) ≤ j
  | 0, i, b, hd => by rw [pth_one (by simp), tcn_nil]; omega
  | j + 1, i, b, hd => by
    have hs : spl (b + 2 ^ (j + 1) - b) = 2 ^ j := by rw [show b + 2 ^ (j + 1) - b = 2 ^ (j + 1) by omega, spl_pow]
    have hp : 2 ^ (j + 1) = 2 ^ j + 2 ^ j := by rw [Nat.pow_succ]; omega
    have hp0 := Nat.two_pow_pos j
    have h2 : 2 ≤ b + 2 ^ (j + 1) - b := by omega
    have hd1 : 2 ^ j ∣ b := dvd_low hd (by omega)
    have hd2 : 2 ^ j ∣ b + 2 ^ j := Nat.dvd_add hd1 (Nat.dvd_refl _)
    have he : b + 2 ^ (j + 1) = b + 2 ^ j + 2 ^ j := by omega
    by_cases hi : i < b + spl (b + 2 ^ (j + 1) - b)
    · rw [pth_left h2 hi, tcn_app, tcn_one, hs, he, cov_whole j _ hd2]
      have := pth_whole j i b hd1
      simp
      omega
    · rw [pth_right h2 hi, tcn_app, tcn_one, hs, he, cov_whole j _ hd1]
      have := pth_whole j i (b + 2 ^ j) hd2
      simp
      omega
theorem pth_tcn : ∀ (c i b e : Nat), 2 ^ c ∣ b → e - b ≤ 2 ^ c → tcn (pth i b e) ≤ 2 * c
  | c, i, b, e, hd, h => by
    by_cases h2 : 2 ≤ e - b
    · obtain ⟨j, hj, hj1, hj2⟩ := spl_ex h2
      have hjc : j < c := (Nat.pow_lt_pow_iff_right (by decide)).1 (Nat.lt_of_lt_of_le hj1 h)
      have hd1 : 2 ^ j ∣ b := dvd_low hd (by omega)
      have hd2 : 2 ^ j ∣ b + 2 ^ j := Nat.dvd_add hd1 (Nat.dvd_refl _)
      cases c with
      | zero => omega
      | succ c =>
        by_cases hi : i < b + spl (e - b)
        · rw [pth_left h2 hi, tcn_app, tcn_one, hj]
          have h3 := pth_whole j i b hd1
          have h4 := cov_al j (b + 2 ^ j) e hd2 (by omega) (by omega)
          omega
        · rw [pth_right h2 hi, tcn_app, tcn_one, hj, cov_whole j b hd1]
          have h3 := pth_tcn j i (b + 2 ^ j) e hd2 (by omega)
          simp
          omega
    · rw [pth_one h2, tcn_nil]; omega
  termination_by c => c
theorem prf_wholeT : ∀ (j o b : Nat) (known : Bool), 2 ^ j ∣ b → b < o → o ≤ b + 2 ^ j → tcn (prf o b (b + 2 ^ j) known) ≤ j + 1
  | 0, o, b, known, hd, hb, ho => by
    have : o = b + 2 ^ 0 := by simp at ho ⊢; omega
    rw [this]
    cases known with
    | true => rw [prf_known, tcn_nil]; omega
    | false => rw [prf_whole, tcn_one, cov_whole 0 b hd]; simp
  | j + 1, o, b, known, hd, hb, ho => by
    have hs : spl (b + 2 ^ (j + 1) - b) = 2 ^ j := by rw [show b + 2 ^ (j + 1) - b = 2 ^ (j + 1) by omega, spl_pow]
    have hp : 2 ^ (j + 1) = 2 ^ j + 2 ^ j := by rw [Nat.pow_succ]; omega
    have hp0 := Nat.two_pow_pos j
    have h2 : 2 ≤ b + 2 ^ (j + 1) - b := by omega
    have hd1 : 2 ^ j ∣ b := dvd_low hd (by omega)
    have hd2 : 2 ^ j ∣ b + 2 ^ j := Nat.dvd_add hd1 (Nat.dvd_refl _)
    have he : b + 2 ^ (j + 1) = b + 2 ^ j + 2 ^ j := by omega
    by_cases hoe : o = b + 2 ^ (j + 1)
    · rw [hoe]
      cases known with
      | true => rw [prf_known, tcn_nil]; omega
      | false => rw [prf_whole, tcn_one, cov_whole _ b hd]; simp
    · by_cases hi : o ≤ b + spl (b + 2 ^ (j + 1) - b)
      · rw [prf_left h2 hoe hi, tcn_app, tcn_one, hs, he, cov_whole j _ hd2]
        rw [hs] at hi
        have := prf_wholeT j o b known hd1 hb hi
        simp
        omega
      · rw [prf_right h2 hoe hi, tcn_app, tcn_one, hs, he, cov_whole j _ hd1]
        rw [hs] at hi
        have := prf_wholeT j o (b + 2 ^ j) false hd2 (by omega) (by omega)
        simp
        omega
theorem prf_tcn : ∀ (c o b e : Nat) (known : Bool), 2 ^ c ∣ b → e - b ≤ 2 ^ c → b < o → o ≤ e → tcn (prf o b e known) ≤ 2 * c + 1
  | c, o, b, e, known, hd, h, hb, ho => by
    by_cases hoe : o = e
    · subst hoe
      cases known with
      | true => rw [prf_known, tcn_nil]; omega
      | false =>
        rw [prf_whole, tcn_one]
        have := cov_al c b o hd hb h
        omega
    · have h2 : 2 ≤ e - b := by omega
      obtain ⟨j, hj, hj1, hj2⟩ := spl_ex h2
      have hjc : j < c := (Nat.pow_lt_pow_iff_right (by decide)).1 (Nat.lt_of_lt_of_le hj1 h)
      have hd1 : 2 ^ j ∣ b := dvd_low hd (by omega)
      have hd2 : 2 ^ j ∣ b + 2 ^ j := Nat.dvd_add hd1 (Nat.dvd_refl _)
      cases c with
      | zero => omega
      | succ c =>
        by_cases hi : o ≤ b + spl (e - b)
        · rw [prf_left h2 hoe hi, tcn_app, tcn_one, hj]
          rw [hj] at hi
          have h3 := prf_wholeT j o b known hd1 hb hi
          have h4 := cov_al j (b + 2 ^ j) e hd2 (by omega) (by omega)
          omega
        · rw [prf_right h2 hoe hi, tcn_app, tcn_one, hj, cov_whole j b hd1]
          rw [hj] at hi
          have h3 := prf_tcn j o (b + 2 ^ j) e false hd2 (by omega) (by omega) ho
          simp
          omega
  termination_by c => c
theorem cov_gd : ∀ (n b e S : Nat), e - b ≤ n → e ≤ S → S ≤ 9223372036854775808 → ∀ c ∈ cov b e, gdT S c
  | n, b, e, S, hn, he, hS, c, hc => by
    by_cases h : b < e
    · have hw := lev_is h
      have hp := Nat.two_pow_pos (lev b e)
      have hf : 2 ^ (lev b e) ∣ b := hw.1.1
      have hf2 : b + 2 ^ (lev b e) ≤ e := hw.1.2
      rw [cov_step hw] at hc
      rcases List.mem_cons.1 hc with rfl | hc
      · refine ⟨isW_may hw (by rw [p63]; omega), ?_⟩
        simp only
        rw [Nat.add_mul, Nat.one_mul, Nat.div_mul_cancel hf]
        omega
      · cases n with
        | zero => omega
        | succ n => exact cov_gd n _ e S (by omega) he hS c hc
    · rw [cov_nil h] at hc; simp at hc
/-- The least c with 2 ^ c not below n. -/
theorem clg_ex (n : Nat) (hn : n ≤ 9223372036854775808) : ∃ c, c ≤ 63 ∧ n ≤ 2 ^ c ∧ ∀ j, j < c → 2 ^ j < n := by
  by_cases h : n ≤ 1
  · exact ⟨0, by omega, by simpa using h, fun j hj => by omega⟩
  · have h1 := Nat.log2_self_le (n := n - 1) (by omega)
    have h2 := Nat.lt_log2_self (n := n - 1)
    refine ⟨(n - 1).log2 + 1, ?_, by omega, fun j hj => ?_⟩
    · have : (n - 1).log2 < 63 := (Nat.log2_lt (by omega)).2 (by omega)
      omega
    · have := Nat.pow_le_pow_right (n := 2) (by decide) (show j ≤ (n - 1).log2 by omega)
      omega
theorem flat_gd (S : Nat) (hS : S ≤ 9223372036854775808) (l : List (Nat × Nat)) (h : ∀ s ∈ l, s.2 ≤ S) : gdA S (l.map cvr).flatten := by
  intro c hc
  obtain ⟨m, hm, hcm⟩ := List.mem_flatten.1 hc
  obtain ⟨s, hs, rfl⟩ := List.mem_map.1 hm
  exact cov_gd _ s.1 s.2 S (Nat.le_refl _) (h s hs) hS c hcm
end Go.Proofs.YtlaiomgebkeldaaDoor
