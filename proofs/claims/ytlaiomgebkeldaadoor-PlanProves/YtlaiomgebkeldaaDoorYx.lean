/- plan: parts' trees, folded, are their stretches' hashes (pure); folded. -/
import Derived.Test.YtlaiomgebkeldaaDoorYw
import Derived.Test.YtlaiomgebkeldaaDoorYq
import Derived.Test.YtlaiomgebkeldaaDoorYg
import Derived.Test.YtlaiomgebkeldaaDoorYh
namespace Go.Proofs.YtlaiomgebkeldaaDoor
open Go.RowKit
set_option linter.unusedVariables false
set_option linter.unusedSimpArgs false
/-- A stretch that lies in a tree of its own beginning. -/
def Aln (s : Nat × Nat) : Prop := s.1 < s.2 ∧ ∃ j, 2 ^ j ∣ s.1 ∧ s.2 - s.1 ≤ 2 ^ j
theorem pth_aln : ∀ (c i b e : Nat), 2 ^ c ∣ b → e - b ≤ 2 ^ c → ∀ s ∈ pth i b e, Aln s
  | c, i, b, e, hd, h, s, hs => by
    by_cases h2 : 2 ≤ e - b
    · obtain ⟨j, hj, hj1, hj2⟩ := spl_ex h2
      have hjc : j < c := (Nat.pow_lt_pow_iff_right (by decide)).1 (Nat.lt_of_lt_of_le hj1 h)
      have hp := Nat.two_pow_pos j
      have hd1 : 2 ^ j ∣ b := Nat.dvd_trans (Nat.pow_dvd_pow 2 (by omega)) hd
      have hd2 : 2 ^ j ∣ b + 2 ^ j := Nat.dvd_add hd1 (Nat.dvd_refl _)
      cases c with
      | zero => omega
      | succ c =>
        by_cases hi : i < b + spl (e - b)
        · rw [pth_left h2 hi] at hs
          rw [hj] at hs
          rcases List.mem_append.1 hs with hs | hs
          · exact pth_aln j i b (b + 2 ^ j) hd1 (by omega) s hs
          · simp at hs; subst hs; exact ⟨by show b + 2 ^ j < e; omega, j, hd2, by show e - (b + 2 ^ j) ≤ 2 ^ j; omega⟩
        · rw [pth_right h2 hi] at hs
          rw [hj] at hs
          rcases List.mem_append.1 hs with hs | hs
          · exact pth_aln j i (b + 2 ^ j) e hd2 (by omega) s hs
          · simp at hs; subst hs; exact ⟨by show b < b + 2 ^ j; omega, j, hd1, by show b + 2 ^ j - b ≤ 2 ^ j; omega⟩
    · rw [pth_one h2] at hs; simp at hs
  termination_by c => c
theorem prf_aln : ∀ (c o b e : Nat) (known : Bool), 2 ^ c ∣ b → e - b ≤ 2 ^ c → b < o → o ≤ e → ∀ s ∈ prf o b e known, Aln s
  | c, o, b, e, known, hd, h, hb, ho, s, hs => by
    by_cases hoe : o = e
    · subst hoe
      cases known with
      | true => rw [prf_known] at hs; simp at hs
      | false => rw [prf_whole] at hs; simp at hs; subst hs; exact ⟨hb, c, hd, h⟩
    · have h2 : 2 ≤ e - b := by omega
      obtain ⟨j, hj, hj1, hj2⟩ := spl_ex h2
      have hjc : j < c := (Nat.pow_lt_pow_iff_right (by decide)).1 (Nat.lt_of_lt_of_le hj1 h)
      have hp := Nat.two_pow_pos j
      have hd1 : 2 ^ j ∣ b := Nat.dvd_trans (Nat.pow_dvd_pow 2 (by omega)) hd
      have hd2 : 2 ^ j ∣ b + 2 ^ j := Nat.dvd_add hd1 (Nat.dvd_refl _)
      cases c with
      | zero => omega
      | succ c =>
        by_cases hi : o ≤ b + spl (e - b)
        · rw [prf_left h2 hoe hi] at hs
          rw [hj] at hs hi
          rcases List.mem_append.1 hs with hs | hs
          · exact prf_aln j o b (b + 2 ^ j) known hd1 (by omega) hb hi s hs
          · simp at hs; subst hs; exact ⟨by show b + 2 ^ j < e; omega, j, hd2, by show e - (b + 2 ^ j) ≤ 2 ^ j; omega⟩
        · rw [prf_right h2 hoe hi] at hs
          rw [hj] at hs hi
          rcases List.mem_append.1 hs with hs | hs
          · exact prf_aln j o (b + 2 ^ j) e false hd2 (by omega) (by omega) ho s hs
          · simp at hs; subst hs; exact ⟨by show b < b + 2 ^ j; omega, j, hd1, by show b + 2 ^ j - b ≤ 2 ^ j; omega⟩
  termination_by c => c
theorem bat_aln : ∀ (c x y b e : Nat), 2 ^ c ∣ b → e - b ≤ 2 ^ c → b < e → ∀ s ∈ bat x y b e, Aln s
  | c, x, y, b, e, hd, h, hb, s, hs => by
    by_cases h0 : y ≤ b ∨ e ≤ x
    · rw [bat_out h0] at hs; simp at hs; subst hs; exact ⟨hb, c, hd, h⟩
    · by_cases h1 : x ≤ b ∧ e ≤ y
      · rw [bat_in h0 h1] at hs; simp at hs
      · have h2 : 2 ≤ e - b := by omega
        obtain ⟨j, hj, hj1, hj2⟩ := spl_ex h2
        have hjc : j < c := (Nat.pow_lt_pow_iff_right (by decide)).1 (Nat.lt_of_lt_of_le hj1 h)
        have hp := Nat.two_pow_pos j
        have hd1 : 2 ^ j ∣ b := Nat.dvd_trans (Nat.pow_dvd_pow 2 (by omega)) hd
        have hd2 : 2 ^ j ∣ b + 2 ^ j := Nat.dvd_add hd1 (Nat.dvd_refl _)
        cases c with
        | zero => omega
        | succ c =>
          rw [bat_cut h0 h1] at hs
          rw [hj] at hs
          rcases List.mem_append.1 hs with hs | hs
          · exact bat_aln j x y b (b + 2 ^ j) hd1 (by omega) (by omega) s hs
          · exact bat_aln j x y (b + 2 ^ j) e hd2 (by omega) (by omega) s hs
  termination_by c => c
/-- A tree's hash, of a log's leaves' hashes. -/
def trH (L : List (List UInt8)) (c : Nat × Nat) : List UInt8 := hshp L (c.2 * 2 ^ c.1, (c.2 + 1) * 2 ^ c.1)
theorem hsh_cut (L : List (List UInt8)) (b e k : Nat) (he : e ≤ L.length) (h1 : 2 ^ k < e - b) (h2 : e - b ≤ 2 * 2 ^ k) : hshp L (b, e) = ndp (hshp L (b, b + 2 ^ k)) (hshp L (b + 2 ^ k, e)) := by
  have hp := Nat.two_pow_pos k
  have hl : (sbh L b e).length = e - b := by rw [sbh_len]; omega
  unfold hshp
  simp only
  rw [mhh_cut (by omega), hl, spl_of h1 h2, sbh_take (by omega), sbh_drop]
theorem cov_two {a c : Nat} (h : a < c) : cov a c ≠ [] := by rw [cov_step (lev_is h)]; simp
theorem fold_cov (L : List (List UInt8)) : ∀ (n a c j : Nat), c - a ≤ n → c ≤ L.length → 2 ^ j ∣ a → c - a < 2 ^ j → a < c → fdp ((cov a c).map (trH L)) = hshp L (a, c)
  | n, a, c, j, hn, hc, hd, hs, hac => by
    have hW := lev_is hac
    obtain ⟨M, hM⟩ : ∃ M, M = lev a c := ⟨_, rfl⟩
    rw [← hM] at hW
    obtain ⟨s1, s2⟩ := isW_small hd hs hW
    have hp := Nat.two_pow_pos M
    have hle := hW.1.2
    have ht : trH L (M, a / 2 ^ M) = hshp L (a, a + 2 ^ M) := by
      unfold trH
      simp only
      rw [Nat.add_mul, Nat.one_mul, Nat.div_mul_cancel hW.1.1]
    rw [cov_step hW, List.map_cons, ht]
    by_cases hr : a + 2 ^ M < c
    · cases n with
      | zero => omega
      | succ n =>
        have ih := fold_cov L n (a + 2 ^ M) c M (by omega) hc (Nat.dvd_add hW.1.1 (Nat.dvd_refl _)) s2 hr
        rw [fdp_cons _ _ (by simp [cov_two hr]), ih, hsh_cut L a c M hc (by omega) (by omega)]
    · have e1 : a + 2 ^ M = c := by omega
      rw [cov_nil hr, e1]
      rfl
theorem fold_aln (L : List (List UInt8)) (s : Nat × Nat) (h : Aln s) (hs : s.2 ≤ L.length) : fdp ((cvr s).map (trH L)) = hshp L s := by
  obtain ⟨b, e⟩ := s
  obtain ⟨h1, j, h2, h3⟩ := h
  simp only at h1 h2 h3 hs
  rcases Nat.lt_or_ge (e - b) (2 ^ j) with h4 | h4
  · exact fold_cov L _ b e j (Nat.le_refl _) hs h2 h4 h1
  · have e1 : e = b + 2 ^ j := by omega
    subst e1
    show fdp ((cov b (b + 2 ^ j)).map (trH L)) = _
    rw [cov_whole j b h2, List.map_cons, List.map_nil]
    show trH L (j, b / 2 ^ j) = _
    unfold trH
    simp only
    rw [Nat.add_mul, Nat.one_mul, Nat.div_mul_cancel h2]
end Go.Proofs.YtlaiomgebkeldaaDoor
