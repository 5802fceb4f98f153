/- How a cover's trees follow each other. -/
import Derived.Test.YtibkmcmgolbhhaaDoorC3
import Derived.Test.YtibkmcmgolbhhaaDoorM1
namespace Go.Proofs.YtibkmcmgolbhhaaDoor
set_option linter.unusedVariables false

theorem even_fits {p e M J : Nat} (hp : p = J * 2 ^ M) (hJ : J % 2 = 0) : 2 ^ (M + 1) ∣ p := by
  refine ⟨J / 2, ?_⟩
  rw [hp, Nat.pow_succ, Nat.mul_assoc, Nat.mul_div_cancel' (Nat.dvd_of_mod_eq_zero hJ), Nat.mul_comm]
/-- A tree of a cover, and the next one. -/
theorem row_next {p e M J q L : Nat} (h : IsW p e M) (hp : p = J * 2 ^ M) (hq : q = p + 2 ^ M) (hL : IsW q e L) :
    ¬ (M = L ∧ sib J = q / 2 ^ L) ∧ (e - q < 2 ^ M → L < M) ∧ ((e - q < 2 ^ M ∨ L ≤ M) → e - (q + 2 ^ L) < 2 ^ L) := by
  have hq2 : q = (J + 1) * 2 ^ M := by rw [hq, hp, Nat.add_mul, Nat.one_mul]
  have hdq : 2 ^ M ∣ q := ⟨J + 1, by rw [hq2, Nat.mul_comm]⟩
  have hs : 2 ^ (M + 1) = 2 * 2 ^ M := Nat.pow_succ'
  have hsL : 2 ^ (L + 1) = 2 * 2 ^ L := Nat.pow_succ'
  have hodd : M = L → J % 2 = 1 := by
    intro e1
    rcases Nat.mod_two_eq_zero_or_one J with k | k
    · exfalso
      refine h.2 ⟨even_fits (e := e) hp k, ?_⟩
      have := hL.1.2
      rw [← e1] at this
      omega
    · exact k
  refine ⟨?_, ?_, ?_⟩
  · rintro ⟨e1, e2⟩
    have k := hodd e1
    subst e1
    rw [hq2, Nat.mul_div_cancel _ (Nat.two_pow_pos M)] at e2
    unfold sib at e2
    rw [if_neg (by omega)] at e2
    omega
  · intro k
    exact (isW_small hdq k hL).1
  · rintro (k | k)
    · exact (isW_small hdq k hL).2
    · have hd : 2 ^ (L + 1) ∣ q := by
        rcases Nat.lt_or_ge L M with k2 | k2
        · exact pow_dvd_of_le k2 hdq
        · have e1 : M = L := by omega
          have k3 := hodd e1
          subst e1
          exact even_fits (e := e) (J := J + 1) hq2 (by omega)
      rcases Nat.lt_or_ge (e - (q + 2 ^ L)) (2 ^ L) with k2 | k2
      · exact k2
      · exact absurd ⟨hd, by have := hL.1.2; omega⟩ hL.2
theorem split_get {l : List (Nat × Nat)} {pre r : List (Nat × Nat)} {t : Nat × Nat} (h : l = pre ++ t :: r) : l[pre.length]? = some t := by
  rw [h, List.getElem?_append_right (Nat.le_refl _)]; simp
theorem split_last {l : List (Nat × Nat)} {pre r : List (Nat × Nat)} {t : Nat × Nat} (h : l = (pre ++ [t]) ++ r) : l[pre.length]? = some t := by
  rw [List.append_assoc] at h
  exact split_get (r := r) h
end Go.Proofs.YtibkmcmgolbhhaaDoor
