/- Forms and what they read as: each undoes the other. -/
import Derived.Test.YtebbgpnhkpbefaaDoorcW3
namespace Go.Proofs.YtebbgpnhkpbefaaDoor
set_option linter.unusedVariables false
set_option linter.unusedSimpArgs false

theorem u8_of_nat (c : UInt8) : UInt8.ofNat c.toNat = c := by simp

/-- What is read has the form of what it was read as. -/
theorem rv_form : ∀ (l : List UInt8) (i v k : Nat), i ≤ 9 → rvGo i l = some (v, k) → l.take k = varB v ∧ k ≤ l.length ∧ (0 < i → 0 < v) ∧ v < 2 ^ (64 - 7 * i)
  | [], i, v, k, _, h => by rw [rvGo_nil] at h; cases h
  | c :: r, i, v, k, hi, h => by
    have hc := c.toNat_lt
    by_cases hbad : (0 < i ∧ c.toNat = 0) ∨ (i = 9 ∧ 1 < c.toNat)
    · rw [rvGo_bad hbad] at h; cases h
    · by_cases h128 : c.toNat < 128
      · rw [rvGo_end hbad h128] at h
        cases h
        refine ⟨by rw [varB_lt h128, u8_of_nat]; rfl, by simp, fun h0 => by omega, ?_⟩
        by_cases h9 : i = 9
        · subst h9; show c.toNat < 2 ^ 1; omega
        · have : 2 ^ 8 ≤ 2 ^ (64 - 7 * i) := Nat.pow_le_pow_right (by omega) (by omega)
          omega
      · rw [rvGo_on hbad h128] at h
        obtain ⟨⟨v', k'⟩, hx, he⟩ := Option.map_eq_some_iff.1 h
        cases he
        have hi8 : i ≤ 8 := by omega
        obtain ⟨h1, h2, h3, h4⟩ := rv_form r (i + 1) v' k' (by omega) hx
        have h5 := h3 (by omega)
        have e1 : (c.toNat % 128 + 128 * v') / 128 = v' := by omega
        have e2 : (c.toNat % 128 + 128 * v') % 128 + 128 = c.toNat := by omega
        refine ⟨?_, by simpa using h2, fun _ => by show 0 < c.toNat % 128 + 128 * v'; omega, ?_⟩
        · show c :: r.take k' = varB (c.toNat % 128 + 128 * v')
          rw [varB_ge (by omega), e1, e2, u8_of_nat, h1]
        · show c.toNat % 128 + 128 * v' < 2 ^ (64 - 7 * i)
          have e3 : 2 ^ (64 - 7 * i) = 2 ^ (64 - 7 * (i + 1)) * 128 := by
            rw [show (128 : Nat) = 2 ^ 7 from rfl, ← Nat.pow_add]
            congr 1
            omega
          have : (v' + 1) * 128 ≤ 2 ^ (64 - 7 * (i + 1)) * 128 := Nat.mul_le_mul_right _ h4
          omega
/-- What has a number's form reads as that number, and no byte behind it counts. -/
theorem rv_put : ∀ (j i n : Nat) (r : List UInt8), i + j = 9 → n < 2 ^ (64 - 7 * i) → (0 < i → 0 < n) → rvGo i (varB n ++ r) = some (n, (varB n).length)
  | j, i, n, r, hij, hn, h0 => by
    by_cases hl : n < 128
    · rw [varB_lt hl]
      have e : (UInt8.ofNat n).toNat = n := by rw [UInt8.toNat_ofNat']; omega
      have hbad : ¬ ((0 < i ∧ (UInt8.ofNat n).toNat = 0) ∨ (i = 9 ∧ 1 < (UInt8.ofNat n).toNat)) := by
        rw [e]
        rintro (⟨a, b⟩ | ⟨a, b⟩)
        · have := h0 a; omega
        · subst a; have : n < 2 ^ 1 := hn; omega
      show rvGo i (UInt8.ofNat n :: r) = _
      rw [rvGo_end hbad (by rw [e]; exact hl), e]
      rfl
    · rw [varB_ge hl]
      have e : (UInt8.ofNat (n % 128 + 128)).toNat = n % 128 + 128 := by rw [UInt8.toNat_ofNat']; omega
      cases j with
      | zero => exfalso; obtain rfl : i = 9 := by omega
                have : n < 2 ^ 1 := hn
                omega
      | succ j =>
        have e3 : 2 ^ (64 - 7 * i) = 2 ^ (64 - 7 * (i + 1)) * 128 := by
          rw [show (128 : Nat) = 2 ^ 7 from rfl, ← Nat.pow_add]
          congr 1
          omega
        have hbad : ¬ ((0 < i ∧ (UInt8.ofNat (n % 128 + 128)).toNat = 0) ∨ (i = 9 ∧ 1 < (UInt8.ofNat (n % 128 + 128)).toNat)) := by rw [e]; omega
        have ih := rv_put j (i + 1) (n / 128) r (by omega) (by omega) (fun _ => by omega)
        show rvGo i (UInt8.ofNat (n % 128 + 128) :: (varB (n / 128) ++ r)) = _
        rw [rvGo_on hbad (by rw [e]; omega), ih, e]
        show some ((n % 128 + 128) % 128 + 128 * (n / 128), (varB (n / 128)).length + 1) = some (n, (varB (n / 128)).length + 1)
        congr 2
        omega
theorem fixB_len : ∀ (k n : Nat), (fixB k n).length = k
  | 0, _ => rfl
  | k + 1, n => by simp [fixB, fixB_len k n]
theorem fxN_cons (c : UInt8) (l : List UInt8) : fxN (c :: l) = c.toNat * 256 ^ l.length + fxN l := by
  have aux : ∀ (l : List UInt8) (n : Nat), l.foldl (fun n c => n * 256 + c.toNat) n = n * 256 ^ l.length + l.foldl (fun n c => n * 256 + c.toNat) 0 := by
    intro l
    induction l with
    | nil => intro n; simp
    | cons d r ih =>
      intro n
      simp only [List.foldl_cons, List.length_cons]
      rw [ih (n * 256 + d.toNat), ih (0 * 256 + d.toNat), Nat.pow_succ, Nat.add_mul, Nat.zero_mul, Nat.zero_add, Nat.mul_assoc, Nat.mul_comm 256, Nat.add_assoc]
  unfold fxN
  rw [List.foldl_cons, aux, Nat.zero_mul, Nat.zero_add]
theorem fixB_mod : ∀ (k n m : Nat), n % 256 ^ k = m % 256 ^ k → fixB k n = fixB k m
  | 0, _, _, _ => rfl
  | k + 1, n, m, h => by
    have e : ∀ x : Nat, x / 256 ^ k % 256 = x % 256 ^ (k + 1) / 256 ^ k := fun x => by rw [Nat.pow_succ, Nat.mod_mul_right_div_self]
    have e2 : ∀ x : Nat, x % 256 ^ k = x % 256 ^ (k + 1) % 256 ^ k := fun x => by rw [Nat.pow_succ, Nat.mod_mul_right_mod]
    have h1 : UInt8.ofNat (n / 256 ^ k) = UInt8.ofNat (m / 256 ^ k) := by
      apply UInt8.toNat_inj.1
      rw [UInt8.toNat_ofNat', UInt8.toNat_ofNat']
      show n / 256 ^ k % 256 = m / 256 ^ k % 256
      rw [e, e, h]
    show UInt8.ofNat (n / 256 ^ k) :: fixB k n = UInt8.ofNat (m / 256 ^ k) :: fixB k m
    rw [h1, fixB_mod k n m (by rw [e2 n, e2 m, h])]
theorem fix_form : ∀ (l : List UInt8), fixB l.length (fxN l) = l
  | [] => rfl
  | c :: r => by
    have hr := fxN_lt r
    have hp : 0 < 256 ^ r.length := Nat.pow_pos (by omega)
    have e1 : (c.toNat * 256 ^ r.length + fxN r) / 256 ^ r.length = c.toNat := by
      rw [Nat.add_comm, Nat.add_mul_div_right _ _ hp, Nat.div_eq_of_lt hr, Nat.zero_add]
    show UInt8.ofNat (fxN (c :: r) / 256 ^ r.length) :: fixB r.length (fxN (c :: r)) = c :: r
    rw [fxN_cons, e1, u8_of_nat, fixB_mod r.length (c.toNat * 256 ^ r.length + fxN r) (fxN r) (by rw [Nat.add_comm, Nat.add_mul_mod_self_right]), fix_form r]
theorem fix_put : ∀ (k n : Nat), n < 256 ^ k → fxN (fixB k n) = n
  | 0, n, h => by simp at h; subst h; rfl
  | k + 1, n, h => by
    have hp : 0 < 256 ^ k := Nat.pow_pos (by omega)
    have h1 : n / 256 ^ k < 256 := by rw [Nat.div_lt_iff_lt_mul hp]; rw [Nat.pow_succ] at h; omega
    show fxN (UInt8.ofNat (n / 256 ^ k) :: fixB k n) = n
    rw [fxN_cons, fixB_len, UInt8.toNat_ofNat', Nat.mod_eq_of_lt (by omega), fixB_mod k n (n % 256 ^ k) (by simp), fix_put k (n % 256 ^ k) (Nat.mod_lt _ hp), Nat.mul_comm]
    exact Nat.div_add_mod n (256 ^ k)
end Go.Proofs.YtebbgpnhkpbefaaDoor
