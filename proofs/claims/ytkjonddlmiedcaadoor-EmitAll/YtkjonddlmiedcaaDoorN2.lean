/- The peaks: the powers of two whose sum a number is. -/
import Derived.Test.YtkjonddlmiedcaaDoorN1
import Derived.Test.YtkjonddlmiedcaaDoorM1
namespace Go.Proofs.YtkjonddlmiedcaaDoor
set_option linter.unusedVariables false
/- ### the powers of two whose sum a number is, by their exponents -/
def exs (n : Nat) : List Nat := if h : n = 0 then [] else n.log2 :: exs (n - 2 ^ n.log2)
termination_by n
decreasing_by have := Nat.two_pow_pos n.log2; omega
theorem exs_zero : exs 0 = [] := by rw [exs]; simp
theorem log2_of {n k : Nat} (h1 : 2 ^ k ≤ n) (h2 : n < 2 * 2 ^ k) : n.log2 = k := (Nat.log2_eq_iff (by have := Nat.two_pow_pos k; omega)).2 ⟨h1, by rw [Nat.pow_succ']; exact h2⟩
theorem exs_step {n k : Nat} (h1 : 2 ^ k ≤ n) (h2 : n < 2 * 2 ^ k) : exs n = k :: exs (n - 2 ^ k) := by
  have hp := Nat.two_pow_pos k
  rw [exs, dif_neg (by omega), log2_of h1 h2]
theorem exs_fall : ∀ {n k : Nat}, n < 2 ^ k → ∀ j ∈ exs n, j < k := by
  intro n
  induction n using Nat.strongRecOn with
  | ind n ih =>
    intro k hk j hj
    by_cases h0 : n = 0
    · subst h0; rw [exs_zero] at hj; cases hj
    · have a := Nat.log2_self_le h0
      have b := Nat.lt_log2_self (n := n)
      rw [Nat.pow_succ'] at b
      rw [exs_step a b] at hj
      have hl : n.log2 < k := (Nat.log2_lt h0).2 hk
      rcases List.mem_cons.1 hj with rfl | hj
      · exact hl
      · have hp := Nat.two_pow_pos n.log2
        have := ih (n - 2 ^ n.log2) (by omega) (k := n.log2) (by omega) j hj
        omega
/-- Levels that fall. -/
def Fal : List Nat → Prop
  | a :: b :: r => b < a ∧ Fal (b :: r)
  | _ => True
theorem exs_fal (n : Nat) : Fal (exs n) := by
  induction n using Nat.strongRecOn with
  | ind n ih =>
    by_cases h0 : n = 0
    · subst h0; rw [exs_zero]; trivial
    · have a := Nat.log2_self_le h0
      have b := Nat.lt_log2_self (n := n)
      rw [Nat.pow_succ'] at b
      have hp := Nat.two_pow_pos n.log2
      rw [exs_step a b]
      have i := ih (n - 2 ^ n.log2) (by omega)
      have f := exs_fall (n := n - 2 ^ n.log2) (k := n.log2) (by omega)
      cases h : exs (n - 2 ^ n.log2) with
      | nil => trivial
      | cons c r => rw [h] at i f; exact ⟨f c (by simp), i⟩
/-- Whole trees of these levels side by side. -/
def cvs : Nat → List Nat → List (Nat × Nat)
  | _, [] => []
  | a, L :: r => (L, a / 2 ^ L) :: cvs (a + 2 ^ L) r
theorem cvs_len : ∀ (a : Nat) (l : List Nat), (cvs a l).length = l.length
  | _, [] => rfl
  | a, L :: r => by simp [cvs, cvs_len _ r]
theorem cvs_lev : ∀ (a : Nat) (l : List Nat), (cvs a l).map (fun t => t.1) = l
  | _, [] => rfl
  | a, L :: r => by simp [cvs, cvs_lev _ r]
theorem cvs_app : ∀ (a : Nat) (l m : List Nat), cvs a (l ++ m) = cvs a l ++ cvs (a + (l.map (fun k => 2 ^ k)).sum) m
  | a, [], m => by simp [cvs]
  | a, L :: r, m => by simp [cvs, cvs_app _ r m, Nat.add_assoc]
theorem cov_exs : ∀ (r k a : Nat), 2 ^ k ∣ a → r < 2 ^ k → cov a (a + r) = cvs a (exs r) := by
  intro r
  induction r using Nat.strongRecOn with
  | ind r ih =>
    intro k a hd hr
    by_cases h0 : r = 0
    · subst h0; rw [exs_zero, cov_nil (by omega)]; rfl
    · have x := Nat.log2_self_le h0
      have y := Nat.lt_log2_self (n := r)
      rw [Nat.pow_succ'] at y
      have hp := Nat.two_pow_pos r.log2
      have hl : r.log2 < k := (Nat.log2_lt h0).2 hr
      have hw : IsW a (a + r) r.log2 := ⟨⟨pow_dvd_of_le (by omega) hd, by omega⟩, fun q => by have := q.2; rw [Nat.pow_succ'] at this; omega⟩
      rw [exs_step x y, cov_step hw]
      have := ih (r - 2 ^ r.log2) (by omega) r.log2 (a + 2 ^ r.log2) (Nat.dvd_add hw.1.1 (Nat.dvd_refl _)) (by omega)
      have e : a + 2 ^ r.log2 + (r - 2 ^ r.log2) = a + r := by omega
      rw [e] at this
      rw [this]
      rfl
theorem cov_zero (n : Nat) : cov 0 n = cvs 0 (exs n) := by
  have h : n < 2 ^ n := Nat.lt_two_pow_self
  have := cov_exs n n 0 (Nat.dvd_zero _) h
  rwa [Nat.zero_add] at this
theorem exs_sum (n : Nat) : ((exs n).map (fun k => 2 ^ k)).sum = n := by
  induction n using Nat.strongRecOn with
  | ind n ih =>
    by_cases h0 : n = 0
    · subst h0; rw [exs_zero]; rfl
    · have a := Nat.log2_self_le h0
      have b := Nat.lt_log2_self (n := n)
      rw [Nat.pow_succ'] at b
      have hp := Nat.two_pow_pos n.log2
      rw [exs_step a b, List.map_cons, List.sum_cons, ih (n - 2 ^ n.log2) (by omega)]
      omega
/-- With two trees at least the first one is as great as the left part. -/
theorem exs_split {n k : Nat} (h1 : 2 ^ k ≤ n) (h2 : n < 2 * 2 ^ k) (h3 : 2 ≤ (exs n).length) : spl n = 2 ^ k := by
  rw [exs_step h1 h2] at h3
  have hp := Nat.two_pow_pos k
  refine spl_of ?_ (by omega)
  rcases Nat.lt_or_ge (2 ^ k) n with h | h
  · exact h
  · have : n - 2 ^ k = 0 := by omega
    rw [this, exs_zero] at h3
    simp at h3
end Go.Proofs.YtkjonddlmiedcaaDoor
