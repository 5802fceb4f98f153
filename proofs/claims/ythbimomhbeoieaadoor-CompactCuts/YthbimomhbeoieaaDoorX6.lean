/- compact: what is pushed onto a cover is the next cover. -/
import Derived.Test.YthbimomhbeoieaaDoorX3
namespace Go.Proofs.YthbimomhbeoieaaDoor
open Go.RowKit
set_option linter.unusedVariables false
set_option linter.unusedSimpArgs false
/-- Where the trees stand. -/
def ats (T : List Tre) : List (Nat × Nat) := T.map fun t => (t.L, t.I)
theorem ats_app (T U : List Tre) : ats (T ++ U) = ats T ++ ats U := by simp [ats]
theorem ats_len (T : List Tre) : (ats T).length = T.length := by simp [ats]
theorem row_snoc : ∀ (l : List (Nat × Nat)) (a b : Nat) (p : Nat × Nat), Row a b l → p.2 * 2 ^ p.1 = b → Row a (b + 2 ^ p.1) (l ++ [p])
  | [], a, b, p, h, hp => by
    have h0 : a = b := h
    exact ⟨by omega, by show a + 2 ^ p.1 = b + 2 ^ p.1; omega⟩
  | t :: r, a, b, p, h, hp => ⟨h.1, row_snoc r _ b p h.2 hp⟩
theorem row_unsnoc : ∀ (l : List (Nat × Nat)) (a c : Nat) (p : Nat × Nat), Row a c (l ++ [p]) → ∃ b, Row a b l ∧ p.2 * 2 ^ p.1 = b ∧ c = b + 2 ^ p.1
  | [], a, c, p, h => by
    have h1 : a + 2 ^ p.1 = c := h.2
    exact ⟨a, rfl, h.1, h1.symm⟩
  | t :: r, a, c, p, h => by
    obtain ⟨b, h1, h2, h3⟩ := row_unsnoc r _ c p h.2
    exact ⟨b, ⟨h.1, h1⟩, h2, h3⟩
theorem red_snoc : ∀ (l : List (Nat × Nat)) (p q : Nat × Nat), Red (l ++ [p]) → ¬ (p.1 = q.1 ∧ p.2 % 2 = 0) → Red (l ++ [p] ++ [q])
  | [], p, q, _, h => ⟨h, trivial⟩
  | [t], p, q, h, hq => ⟨h.1, hq, trivial⟩
  | t :: u :: r, p, q, h, hq => ⟨h.1, red_snoc (u :: r) p q h.2 hq⟩
theorem red_unsnoc : ∀ (l : List (Nat × Nat)) (p : Nat × Nat), Red (l ++ [p]) → Red l
  | [], p, _ => trivial
  | [t], p, _ => trivial
  | t :: u :: r, p, h => ⟨h.1, red_unsnoc (u :: r) p h.2⟩
theorem red_one (p : Nat × Nat) : Red [p] := trivial
/-- Neighbours are siblings just where they are both halves of one. -/
theorem sib_iff {x t : Tre} (hx : x.ok) (ht : t.ok) (h : t.I * 2 ^ t.L = x.I * 2 ^ x.L + 2 ^ x.L) : Sib x t ↔ x.L = t.L ∧ x.I % 2 = 0 := by
  have hpos : 0 < 2 ^ x.L := Nat.pow_pos (by decide)
  constructor
  · rintro ⟨h1, h2, h3⟩
    refine ⟨h2.symm, ?_⟩
    rw [h2, ← Nat.succ_mul] at h
    have h4 : t.I = x.I + 1 := Nat.eq_of_mul_eq_mul_right hpos h
    unfold sib at h3
    split at h3
    · assumption
    · omega
  · rintro ⟨h1, h2⟩
    rw [← h1, ← Nat.succ_mul] at h
    have h4 : t.I = x.I + 1 := Nat.eq_of_mul_eq_mul_right hpos h
    refine ⟨?_, h1.symm, ?_⟩
    · have h5 := ht.may.2
      have h6 := hx.may.1
      rcases Nat.lt_or_ge x.L 63 with h7 | h7
      · exact h7
      · have h8 : x.L = 63 := by omega
        rw [← h1, h8] at h5
        rw [h4] at h5
        have : (x.I + 1 + 1) * 2 ^ 63 = (x.I + 1) * 2 ^ 63 + 2 ^ 63 := by rw [Nat.succ_mul]
        have h9 : 0 < (x.I + 1) * 2 ^ 63 := Nat.mul_pos (by omega) (by decide)
        omega
    · unfold sib; rw [if_pos h2]; exact h4
theorem both_at {x t : Tre} (h : Sib x t) (he : x.I % 2 = 0) : (both x t).I * 2 ^ (both x t).L = x.I * 2 ^ x.L := by
  show x.I / 2 * 2 ^ (x.L + 1) = x.I * 2 ^ x.L
  rw [Nat.pow_succ, Nat.mul_comm (2 ^ x.L) 2, ← Nat.mul_assoc]
  congr 1
  omega
theorem psh_row : ∀ (n : Nat) (T : List Tre) (t : Tre) (B a : Nat), T.length = n → (∀ x ∈ T, x.ok) → t.ok → Row B a (ats T) → Red (ats T) → t.I * 2 ^ t.L = a → Row B (a + 2 ^ t.L) (ats (psh T t)) ∧ Red (ats (psh T t))
  | 0, T, t, B, a, hn, hT, ht, hr, hd, ha => by
    obtain rfl : T = [] := List.length_eq_zero_iff.1 hn
    rw [psh_nil]
    exact ⟨row_snoc [] B a (t.L, t.I) hr ha, trivial⟩
  | n + 1, T, t, B, a, hn, hT, ht, hr, hd, ha => by
    rcases List.eq_nil_or_concat T with rfl | ⟨r, x, rfl⟩
    · simp at hn
    · rw [List.concat_eq_append] at hn hT hr hd ⊢
      rw [ats_app] at hr hd
      have hx : x.ok := hT x (by simp)
      obtain ⟨b, h1, h2, h3⟩ := row_unsnoc (ats r) B a (x.L, x.I) hr
      have hadj : t.I * 2 ^ t.L = x.I * 2 ^ x.L + 2 ^ x.L := by rw [ha, h3, ← h2]
      have hsi := sib_iff hx ht hadj
      by_cases hs : Sib x t
      · rw [psh_yes hs]
        have he := hsi.1 hs
        have hb := both_at hs he.2
        have hlen : r.length = n := by simp at hn; exact hn
        have ih := psh_row n r (both x t) B b hlen (fun y hy => hT y (by simp [hy])) (both_ok hx hs) h1 (red_unsnoc _ _ hd) (by rw [hb]; exact h2)
        have e : b + 2 ^ (both x t).L = a + 2 ^ t.L := by
          show b + 2 ^ (x.L + 1) = a + 2 ^ t.L
          rw [h3, Nat.pow_succ, ← he.1]
          show b + 2 ^ x.L * 2 = b + 2 ^ x.L + 2 ^ x.L
          omega
        rw [e] at ih
        exact ih
      · rw [psh_no hs, ats_app, ats_app]
        refine ⟨row_snoc (ats r ++ ats [x]) B a (t.L, t.I) hr ha, red_snoc (ats r) (x.L, x.I) (t.L, t.I) hd (fun q => hs (hsi.2 q))⟩
/-- A range's trees are the cover's. -/
def Cvd (B E : Nat) (T : List Tre) : Prop := Row B E (ats T) ∧ Red (ats T)
theorem Cvd.cov {B E : Nat} {T : List Tre} (h : Cvd B E T) : ats T = cov B E := cov_uniq _ _ _ h.1 h.2
theorem Cvd.nil (B : Nat) : Cvd B B [] := ⟨rfl, trivial⟩
theorem Cvd.len {B E : Nat} {T : List Tre} (h : Cvd B E T) (hE : E ≤ 9223372036854775808) : T.length ≤ 128 := by
  rw [← ats_len, h.cov]
  exact cov_len B E (by rw [p63]; exact hE)
theorem Cvd.push {B a : Nat} {T : List Tre} {t : Tre} (h : Cvd B a T) (hT : ∀ x ∈ T, x.ok) (ht : t.ok) (ha : t.I * 2 ^ t.L = a) : Cvd B (a + 2 ^ t.L) (psh T t) := psh_row _ T t B a rfl hT ht h.1 h.2 ha
theorem Cvd.leaf {B E : Nat} {T : List Tre} (h : Cvd B E T) (hT : ∀ x ∈ T, x.ok) {x : List UInt8} (ht : Tre.ok ⟨0, E, x⟩) : Cvd B (E + 1) (psh T ⟨0, E, x⟩) := h.push hT ht (by show E * 2 ^ 0 = E; omega)
/-- All trees of another range laid down one by one. -/
def pshAll (T U : List Tre) : List Tre := U.foldl psh T
theorem pshAll_ok : ∀ (U T : List Tre), (∀ x ∈ T, x.ok) → (∀ x ∈ U, x.ok) → ∀ x ∈ pshAll T U, x.ok
  | [], T, hT, _, x, hx => hT x hx
  | u :: r, T, hT, hU, x, hx => pshAll_ok r (psh T u) (psh_ok hT (hU u (by simp))) (fun y hy => hU y (by simp [hy])) x hx
theorem Cvd.joins : ∀ (U T : List Tre) (B a c : Nat), Cvd B a T → (∀ x ∈ T, x.ok) → (∀ x ∈ U, x.ok) → Row a c (ats U) → Cvd B c (pshAll T U)
  | [], T, B, a, c, h, _, _, hr => by
    have : a = c := hr
    rw [← this]; exact h
  | u :: r, T, B, a, c, h, hT, hU, hr => Cvd.joins r (psh T u) B _ c (h.push hT (hU u (by simp)) hr.1) (psh_ok hT (hU u (by simp))) (fun y hy => hU y (by simp [hy])) hr.2
end Go.Proofs.YthbimomhbeoieaaDoor
