/- A number by digits is read as it was; what is read is told as it was read. -/
import Derived.Test.YtebbgpnhkpbefaaGreatDoorM2
import Derived.Lib.ItoaNum
namespace Go.Proofs.YtebbgpnhkpbefaaGreatDoor
open Go.Lib (decDigits)
set_option linter.unusedVariables false
set_option linter.unusedSimpArgs false

set_option maxRecDepth 100000 in
theorem ix_dig : ∀ n, n < 10 → ix tens (UInt8.ofNat (48 + n)) = n := by decide
theorem dig_ix (c : UInt8) (h : 0 ≤ ix tens c) : UInt8.ofNat (48 + (ix tens c).toNat) = c := by
  have hl := ix_lt tens c
  have hg := ix_get tens c h
  obtain ⟨k, hk⟩ : ∃ k : Nat, ix tens c = k := ⟨(ix tens c).toNat, by omega⟩
  rw [hk] at hg hl ⊢
  simp [tens] at hl hg ⊢
  rw [← hg]
  have : k = 0 ∨ k = 1 ∨ k = 2 ∨ k = 3 ∨ k = 4 ∨ k = 5 ∨ k = 6 ∨ k = 7 ∨ k = 8 ∨ k = 9 := by omega
  rcases this with rfl | rfl | rfl | rfl | rfl | rfl | rfl | rfl | rfl | rfl <;> rfl
/-- One step behind what was read. -/
def ustep (p n : Nat) (c : UInt8) : Except Nat Nat := if ix tens c < 0 ∨ (0 < p ∧ n = 0) ∨ 18446744073709551615 < 10 * n + (ix tens c).toNat then .error p else .ok (10 * n + (ix tens c).toNat)
theorem undec_snoc (c : UInt8) : ∀ (l : List UInt8) (p n : Nat), undec p n (l ++ [c]) = match undec p n l with
    | .error k => .error k
    | .ok m => ustep (p + l.length) m c
  | [], p, n => by
    simp only [List.nil_append, undec, ustep, List.length_nil, Nat.add_zero]
  | a :: l, p, n => by
    simp only [List.cons_append, undec]
    by_cases h : ix tens a < 0 ∨ (0 < p ∧ n = 0) ∨ 18446744073709551615 < 10 * n + (ix tens a).toNat
    · rw [if_pos h, if_pos h]
    · rw [if_neg h, if_neg h, undec_snoc c l (p + 1)]
      simp only [List.length_cons]
      rw [show p + 1 + l.length = p + (l.length + 1) by omega]
theorem decDigits_ne (u : Nat) : decDigits u ≠ [] := by
  rw [decDigits]; split <;> simp
theorem undec_dec (u : Nat) (h : u < 18446744073709551616) : undec 0 0 (decDigits u) = .ok u := by
  induction u using Nat.strongRecOn with
  | ind u ih =>
    rw [decDigits]
    by_cases h10 : u < 10
    · rw [dif_pos h10]
      simp only [undec]
      rw [ix_dig u h10, if_neg (by omega)]
      simp
    · rw [dif_neg h10, undec_snoc, ih (u / 10) (by omega) (by omega)]
      have hp := List.length_pos_iff.2 (decDigits_ne (u / 10))
      simp only [ustep]
      rw [ix_dig (u % 10) (by omega), if_neg (by omega)]
      congr 1
      omega
theorem fromdec_dec (u : Nat) (h : u < 18446744073709551616) : fromdec (decDigits u) = .ok u := by
  rw [fromdec, if_neg (decDigits_ne u), undec_dec u h]
theorem dec_undec_len : ∀ (k : Nat) (t : List UInt8), t.length = k → t ≠ [] → ∀ z, undec 0 0 t = .ok z → decDigits z = t := by
  intro k
  induction k with
  | zero => intro t h0 h1; exact absurd (List.length_eq_zero_iff.1 h0) h1
  | succ k ih =>
    intro t h0 h1 z hz
    obtain ⟨l, c, rfl⟩ : ∃ l c, t = l ++ [c] := ⟨t.dropLast, t.getLast h1, (List.dropLast_concat_getLast h1).symm⟩
    rw [undec_snoc] at hz
    have hlt := ix_lt tens c
    have hl10 : (tens.length : Int) = 10 := rfl
    by_cases hl : l = []
    · subst hl
      simp only [undec, ustep, List.length_nil, Nat.add_zero] at hz
      split at hz
      · cases hz
      · rename_i hn
        obtain rfl := Except.ok.inj hz
        rw [decDigits, dif_pos (by omega)]
        have := dig_ix c (by omega)
        simp only [List.nil_append]
        rw [show 10 * 0 + (ix tens c).toNat = (ix tens c).toNat by omega, this]
    · have hp := List.length_pos_iff.2 hl
      rcases hu : undec 0 0 l with e | m
      · rw [hu] at hz; cases hz
      · rw [hu] at hz
        have him := ih l (by simp at h0; omega) hl m hu
        simp only [ustep] at hz
        split at hz
        · cases hz
        · rename_i hn
          obtain rfl := Except.ok.inj hz
          rw [decDigits, dif_neg (by omega), show (10 * m + (ix tens c).toNat) / 10 = m by omega, show (10 * m + (ix tens c).toNat) % 10 = (ix tens c).toNat by omega, him, dig_ix c (by omega)]
theorem dec_fromdec (t : List UInt8) (z : Nat) (h : fromdec t = .ok z) : decDigits z = t := by
  unfold fromdec at h
  by_cases hn : t = []
  · rw [if_pos hn] at h; cases h
  · rw [if_neg hn] at h; exact dec_undec_len t.length t rfl hn z h
theorem undec_le : ∀ (t : List UInt8) (p n z : Nat), n ≤ 18446744073709551615 → undec p n t = .ok z → z ≤ 18446744073709551615
  | [], p, n, z, hn, h => by obtain rfl := Except.ok.inj h; exact hn
  | c :: r, p, n, z, hn, h => by
    rw [undec] at h
    split at h
    · cases h
    · exact undec_le r _ _ z (by omega) h
theorem fromdec_le (t : List UInt8) (z : Nat) (h : fromdec t = .ok z) : z ≤ 18446744073709551615 := by
  unfold fromdec at h
  split at h
  · cases h
  · exact undec_le t 0 0 z (by omega) h
end Go.Proofs.YtebbgpnhkpbefaaGreatDoor
