/- The document's way to a text's first rune. -/
import Derived.Test.YtebbgpnhkpbefaaGreatDoorM6
namespace Go.Proofs.YtebbgpnhkpbefaaGreatDoor
open Go.Lib
set_option linter.unusedVariables false
set_option linter.unusedSimpArgs false

def rfirst (n b0 b1 b2 b3 : Nat) : Nat × Nat :=
  if b0 < 128 then (b0, 1)
  else if (194 ≤ b0 ∧ b0 ≤ 223) ∧ (1 < n ∧ 128 ≤ b1 ∧ b1 ≤ 191) then ((b0 - 192) * 64 + (b1 - 128), 2)
  else if (224 ≤ b0 ∧ b0 ≤ 239) ∧ (1 < n ∧ 128 ≤ b1 ∧ b1 ≤ 191) ∧ (2 < n ∧ 128 ≤ b2 ∧ b2 ≤ 191) then
    (if (b0 - 224) * 4096 + (b1 - 128) * 64 + (b2 - 128) < 2048 ∨ (55296 ≤ (b0 - 224) * 4096 + (b1 - 128) * 64 + (b2 - 128) ∧ (b0 - 224) * 4096 + (b1 - 128) * 64 + (b2 - 128) ≤ 57343) then (0, 0) else ((b0 - 224) * 4096 + (b1 - 128) * 64 + (b2 - 128), 3))
  else if (240 ≤ b0 ∧ b0 ≤ 244) ∧ (1 < n ∧ 128 ≤ b1 ∧ b1 ≤ 191) ∧ (2 < n ∧ 128 ≤ b2 ∧ b2 ≤ 191) ∧ (3 < n ∧ 128 ≤ b3 ∧ b3 ≤ 191) then
    (if (b0 - 240) * 262144 + (b1 - 128) * 4096 + (b2 - 128) * 64 + (b3 - 128) < 65536 ∨ 1114111 < (b0 - 240) * 262144 + (b1 - 128) * 4096 + (b2 - 128) * 64 + (b3 - 128) then (0, 0) else ((b0 - 240) * 262144 + (b1 - 128) * 4096 + (b2 - 128) * 64 + (b3 - 128), 4))
  else (0, 0)
set_option maxHeartbeats 4000000 in
theorem rfirst_eq (n b0 b1 b2 b3 : Nat) (h0 : b0 < 256) (h1 : b1 < 256) (h2 : b2 < 256) (h3 : b3 < 256) : rfirst n b0 b1 b2 b3 = if decodeN n b0 b1 b2 b3 = (65533, 1) then (0, 0) else decodeN n b0 b1 b2 b3 := by
  have c1 : (b1 / 64 = 2) = (128 ≤ b1 ∧ b1 ≤ 191) := propext ⟨fun h => by omega, fun h => by omega⟩
  have c2 : (b2 / 64 = 2) = (128 ≤ b2 ∧ b2 ≤ 191) := propext ⟨fun h => by omega, fun h => by omega⟩
  have c3 : (b3 / 64 = 2) = (128 ≤ b3 ∧ b3 ≤ 191) := propext ⟨fun h => by omega, fun h => by omega⟩
  by_cases g0 : b0 < 128
  · have e : decodeN n b0 b1 b2 b3 = (b0, 1) := by unfold decodeN; rw [if_pos g0]
    rw [e, rfirst, if_pos g0, if_neg (by intro h; simp at h; omega)]
  · by_cases g1 : b0 / 32 = 6 ∧ (1 < n ∧ b1 / 64 = 2)
    · have e : decodeN n b0 b1 b2 b3 = if b0 % 32 * 64 + b1 % 64 ≥ 128 then (b0 % 32 * 64 + b1 % 64, 2) else (65533, 1) := by unfold decodeN; rw [if_neg g0, if_pos g1]
      rw [c1] at g1
      by_cases k : b0 % 32 * 64 + b1 % 64 ≥ 128
      · rw [if_pos k] at e
        rw [e, rfirst, if_neg g0, if_pos (by omega), if_neg (by simp)]
        rw [show (b0 - 192) * 64 + (b1 - 128) = b0 % 32 * 64 + b1 % 64 by omega]
      · rw [if_neg k] at e
        rw [e, rfirst, if_neg g0, if_neg (by omega), if_neg (by omega), if_neg (by omega), if_pos rfl]
    · by_cases g2 : b0 / 16 = 14 ∧ (1 < n ∧ b1 / 64 = 2) ∧ (2 < n ∧ b2 / 64 = 2)
      · have e : decodeN n b0 b1 b2 b3 = if b0 % 16 * 4096 + b1 % 64 * 64 + b2 % 64 ≥ 2048 ∧ (b0 % 16 * 4096 + b1 % 64 * 64 + b2 % 64 < 55296 ∨ (57344 ≤ b0 % 16 * 4096 + b1 % 64 * 64 + b2 % 64 ∧ b0 % 16 * 4096 + b1 % 64 * 64 + b2 % 64 ≤ 1114111)) then (b0 % 16 * 4096 + b1 % 64 * 64 + b2 % 64, 3) else (65533, 1) := by unfold decodeN; rw [if_neg g0, if_neg g1, if_pos g2]
        rw [c1, c2] at g2
        have hm : (b0 - 224) * 4096 + (b1 - 128) * 64 + (b2 - 128) = b0 % 16 * 4096 + b1 % 64 * 64 + b2 % 64 := by omega
        by_cases k : b0 % 16 * 4096 + b1 % 64 * 64 + b2 % 64 ≥ 2048 ∧ (b0 % 16 * 4096 + b1 % 64 * 64 + b2 % 64 < 55296 ∨ (57344 ≤ b0 % 16 * 4096 + b1 % 64 * 64 + b2 % 64 ∧ b0 % 16 * 4096 + b1 % 64 * 64 + b2 % 64 ≤ 1114111))
        · rw [if_pos k] at e
          rw [e, rfirst, if_neg g0, if_neg (by omega), if_pos (by omega), hm, if_neg (by omega), if_neg (by simp)]
        · rw [if_neg k] at e
          rw [e, rfirst, if_neg g0, if_neg (by omega), if_pos (by omega), hm, if_pos (by omega), if_pos rfl]
      · by_cases g3 : b0 / 8 = 30 ∧ (1 < n ∧ b1 / 64 = 2) ∧ (2 < n ∧ b2 / 64 = 2) ∧ (3 < n ∧ b3 / 64 = 2)
        · have e : decodeN n b0 b1 b2 b3 = if b0 % 8 * 262144 + b1 % 64 * 4096 + b2 % 64 * 64 + b3 % 64 ≥ 65536 ∧ (b0 % 8 * 262144 + b1 % 64 * 4096 + b2 % 64 * 64 + b3 % 64 < 55296 ∨ (57344 ≤ b0 % 8 * 262144 + b1 % 64 * 4096 + b2 % 64 * 64 + b3 % 64 ∧ b0 % 8 * 262144 + b1 % 64 * 4096 + b2 % 64 * 64 + b3 % 64 ≤ 1114111)) then (b0 % 8 * 262144 + b1 % 64 * 4096 + b2 % 64 * 64 + b3 % 64, 4) else (65533, 1) := by unfold decodeN; rw [if_neg g0, if_neg g1, if_neg g2, if_pos g3]
          rw [c1, c2, c3] at g3
          have hm : (b0 - 240) * 262144 + (b1 - 128) * 4096 + (b2 - 128) * 64 + (b3 - 128) = b0 % 8 * 262144 + b1 % 64 * 4096 + b2 % 64 * 64 + b3 % 64 := by omega
          by_cases k : b0 % 8 * 262144 + b1 % 64 * 4096 + b2 % 64 * 64 + b3 % 64 ≥ 65536 ∧ (b0 % 8 * 262144 + b1 % 64 * 4096 + b2 % 64 * 64 + b3 % 64 < 55296 ∨ (57344 ≤ b0 % 8 * 262144 + b1 % 64 * 4096 + b2 % 64 * 64 + b3 % 64 ∧ b0 % 8 * 262144 + b1 % 64 * 4096 + b2 % 64 * 64 + b3 % 64 ≤ 1114111))
          · rw [if_pos k] at e
            rw [e, rfirst, if_neg g0, if_neg (by omega), if_neg (by omega), if_pos (by omega), hm, if_neg (by omega), if_neg (by simp)]
          · rw [if_neg k] at e
            rw [e, if_pos rfl, rfirst, if_neg g0, if_neg (by omega), if_neg (by omega)]
            by_cases k4 : b0 ≤ 244
            · rw [if_pos (by omega), hm, if_pos (by omega)]
            · rw [if_neg (by omega)]
        · have e : decodeN n b0 b1 b2 b3 = (65533, 1) := by unfold decodeN; rw [if_neg g0, if_neg g1, if_neg g2, if_neg g3]
          rw [c1, c2, c3] at g3
          rw [c1, c2] at g2
          rw [c1] at g1
          rw [e, if_pos rfl, rfirst, if_neg g0, if_neg (by omega), if_neg (by omega), if_neg (by omega)]
/-- The first rune of a text, and how many bytes it has; 0: none begins there. -/
def rf (l : List UInt8) : Nat × Nat := rfirst l.length (l.getD 0 0).toNat (l.getD 1 0).toNat (l.getD 2 0).toNat (l.getD 3 0).toNat
theorem rf_eq (l : List UInt8) : rf l = if dl l = (65533, 1) then (0, 0) else dl l := rfirst_eq _ _ _ _ _ (UInt8.toNat_lt _) (UInt8.toNat_lt _) (UInt8.toNat_lt _) (UInt8.toNat_lt _)
/-- What clear asks, rune by rune. -/
theorem clr_rf (bad : Nat → Bool) (l : List UInt8) (h : l ≠ []) : clr bad l = if (rf l).2 = 0 then false else if bad (rf l).1 then false else clr bad (l.drop (rf l).2) := by
  rw [clr_step bad l h, rf_eq]
  have hp := dl_pos l
  by_cases h1 : dl l = (65533, 1)
  · simp [h1]
  · have h0 : ¬ (dl l).2 = 0 := by omega
    simp only [if_neg h1, if_neg h0]
/-- What a loop over the runes of a text that is not broken asks. -/
theorem valid_clr (bad : Nat → Bool) : ∀ (n : Nat) (l : List UInt8), l.length ≤ n → clr bad l = (validGoD n l && clr bad l) := by
  intro n
  induction n with
  | zero => intro l h; obtain rfl := List.length_eq_zero_iff.1 (Nat.le_zero.1 h); rfl
  | succ n ih =>
    intro l h
    by_cases hl : l = []
    · subst hl; simp [validGoD]
    · have hp := dl_pos l
      have := List.length_pos_iff.2 hl
      rw [validGoD, if_neg hl, dl_eq]
      by_cases h1 : (dl l).1 = 65533 ∧ (dl l).2 = 1
      · rw [if_pos h1, clr_step bad l hl, if_pos (Prod.ext h1.1 h1.2)]; rfl
      · rw [if_neg h1]
        have hd : dl l ≠ (65533, 1) := fun e => h1 (by rw [e]; exact ⟨rfl, rfl⟩)
        rw [clr_step bad l hl, if_neg hd]
        by_cases h2 : bad (dl l).1 = true
        · simp [h2]
        · rw [if_neg h2]
          exact ih _ (by simp only [List.length_drop]; omega)
theorem valid_of_clr (bad : Nat → Bool) (l : List UInt8) (h : validD l = false) : clr bad l = false := by
  rw [valid_clr bad l.length l (Nat.le_refl _)]
  have : validGoD l.length l = false := h
  rw [this]; rfl
theorem valid_step (l : List UInt8) (n : Nat) (hn : l.length ≤ n + 1) (hl : l ≠ []) (h : validGoD (n + 1) l = true) : dl l ≠ (65533, 1) ∧ validGoD n (l.drop (dl l).2) = true := by
  rw [validGoD, if_neg hl, dl_eq] at h
  by_cases h1 : (dl l).1 = 65533 ∧ (dl l).2 = 1
  · rw [if_pos h1] at h; cases h
  · rw [if_neg h1] at h
    exact ⟨fun e => h1 (by rw [e]; exact ⟨rfl, rfl⟩), h⟩
end Go.Proofs.YtebbgpnhkpbefaaGreatDoor
