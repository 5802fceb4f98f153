/- A group of letters, read. -/
import Derived.Test.YtebbgpnhkpbefaaGreatDoorA2
namespace Go.Proofs.YtebbgpnhkpbefaaGreatDoor
open Go.RowKit
set_option linter.unusedVariables false
set_option linter.unusedSimpArgs false

theorem head_slice (s : ByteArray) (q : Nat) (h2 : q ≤ s.size) (w : World) : (Instr.slice 9 (.string s) none (some (.int .i64 (q : Int))) none).run Tryz.prog w = .ok (.string (s.extract 0 q)) w := by
  rw [run_slice_string_to_if _ _ _ _ _ Tryz.underlying9, if_pos (by omega)]
  rfl
theorem idx_abc (c : UInt8) (w : World) : Calls Tryz.prog 116 #[.string abcB, .int .u8 c.toNat] w fun e w' => e = .returned (.int .i64 (ix abc c)) ∧ w' = w := by
  have h := Tryz.strings_IndexByte abcB c.toNat w
  have e : ((c.toNat : Int)).toNat.toUInt8 = c := by simp
  rw [e] at h
  exact h
/-- The byte at a place of a list. -/
def C (l : List UInt8) (k : Nat) : UInt8 := l.getD k 0
/-- The bits of the first so many letters. -/
def acc4 (l : List UInt8) (k : Nat) : Nat := (if 0 < k then ixn (C l 0) * 262144 else 0) + (if 1 < k then ixn (C l 1) * 4096 else 0) + (if 2 < k then ixn (C l 2) * 64 else 0) + (if 3 < k then ixn (C l 3) else 0)
theorem acc4_lt (l : List UInt8) (k : Nat) : acc4 l k < 16777216 := by
  have := ixn_lt (C l 0); have := ixn_lt (C l 1); have := ixn_lt (C l 2); have := ixn_lt (C l 3)
  unfold acc4
  split <;> split <;> split <;> split <;> omega
theorem acc4_0 (l : List UInt8) (h : 0 ≤ ix abc (C l 0)) : bits .or .u32 0 (ix abc (C l 0) % 4294967296 * 262144 % 4294967296) = ((acc4 l 1 : Nat) : Int) := by
  have := ixn_lt (C l 0)
  rw [ix_ixn _ h]
  have e : ((ixn (C l 0) : Int) % 4294967296 * 262144 % 4294967296) = ((ixn (C l 0) * 262144 : Nat) : Int) := by omega
  have := or32 24 0 (ixn (C l 0) * 262144) (by omega) (by omega)
  rw [e]
  simpa [acc4] using this
theorem acc4_1 (l : List UInt8) (h : 0 ≤ ix abc (C l 1)) : bits .or .u32 ((acc4 l 1 : Nat) : Int) (ix abc (C l 1) % 4294967296 * 4096 % 4294967296) = ((acc4 l 2 : Nat) : Int) := by
  have := ixn_lt (C l 0); have := ixn_lt (C l 1)
  rw [ix_ixn _ h]
  have e : ((ixn (C l 1) : Int) % 4294967296 * 4096 % 4294967296) = ((ixn (C l 1) * 4096 : Nat) : Int) := by omega
  have h := or32 18 (ixn (C l 0)) (ixn (C l 1) * 4096) (by omega) (by omega)
  rw [e]
  have e1 : acc4 l 1 = 2 ^ 18 * ixn (C l 0) := by simp [acc4]; omega
  have e2 : acc4 l 2 = 2 ^ 18 * ixn (C l 0) + ixn (C l 1) * 4096 := by simp [acc4]; omega
  rw [e1, e2]; exact h
theorem acc4_2 (l : List UInt8) (h : 0 ≤ ix abc (C l 2)) : bits .or .u32 ((acc4 l 2 : Nat) : Int) (ix abc (C l 2) % 4294967296 * 64 % 4294967296) = ((acc4 l 3 : Nat) : Int) := by
  have := ixn_lt (C l 0); have := ixn_lt (C l 1); have := ixn_lt (C l 2)
  rw [ix_ixn _ h]
  have e : ((ixn (C l 2) : Int) % 4294967296 * 64 % 4294967296) = ((ixn (C l 2) * 64 : Nat) : Int) := by omega
  have h := or32 12 (64 * ixn (C l 0) + ixn (C l 1)) (ixn (C l 2) * 64) (by omega) (by omega)
  rw [e]
  have e1 : acc4 l 2 = 2 ^ 12 * (64 * ixn (C l 0) + ixn (C l 1)) := by simp [acc4]; omega
  have e2 : acc4 l 3 = 2 ^ 12 * (64 * ixn (C l 0) + ixn (C l 1)) + ixn (C l 2) * 64 := by simp [acc4]; omega
  rw [e1, e2]; exact h
theorem acc4_3 (l : List UInt8) (h : 0 ≤ ix abc (C l 3)) : bits .or .u32 ((acc4 l 3 : Nat) : Int) (ix abc (C l 3) % 4294967296) = ((acc4 l 4 : Nat) : Int) := by
  have := ixn_lt (C l 0); have := ixn_lt (C l 1); have := ixn_lt (C l 2); have := ixn_lt (C l 3)
  rw [ix_ixn _ h]
  have e : ((ixn (C l 3) : Int) % 4294967296) = ((ixn (C l 3) : Nat) : Int) := by omega
  have h := or32 6 (4096 * ixn (C l 0) + 64 * ixn (C l 1) + ixn (C l 2)) (ixn (C l 3)) (by omega) (by omega)
  rw [e]
  have e1 : acc4 l 3 = 2 ^ 6 * (4096 * ixn (C l 0) + 64 * ixn (C l 1) + ixn (C l 2)) := by simp [acc4]; omega
  have e2 : acc4 l 4 = 2 ^ 6 * (4096 * ixn (C l 0) + 64 * ixn (C l 1) + ixn (C l 2)) + ixn (C l 3) := by simp [acc4]; omega
  rw [e1, e2]; exact h
theorem and16 (x : Nat) (h : x < 4294967296) : bits .and .u32 (x : Int) 65535 = ((x % 65536 : Nat) : Int) := by
  rw [show (65535 : Int) = ((65535 : Nat) : Int) from rfl, u32_and_nat _ _ h (by omega)]
  congr 1
  exact Nat.and_two_pow_sub_one_eq_mod x 16
theorem and8 (x : Nat) (h : x < 4294967296) : bits .and .u32 (x : Int) 255 = ((x % 256 : Nat) : Int) := by
  rw [show (255 : Int) = ((255 : Nat) : Int) from rfl, u32_and_nat _ _ h (by omega)]
  congr 1
  exact Nat.and_two_pow_sub_one_eq_mod x 8
theorem and0 (x : Nat) (h : x < 4294967296) : bits .and .u32 (x : Int) 0 = 0 := by
  rw [show (0 : Int) = ((0 : Nat) : Int) from rfl, u32_and_nat _ _ h (by omega)]
  simp
theorem left2 (l : List UInt8) : acc4 l 2 % 65536 = 0 ↔ ixn (C l 1) % 16 = 0 := by
  have := ixn_lt (C l 1)
  have e2 : acc4 l 2 = ixn (C l 0) * 262144 + ixn (C l 1) * 4096 := by simp [acc4]
  rw [e2]; constructor <;> intro h <;> omega
theorem left3 (l : List UInt8) : acc4 l 3 % 256 = 0 ↔ ixn (C l 2) % 4 = 0 := by
  have := ixn_lt (C l 2)
  have e2 : acc4 l 3 = ixn (C l 0) * 262144 + ixn (C l 1) * 4096 + ixn (C l 2) * 64 := by simp [acc4]
  rw [e2]; constructor <;> intro h <;> omega
/-- What is known of a group when it is read: k letters, then fillers up to place j. -/
theorem rgt_low (l : List UInt8) (k : Nat) (h4 : l.length ≤ 4) (hk : k ≤ l.length) (h2 : k < 2) (hl : ∀ i, i < k → 0 ≤ ix abc (C l i)) (he : k = l.length ∨ ix abc (C l k) < 0) : rgt l = k := by
  rcases l with _ | ⟨c0, r0⟩
  · simp at hk; subst hk; rfl
  · have hk2 : k = 0 ∨ k = 1 := by omega
    rcases hk2 with rfl | rfl
    · rcases he with he | he
      · simp at he
      · simp only [C, List.getD_cons_zero] at he; simp only [rgt]; rw [if_pos he]
    · have g0 := hl 0 (by omega)
      simp only [C, List.getD_cons_zero] at g0
      rcases r0 with _ | ⟨c1, r1⟩
      · simp only [rgt]; rw [if_neg (by omega)]
      · rcases he with he | he
        · simp at he
        · simp only [C, List.getD_cons_succ, List.getD_cons_zero] at he; simp only [rgt]; rw [if_neg (by omega), if_pos he]
theorem rgt_two (l : List UInt8) (h4 : l.length ≤ 4) (hk : 2 ≤ l.length) (hl : ∀ i, i < 2 → 0 ≤ ix abc (C l i)) (he : 2 = l.length ∨ ix abc (C l 2) < 0) (hn : ¬ ixn (C l 1) % 16 = 0) : rgt l = 2 := by
  rcases l with _ | ⟨c0, _ | ⟨c1, r⟩⟩
  · simp at hk
  · simp at hk
  · have g0 := hl 0 (by omega)
    have g1 := hl 1 (by omega)
    simp only [C, List.getD_cons_succ, List.getD_cons_zero] at g0 g1 he hn
    have e1 := ix_ixn c1 g1
    rcases r with _ | ⟨c2, r2⟩
    · simp only [rgt]; rw [if_neg (by omega), if_neg (by omega)]
    · rcases he with he | he
      · simp at he
      · simp only [List.getD_cons_zero] at he
        simp only [rgt]; rw [if_neg (by omega), if_neg (by omega), if_pos he, if_neg (by omega)]
theorem rgt_twoF (l : List UInt8) (j : Nat) (h4 : l.length ≤ 4) (hk : 2 ≤ l.length) (hl : ∀ i, i < 2 → 0 ≤ ix abc (C l i)) (he : 2 = l.length ∨ ix abc (C l 2) < 0) (hn : ixn (C l 1) % 16 = 0) (hj2 : 2 ≤ j) (hj : j ≤ l.length) (hf : ∀ i, 2 ≤ i → i < j → C l i = 61) (hs : j = l.length ∨ C l j ≠ 61) : rgt l = j := by
  rcases l with _ | ⟨c0, _ | ⟨c1, r⟩⟩
  · simp at hk
  · simp at hk
  · have g0 := hl 0 (by omega)
    have g1 := hl 1 (by omega)
    simp only [C, List.getD_cons_succ, List.getD_cons_zero] at g0 g1 he hn hf hs
    have e1 := ix_ixn c1 g1
    rcases r with _ | ⟨c2, _ | ⟨c3, _ | ⟨c4, r4⟩⟩⟩
    · simp at hj; obtain rfl : j = 2 := by omega
      simp only [rgt]; rw [if_neg (by omega), if_neg (by omega)]
    · rcases he with he | he
      · simp at he
      · simp only [List.getD_cons_zero] at he
        simp at hj
        by_cases h3 : j = 3
        · subst h3
          have f2 := hf 2 (by omega) (by omega)
          simp at f2
          simp only [rgt]; rw [if_neg (by omega), if_neg (by omega), if_pos he, if_pos ⟨f2, by omega⟩]
        · obtain rfl : j = 2 := by omega
          simp at hs
          simp only [rgt]; rw [if_neg (by omega), if_neg (by omega), if_pos he, if_neg (fun h => hs h.1)]
    · rcases he with he | he
      · simp at he
      · simp only [List.getD_cons_zero] at he
        simp at hj
        have hj3 : j = 2 ∨ j = 3 ∨ j = 4 := by omega
        rcases hj3 with rfl | rfl | rfl
        · simp at hs
          simp only [rgt]; rw [if_neg (by omega), if_neg (by omega), if_pos he, if_neg (fun h => hs h.1)]
        · have f2 := hf 2 (by omega) (by omega)
          simp at f2 hs
          simp only [rgt]; rw [if_neg (by omega), if_neg (by omega), if_pos he, if_pos ⟨f2, by omega⟩, if_neg hs]
        · have f2 := hf 2 (by omega) (by omega)
          have f3 := hf 3 (by omega) (by omega)
          simp at f2 f3
          simp only [rgt]; rw [if_neg (by omega), if_neg (by omega), if_pos he, if_pos ⟨f2, by omega⟩, if_pos f3]
    · simp at h4
theorem rgt_three (l : List UInt8) (h4 : l.length ≤ 4) (hk : 3 ≤ l.length) (hl : ∀ i, i < 3 → 0 ≤ ix abc (C l i)) (he : 3 = l.length ∨ ix abc (C l 3) < 0) (hn : ¬ ixn (C l 2) % 4 = 0) : rgt l = 3 := by
  rcases l with _ | ⟨c0, _ | ⟨c1, _ | ⟨c2, r⟩⟩⟩
  · simp at hk
  · simp at hk
  · simp at hk
  · have g0 := hl 0 (by omega)
    have g1 := hl 1 (by omega)
    have g2 := hl 2 (by omega)
    simp only [C, List.getD_cons_succ, List.getD_cons_zero] at g0 g1 g2 he hn
    have e2 := ix_ixn c2 g2
    rcases r with _ | ⟨c3, r2⟩
    · simp only [rgt]; rw [if_neg (by omega), if_neg (by omega), if_neg (by omega)]
    · rcases he with he | he
      · simp at he
      · simp only [List.getD_cons_zero] at he
        simp only [rgt]; rw [if_neg (by omega), if_neg (by omega), if_neg (by omega), if_neg (by omega)]
theorem rgt_threeF (l : List UInt8) (j : Nat) (h4 : l.length ≤ 4) (hk : 3 ≤ l.length) (hl : ∀ i, i < 3 → 0 ≤ ix abc (C l i)) (he : 3 = l.length ∨ ix abc (C l 3) < 0) (hn : ixn (C l 2) % 4 = 0) (hj2 : 3 ≤ j) (hj : j ≤ l.length) (hf : ∀ i, 3 ≤ i → i < j → C l i = 61) (hs : j = l.length ∨ C l j ≠ 61) : rgt l = j := by
  rcases l with _ | ⟨c0, _ | ⟨c1, _ | ⟨c2, r⟩⟩⟩
  · simp at hk
  · simp at hk
  · simp at hk
  · have g0 := hl 0 (by omega)
    have g1 := hl 1 (by omega)
    have g2 := hl 2 (by omega)
    simp only [C, List.getD_cons_succ, List.getD_cons_zero] at g0 g1 g2 he hn hf hs
    have e2 := ix_ixn c2 g2
    rcases r with _ | ⟨c3, _ | ⟨c4, r4⟩⟩
    · simp at hj; obtain rfl : j = 3 := by omega
      simp only [rgt]; rw [if_neg (by omega), if_neg (by omega), if_neg (by omega)]
    · rcases he with he | he
      · simp at he
      · simp only [List.getD_cons_zero] at he
        simp at hj
        by_cases h3 : j = 4
        · subst h3
          have f3 := hf 3 (by omega) (by omega)
          simp at f3
          simp only [rgt]; rw [if_neg (by omega), if_neg (by omega), if_neg (by omega), if_pos (.inr ⟨f3, by omega⟩)]
        · obtain rfl : j = 3 := by omega
          simp at hs
          simp only [rgt]; rw [if_neg (by omega), if_neg (by omega), if_neg (by omega), if_neg (fun h => h.elim (fun h => by omega) (fun h => hs h.1))]
    · simp at h4
theorem rgt_all (l : List UInt8) (h4 : l.length = 4) (hl : ∀ i, i < 4 → 0 ≤ ix abc (C l i)) : rgt l = 4 := by
  rcases l with _ | ⟨c0, _ | ⟨c1, _ | ⟨c2, _ | ⟨c3, _ | ⟨c4, r⟩⟩⟩⟩⟩
  · simp at h4
  · simp at h4
  · simp at h4
  · simp at h4
  · exact rgt_full _ _ _ _ (by simpa [C] using hl 0 (by omega)) (by simpa [C] using hl 1 (by omega)) (by simpa [C] using hl 2 (by omega)) (by simpa [C] using hl 3 (by omega))
  · simp at h4
end Go.Proofs.YtebbgpnhkpbefaaGreatDoor
