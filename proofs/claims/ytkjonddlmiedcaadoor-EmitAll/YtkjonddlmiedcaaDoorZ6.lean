/- emit: all that is told of leaves (pure). -/
import Derived.Test.YtkjonddlmiedcaaDoorZ4
namespace Go.Proofs.YtkjonddlmiedcaaDoor
open Go.RowKit
set_option linter.unusedVariables false
set_option linter.unusedSimpArgs false
/-- The hash of a whole tree over leaves. -/
def mhE (f : Nat → List UInt8) : Nat → Nat → List UInt8
  | 0, i => f i
  | l + 1, i => ndh (mhE f l (2 * i)) (mhE f l (2 * i + 1))
theorem mhE_len (f : Nat → List UInt8) (hf : ∀ i, (f i).length = 32) : ∀ l i, (mhE f l i).length = 32
  | 0, i => hf i
  | l + 1, i => ndh_len _ _
/-- The hashes of the whole trees that m trees of a level make. -/
def pksE (f : Nat → List UInt8) : Nat → Nat → Nat → List (List UInt8)
  | 0, _, _ => []
  | F + 1, l, m => pksE f F (l + 1) (m / 2) ++ (if m % 2 = 1 then [mhE f l (m - 1)] else [])
theorem pksE_len (f : Nat → List UInt8) : ∀ F l m, (pksE f F l m).length = Lib.popAux F m
  | 0, _, _ => rfl
  | F + 1, l, m => by
    simp only [pksE, List.length_append, pksE_len f F (l + 1) (m / 2), Lib.popAux]
    by_cases h : m % 2 = 1
    · rw [if_pos h, h]; simp; omega
    · rw [if_neg h, show m % 2 = 0 by omega]; simp
theorem nhs_snoc (L : List (List UInt8)) (a x : List UInt8) : ∀ i, i ≤ L.length → nhs (L ++ [a]) x (i + 1) = nhs L (ndh a x) i
  | 0, _ => by
    have e : (L ++ [a]).getD ((L ++ [a]).length - 1 - 0) [] = a := by simp [List.getD_eq_getElem?_getD]
    simp only [nhs]
    rw [e]
  | i + 1, h => by
    have e : (L ++ [a]).getD ((L ++ [a]).length - 1 - (i + 1)) [] = L.getD (L.length - 1 - i) [] := by
      rw [List.getD_eq_getElem?_getD, List.getD_eq_getElem?_getD, List.length_append, List.length_singleton, List.getElem?_append_left (by omega), show L.length + 1 - 1 - (i + 1) = L.length - 1 - i by omega]
    rw [nhs, e, nhs_snoc L a x i (by omega), nhs]
theorem pksE_next (f : Nat → List UInt8) : ∀ (F l m : Nat), m + 1 < 2 ^ F →
    (∀ i, i ≤ ones F m → nhs (pksE f F l m) (mhE f l m) i = mhE f (l + i) (m / 2 ^ i)) ∧
    (pksE f F l m).take ((pksE f F l m).length - ones F m) ++ [nhs (pksE f F l m) (mhE f l m) (ones F m)] = pksE f F l (m + 1)
  | 0, l, m, h => by simp at h
  | F + 1, l, m, h => by
    by_cases hm : m % 2 = 1
    · have hF : m / 2 + 1 < 2 ^ F := by rw [Nat.pow_succ] at h; omega
      obtain ⟨ih1, ih2⟩ := pksE_next f F (l + 1) (m / 2) hF
      have hop := ones_pop F (m / 2)
      rw [← pksE_len f F (l + 1) (m / 2)] at hop
      have e1 : pksE f (F + 1) l m = pksE f F (l + 1) (m / 2) ++ [mhE f l (m - 1)] := by simp only [pksE]; rw [if_pos hm]
      have e2 : ones (F + 1) m = ones F (m / 2) + 1 := by simp only [ones]; rw [if_pos hm]; omega
      have e3 : ndh (mhE f l (m - 1)) (mhE f l m) = mhE f (l + 1) (m / 2) := by
        simp only [mhE]
        rw [show 2 * (m / 2) = m - 1 by omega, show m - 1 + 1 = m by omega]
      have key : ∀ i, i ≤ ones F (m / 2) → nhs (pksE f (F + 1) l m) (mhE f l m) (i + 1) = nhs (pksE f F (l + 1) (m / 2)) (mhE f (l + 1) (m / 2)) i := fun i hi => by
        rw [e1, nhs_snoc _ _ _ i (by omega), e3]
      refine ⟨fun i hi => ?_, ?_⟩
      · cases i with
        | zero => simp [nhs]
        | succ i =>
          rw [key i (by omega), ih1 i (by omega)]
          rw [show l + 1 + i = l + (i + 1) by omega, Nat.pow_succ, Nat.mul_comm, Nat.div_div_eq_div_mul]
      · have e4 : pksE f (F + 1) l (m + 1) = pksE f F (l + 1) (m / 2 + 1) := by
          simp only [pksE]
          rw [if_neg (by omega), List.append_nil, show (m + 1) / 2 = m / 2 + 1 by omega]
        rw [e2, key _ (Nat.le_refl _), e4, ← ih2, e1, List.length_append, List.length_singleton]
        congr 1
        rw [List.take_append_of_le_length (by omega)]
        congr 1
        omega
    · have e1 : pksE f (F + 1) l m = pksE f F (l + 1) (m / 2) := by simp only [pksE]; rw [if_neg hm, List.append_nil]
      have e2 : ones (F + 1) m = 0 := by simp only [ones]; rw [if_neg hm]
      refine ⟨fun i hi => ?_, ?_⟩
      · obtain rfl : i = 0 := by omega
        simp [nhs]
      · have e4 : pksE f (F + 1) l (m + 1) = pksE f F (l + 1) (m / 2) ++ [mhE f l m] := by
          simp only [pksE]
          rw [if_pos (by omega), show (m + 1) / 2 = m / 2 by omega, show m + 1 - 1 = m by omega]
        rw [e2, e4, e1, Nat.sub_zero, List.take_length]
        simp [nhs]
/-- A builder's hashes behind n leaves. -/
def stE (f : Nat → List UInt8) (n : Nat) : List (List UInt8) := pksE f 64 0 n
theorem stE_zero (f : Nat → List UInt8) : stE f 0 = [] := by
  have : (stE f 0).length = 0 := by rw [stE, pksE_len]; decide
  exact List.length_eq_zero_iff.1 this
theorem stE_add (f : Nat → List UInt8) (n : Nat) (hn : n ≤ 1000) : addL n (stE f n) (f n) = stE f (n + 1) := (pksE_next f 64 0 n (by omega)).2
theorem stE_nhs (f : Nat → List UInt8) (n : Nat) (hn : n ≤ 1000) (i : Nat) (hi : i ≤ ones 64 n) : nhs (stE f n) (f n) i = mhE f i (n / 2 ^ i) := by
  have := (pksE_next f 64 0 n (by omega)).1 i hi
  rwa [Nat.zero_add] at this
/-- The trees that leaf n makes whole. -/
def ndE (f : Nat → List UInt8) (n : Nat) : List Tre := (List.range (ones 64 n + 1)).map fun i => ⟨i, n / 2 ^ i, mhE f i (n / 2 ^ i)⟩
theorem ndE_nds (f : Nat → List UInt8) (n : Nat) (hn : n ≤ 1000) : nds n (stE f n) (f n) (ones 64 n + 1) = ndE f n := by
  unfold nds ndE
  refine List.map_congr_left fun i hi => ?_
  rw [stE_nhs f n hn i (by have := List.mem_range.1 hi; omega)]
theorem ndE_len (f : Nat → List UInt8) (n : Nat) : (ndE f n).length = ones 64 n + 1 := by simp [ndE]
theorem ndE_at (f : Nat → List UInt8) (n i : Nat) (hi : i < ones 64 n + 1) : (ndE f n)[i]? = some ⟨i, n / 2 ^ i, mhE f i (n / 2 ^ i)⟩ := by
  simp [ndE, hi]
def allE (f : Nat → List UInt8) : Nat → List Tre
  | 0 => []
  | n + 1 => allE f n ++ ndE f n
theorem ones_end : ∀ (F k i : Nat), i ≤ ones F k → (k / 2 ^ i + 1) * 2 ^ i = k + 1
  | F, k, 0, _ => by simp
  | 0, k, i + 1, h => by simp [ones] at h
  | F + 1, k, i + 1, h => by
    by_cases hk : k % 2 = 1
    · simp only [ones] at h
      rw [if_pos hk] at h
      have ih := ones_end F (k / 2) i (by omega)
      rw [Nat.pow_succ, Nat.mul_comm (2 ^ i) 2, ← Nat.div_div_eq_div_mul, Nat.mul_comm 2, ← Nat.mul_assoc, ih]
      omega
    · simp only [ones] at h
      rw [if_neg hk] at h
      omega
theorem ones_of : ∀ (l F k idx : Nat), k + 1 < 2 ^ F → (idx + 1) * 2 ^ l = k + 1 → l ≤ ones F k ∧ k / 2 ^ l = idx
  | 0, F, k, idx, _, h => by simp at h; simp [h]
  | l + 1, 0, k, idx, hF, h => by simp at hF
  | l + 1, F + 1, k, idx, hF, h => by
    rw [Nat.pow_succ, ← Nat.mul_assoc] at h
    have hk : k % 2 = 1 := by omega
    have h2 : (idx + 1) * 2 ^ l = k / 2 + 1 := by omega
    obtain ⟨i1, i2⟩ := ones_of l F (k / 2) idx (by rw [Nat.pow_succ] at hF; omega) h2
    refine ⟨by simp only [ones]; rw [if_pos hk]; omega, ?_⟩
    rw [Nat.pow_succ, Nat.mul_comm (2 ^ l) 2, ← Nat.div_div_eq_div_mul]
    exact i2
/-- A tree over the first n leaves. -/
def InE (f : Nat → List UInt8) (n : Nat) (t : Tre) : Prop := t.H = mhE f t.L t.I ∧ (t.I + 1) * 2 ^ t.L ≤ n
theorem ndE_in (f : Nat → List UInt8) (n : Nat) (t : Tre) (h : t ∈ ndE f n) : InE f (n + 1) t := by
  simp only [ndE, List.mem_map, List.mem_range] at h
  obtain ⟨i, hi, rfl⟩ := h
  exact ⟨rfl, Nat.le_of_eq (ones_end 64 n i (by omega))⟩
theorem allE_in (f : Nat → List UInt8) : ∀ (n : Nat) (t : Tre), t ∈ allE f n → InE f n t
  | 0, t, h => by simp [allE] at h
  | n + 1, t, h => by
    simp only [allE, List.mem_append] at h
    rcases h with h | h
    · obtain ⟨h1, h2⟩ := allE_in f n t h
      exact ⟨h1, by omega⟩
    · exact ndE_in f n t h
theorem allE_has (f : Nat → List UInt8) : ∀ (n : Nat), n ≤ 1000 → ∀ (l idx : Nat), (idx + 1) * 2 ^ l ≤ n → (⟨l, idx, mhE f l idx⟩ : Tre) ∈ allE f n
  | 0, _, l, idx, h => by
    have : 0 < (idx + 1) * 2 ^ l := Nat.mul_pos (by omega) (Nat.two_pow_pos l)
    omega
  | n + 1, hn, l, idx, h => by
    simp only [allE, List.mem_append]
    rcases Nat.lt_or_ge ((idx + 1) * 2 ^ l) (n + 1) with q | q
    · exact .inl (allE_has f n (by omega) l idx (by omega))
    · obtain ⟨h1, h2⟩ := ones_of l 64 n idx (by omega) (by omega)
      refine .inr ?_
      simp only [ndE, List.mem_map, List.mem_range]
      exact ⟨l, by omega, by rw [h2]⟩
theorem allE_len (f : Nat → List UInt8) : ∀ (n : Nat), n ≤ 1000 → (allE f n).length + Lib.popAux 64 n = 2 * n
  | 0, _ => by simp only [allE]; decide
  | n + 1, h => by
    have ih := allE_len f n (by omega)
    have hp := pop_next 64 n (by omega)
    simp only [allE, List.length_append, ndE_len]
    omega
theorem allE_le (f : Nat → List UInt8) (n : Nat) (h : n ≤ 1000) : (allE f n).length ≤ 2000 := by have := allE_len f n h; omega
theorem inE_may {f : Nat → List UInt8} {n : Nat} {t : Tre} (h : InE f n t) (hn : n ≤ 1000) : may t.L t.I ∧ t.L < 64 ∧ t.I < 1000 := by
  obtain ⟨_, h⟩ := h
  have h1 : t.L < 10 := by
    rcases Nat.lt_or_ge t.L 10 with q | q
    · exact q
    · have a1 : 2 ^ 10 ≤ 2 ^ t.L := Nat.pow_le_pow_right (by omega) q
      have a2 : 2 ^ t.L ≤ (t.I + 1) * 2 ^ t.L := Nat.le_mul_of_pos_left _ (by omega)
      omega
  have a3 : t.I + 1 ≤ (t.I + 1) * 2 ^ t.L := Nat.le_mul_of_pos_right _ (Nat.two_pow_pos _)
  refine ⟨?_, by omega, by omega⟩
  unfold may
  omega
theorem allE_ok (f : Nat → List UInt8) (hf : ∀ i, (f i).length = 32) (n : Nat) (hn : n ≤ 1000) : ∀ t ∈ allE f n, t.ok := fun t ht => by
  have h := allE_in f n t ht
  exact ⟨(inE_may h hn).1, by rw [h.1]; exact mhE_len f hf _ _⟩
theorem ndE_ok (f : Nat → List UInt8) (hf : ∀ i, (f i).length = 32) (n : Nat) (hn : n < 1000) : ∀ t ∈ ndE f n, t.ok := fun t ht => by
  have h := ndE_in f n t ht
  exact ⟨(inE_may h (by omega)).1, by rw [h.1]; exact mhE_len f hf _ _⟩
end Go.Proofs.YtkjonddlmiedcaaDoor
