/- tile: Parse of Path (pure). -/
import Derived.Test.YtgobdjdaehlgdaaGreatDoorUy
namespace Go.Proofs.YtgobdjdaehlgdaaGreatDoor
open Go.RowKit
open Go.Lib (decDigits nDigits)
set_option linter.unusedVariables false
set_option linter.unusedSimpArgs false
theorem join_thr : ∀ (k : Nat) (l : List UInt8), l.length = 3 * k + 3 → (∀ c ∈ l, digU c) → ∀ f, k < f → joinF f (thrL l) = l
  | 0, l, hl, hd, f, hf => by
    obtain ⟨f, rfl⟩ : ∃ g, f = g + 1 := ⟨f - 1, by omega⟩
    rw [thrL_le l (by omega)]
    have h47 : (47 : UInt8) ∉ l := fun e => (dig_ne (hd 47 e)).2.1 rfl
    simp only [joinF]
    rw [index_noU 47 [] l h47, cutA_noU h47, if_neg (by omega), List.append_nil]
    cases l with
    | nil => simp at hl
    | cons c r =>
      have := (dig_ne (hd c (by simp))).2.2
      simp only [strp]
      rw [if_neg this]
  | k + 1, l, hl, hd, f, hf => by
    obtain ⟨f, rfl⟩ : ∃ g, f = g + 1 := ⟨f - 1, by omega⟩
    rw [thrL_gt l (by omega)]
    have h47 : (47 : UInt8) ∉ [120] ++ l.take 3 := fun e => by
      rcases List.mem_append.1 e with q | q
      · revert q; decide
      · exact (dig_ne (hd 47 (List.mem_of_mem_take q))).2.1 rfl
    have ih := join_thr k (l.drop 3) (by simp; omega) (fun c hc => hd c (List.mem_of_mem_drop hc)) f (by omega)
    simp only [joinF]
    rw [index_preU 47 [] (thrL (l.drop 3)) _ h47, cutA_preU h47, cutB_preU h47, if_pos (by omega), ih]
    show l.take 3 ++ l.drop 3 = l
    exact List.take_append_drop 3 l
theorem thr_memU (x : UInt8) : ∀ (k : Nat) (l : List UInt8), l.length ≤ k → x ∈ thrL l → x ∈ l ∨ x = 120 ∨ x = 47
  | 0, l, hk, h => by rw [thrL_le l (by omega)] at h; exact .inl h
  | k + 1, l, hk, h => by
    rcases Nat.lt_or_ge 3 l.length with q | q
    · rw [thrL_gt l q] at h
      simp only [List.mem_append, List.mem_singleton] at h
      rcases h with ((h | h) | h) | h
      · exact .inr (.inl h)
      · exact .inl (List.mem_of_mem_take h)
      · exact .inr (.inr h)
      · rcases thr_memU x k (l.drop 3) (by simp; omega) h with h | h
        · exact .inl (List.mem_of_mem_drop h)
        · exact .inr h
    · rw [thrL_le l q] at h; exact .inl h
theorem pad3_dig (u : Nat) : ∀ c ∈ pad3 (decDigits u), digU c := fun c hc => by
  unfold pad3 at hc
  rcases List.mem_append.1 hc with q | q
  · rw [List.eq_of_mem_replicate q]; unfold digU; decide
  · exact decDigits_dig u c q
theorem pad3_lenU (u : Nat) : ∃ k, (pad3 (decDigits u)).length = 3 * k + 3 := by
  have h0 : 0 < (decDigits u).length := List.length_pos_iff.2 (dec_nil u)
  unfold pad3
  rw [List.length_append, List.length_replicate]
  refine ⟨((3 - (decDigits u).length % 3) % 3 + (decDigits u).length) / 3 - 1, ?_⟩
  omega
theorem num_pad3 (u : Nat) (h : u ≤ 18446744073709551615) : num (pad3 (decDigits u)) = u := num_dec _ u h
theorem num_decU (u : Nat) (h : u ≤ 18446744073709551615) : num (decDigits u) = u := num_dec 0 u h
/-- A name ahead of its width. -/
def nmP (L I : Nat) : List UInt8 := [116, 105, 108, 101, 47] ++ decDigits L ++ [47] ++ thrL (pad3 (decDigits I))
theorem nmP_46 (L I : Nat) : (46 : UInt8) ∉ nmP L I := fun e => by
  unfold nmP at e
  simp only [List.mem_append] at e
  rcases e with ((e | e) | e) | e
  · revert e; decide
  · exact (dig_ne (decDigits_dig L _ e)).1 rfl
  · revert e; decide
  · rcases thr_memU 46 _ _ (Nat.le_refl _) e with q | q | q
    · exact (dig_ne (pad3_dig I _ q)).1 rfl
    · revert q; decide
    · revert q; decide
theorem rd_nm {L I W : Nat} (h : mayT L I (W : Int)) : rdL (nm L I W) = L ∧ rdI (nm L I W) = I ∧ rdW (nm L I W) = (W : Int) := by
  obtain ⟨_, hL, hI, hW0, hW⟩ := nm_len h
  have h46 := nmP_46 L I
  have hcut : cutA (nm L I W) mP = nmP L I := by
    unfold nm
    by_cases hw : W < 256
    · rw [if_pos hw, ← List.append_assoc]
      exact cutA_preU h46
    · rw [if_neg hw, List.append_nil]
      exact cutA_noU h46
  have h4 : (47 : UInt8) ∉ [116, 105, 108, 101] := by decide
  have hP : cutB (nmP L I) mS = decDigits L ++ [47] ++ thrL (pad3 (decDigits I)) := by
    have e : nmP L I = [116, 105, 108, 101] ++ [47] ++ (decDigits L ++ [47] ++ thrL (pad3 (decDigits I))) := by simp [nmP]
    rw [e]
    exact cutB_preU h4
  have hd : (47 : UInt8) ∉ decDigits L := fun e => (dig_ne (decDigits_dig L _ e)).2.1 rfl
  refine ⟨?_, ?_, ?_⟩
  · unfold rdL
    rw [hcut, hP, cutA_preU hd, num_decU L (by omega)]
    omega
  · unfold rdI
    rw [hcut, hP, cutB_preU hd]
    obtain ⟨k, hk⟩ := pad3_lenU I
    have hj : joinL (thrL (pad3 (decDigits I))) = pad3 (decDigits I) := by
      unfold joinL
      refine join_thr k _ hk (pad3_dig I) _ ?_
      have := thrL_len k _ hk
      omega
    rw [hj, num_pad3 I (by omega)]
  · unfold rdW
    by_cases hw : W < 256
    · have e : nm L I W = nmP L I ++ [46, 112, 47] ++ decDigits W := by unfold nm; rw [if_pos hw, ← List.append_assoc]; rfl
      rw [e, index_preU 46 [112, 47] _ _ h46, if_pos (by omega), cutB_preU h46, num_decU W (by omega), IntKind.wrap_i64]
      omega
    · have e : nm L I W = nmP L I := by unfold nm; rw [if_neg hw, List.append_nil]; rfl
      rw [e, index_noU 46 [112, 47] _ h46, if_neg (by omega)]
      omega
end Go.Proofs.YtgobdjdaehlgdaaGreatDoor
