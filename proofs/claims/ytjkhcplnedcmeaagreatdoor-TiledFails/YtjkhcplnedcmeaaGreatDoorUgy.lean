/- tile: the number of digits; digits without the marks between them. -/
import Derived.Test.YtjkhcplnedcmeaaGreatDoorUgx
import Derived.Lib.TrimByte
import Derived.Lib.Index
import Derived.Laws.CopyOwn
import Derived.Laws.MakeOwn
namespace Go.Proofs.YtjkhcplnedcmeaaGreatDoor
open Go.RowKit
open Go.Lib (decDigits nDigits)
set_option linter.unusedVariables false
set_option linter.unusedSimpArgs false
/-- The number of some digits; 0, if they are none's. -/
def num (X : List UInt8) : Nat := match TX.fromdec (Lib.trimLeftB X 48) with
  | .ok n => n
  | .error _ => 0
end Go.Proofs.YtjkhcplnedcmeaaGreatDoor
namespace Go.Proofs.YtjkhcplnedcmeaaGreatDoor
open Go.RowKit
open Go.Lib (decDigits nDigits)
set_option linter.unusedVariables false
set_option linter.unusedSimpArgs false
/-- Without an x ahead. -/
def strp : List UInt8 → List UInt8
  | [] => []
  | c :: r => if c = 120 then r else c :: r
def joinF : Nat → List UInt8 → List UInt8
  | 0, _ => []
  | f + 1, X => strp (cutA X [47]) ++ (if 0 ≤ Lib.index X [47] then joinF f (cutB X [47]) else [])
def joinL (X : List UInt8) : List UInt8 := joinF (X.length + 1) X
def lenOf : Value → Nat
  | .slice _ n _ => n
  | _ => 0
end Go.Proofs.YtjkhcplnedcmeaaGreatDoor
namespace Go.Proofs.YtjkhcplnedcmeaaGreatDoor
open Go.RowKit
open Go.Lib (decDigits nDigits)
set_option linter.unusedVariables false
set_option linter.unusedSimpArgs false
abbrev mP : List UInt8 := [46, 112, 47]
abbrev mS : List UInt8 := [47]
/-- What is read out of a text that may be a name. -/
def rdL (X : List UInt8) : Nat := num (cutA (cutB (cutA X mP) mS) mS) % 256
def rdI (X : List UInt8) : Nat := num (joinL (cutB (cutB (cutA X mP) mS) mS))
def rdW (X : List UInt8) : Int := if 0 ≤ Lib.index X mP then IntKind.i64.wrap (num (cutB X mP) : Int) else 256
end Go.Proofs.YtjkhcplnedcmeaaGreatDoor
namespace Go.Proofs.YtjkhcplnedcmeaaGreatDoor
open Go.RowKit
open Go.Lib (decDigits nDigits)
set_option linter.unusedVariables false
set_option linter.unusedSimpArgs false
theorem index_preU (m : UInt8) (mt S : List UInt8) : ∀ P : List UInt8, m ∉ P → Lib.index (P ++ (m :: mt) ++ S) (m :: mt) = (P.length : Int)
  | [], _ => by
    show Lib.index (m :: (mt ++ S)) (m :: mt) = 0
    rw [Lib.index, if_pos]
    rw [List.isPrefixOf_iff_prefix]
    exact ⟨S, by simp⟩
  | b :: P, h => by
    have hb : m ≠ b := fun e => h (by simp [e])
    have hP : m ∉ P := fun e => h (by simp [e])
    have ih := index_preU m mt S P hP
    show Lib.index (b :: (P ++ (m :: mt) ++ S)) (m :: mt) = _
    rw [Lib.index, if_neg (by simp [hb]), ih, if_neg (by simp only [beq_iff_eq]; omega)]
    simp
theorem index_noU (m : UInt8) (mt : List UInt8) : ∀ P : List UInt8, m ∉ P → Lib.index P (m :: mt) = -1
  | [], _ => by simp [Lib.index]
  | b :: P, h => by
    have hb : m ≠ b := fun e => h (by simp [e])
    have hP : m ∉ P := fun e => h (by simp [e])
    rw [Lib.index, if_neg (by simp [hb]), index_noU m mt P hP]
    simp
theorem cutA_preU {m : UInt8} {mt S P : List UInt8} (h : m ∉ P) : cutA (P ++ (m :: mt) ++ S) (m :: mt) = P := by
  unfold cutA
  rw [index_preU m mt S P h, if_neg (by omega)]
  simp
theorem cutB_preU {m : UInt8} {mt S P : List UInt8} (h : m ∉ P) : cutB (P ++ (m :: mt) ++ S) (m :: mt) = S := by
  unfold cutB
  rw [index_preU m mt S P h, if_neg (by omega)]
  simp [List.drop_append]
theorem cutA_noU {m : UInt8} {mt P : List UInt8} (h : m ∉ P) : cutA P (m :: mt) = P := by
  unfold cutA
  rw [index_noU m mt P h, if_pos (by omega)]
/-- A digit. -/
def digU (c : UInt8) : Prop := 48 ≤ c.toNat ∧ c.toNat ≤ 57
theorem dig_of (d : Nat) (h : d < 10) : digU (UInt8.ofNat (48 + d)) ∧ (UInt8.ofNat (48 + d)).toNat = 48 + d := by
  have : (UInt8.ofNat (48 + d)).toNat = 48 + d := by
    rw [UInt8.toNat_ofNat']
    exact Nat.mod_eq_of_lt (by omega)
  exact ⟨by unfold digU; omega, this⟩
theorem decDigits_dig : ∀ (u : Nat), ∀ c ∈ decDigits u, digU c := by
  intro u
  induction u using Nat.strongRecOn with
  | _ u ih =>
    intro c hc
    rw [decDigits] at hc
    split at hc
    · rename_i h
      rw [List.mem_singleton] at hc
      rw [hc]
      exact (dig_of u h).1
    · rename_i h
      rcases List.mem_append.1 hc with q | q
      · exact ih (u / 10) (by omega) c q
      · rw [List.mem_singleton] at q
        rw [q]
        exact (dig_of (u % 10) (by omega)).1
theorem dig_ne {c : UInt8} (h : digU c) : c ≠ 46 ∧ c ≠ 47 ∧ c ≠ 120 := by
  obtain ⟨h1, h2⟩ := h
  refine ⟨fun e => ?_, fun e => ?_, fun e => ?_⟩ <;> subst e <;> revert h1 h2 <;> decide
theorem ix_dig (d : Nat) (h : d < 10) : TX.ix TX.tens (UInt8.ofNat (48 + d)) = (d : Int) := by
  have : d = 0 ∨ d = 1 ∨ d = 2 ∨ d = 3 ∨ d = 4 ∨ d = 5 ∨ d = 6 ∨ d = 7 ∨ d = 8 ∨ d = 9 := by omega
  rcases this with rfl | rfl | rfl | rfl | rfl | rfl | rfl | rfl | rfl | rfl <;> decide
theorem undec_snoc (c : UInt8) : ∀ (l : List UInt8) (p n m : Nat), TX.undec p n l = .ok m → TX.undec p n (l ++ [c]) = if TX.ix TX.tens c < 0 ∨ (0 < p + l.length ∧ m = 0) ∨ 18446744073709551615 < 10 * m + (TX.ix TX.tens c).toNat then .error (p + l.length) else .ok (10 * m + (TX.ix TX.tens c).toNat)
  | [], p, n, m, h => by
    simp only [TX.undec, Except.ok.injEq] at h
    subst h
    simp only [List.nil_append, TX.undec, List.length_nil, Nat.add_zero]
  | b :: r, p, n, m, h => by
    rw [List.cons_append, TX.undec]
    rw [TX.undec] at h
    split at h
    · cases h
    · rename_i hc
      rw [if_neg hc, undec_snoc c r (p + 1) _ m h, List.length_cons]
      simp only [show p + 1 + r.length = p + (r.length + 1) by omega]
theorem undec_dec : ∀ (u : Nat), u ≤ 18446744073709551615 → TX.undec 0 0 (decDigits u) = .ok u := by
  intro u
  induction u using Nat.strongRecOn with
  | _ u ih =>
    intro hu
    rw [decDigits]
    split
    · rename_i h
      rw [TX.undec, ix_dig u h, if_neg (by omega)]
      simp [TX.undec]
    · rename_i h
      rw [undec_snoc _ _ 0 0 (u / 10) (ih (u / 10) (by omega) (by omega)), ix_dig (u % 10) (by omega), if_neg (by omega)]
      congr 1
      omega
theorem dec_nil (u : Nat) : decDigits u ≠ [] := by
  rw [decDigits]
  split <;> simp
theorem dec_head : ∀ (u : Nat), 0 < u → ∃ c r, decDigits u = c :: r ∧ c ≠ 48 := by
  intro u
  induction u using Nat.strongRecOn with
  | _ u ih =>
    intro h0
    rw [decDigits]
    split
    · rename_i h
      refine ⟨_, [], rfl, fun e => ?_⟩
      have := (dig_of u h).2
      rw [e] at this
      have e48 : (48 : UInt8).toNat = 48 := by decide
      omega
    · rename_i h
      obtain ⟨c, r, e, hc⟩ := ih (u / 10) (by omega) (by omega)
      exact ⟨c, r ++ [_], by rw [e]; rfl, hc⟩
theorem num_dec (k u : Nat) (hu : u ≤ 18446744073709551615) : num (List.replicate k 48 ++ decDigits u) = u := by
  have hz : Lib.trimLeftB (List.replicate k 48 ++ decDigits u) 48 = Lib.trimLeftB (decDigits u) 48 := by
    unfold Lib.trimLeftB
    induction k with
    | zero => simp
    | succ k ih => rw [List.replicate_succ, List.cons_append, List.dropWhile_cons_of_pos (by simp), ih]
  unfold num
  rw [hz]
  rcases Nat.eq_zero_or_pos u with rfl | h0
  · have : decDigits 0 = [48] := by rw [Go.Lib.decDigits_one (by decide)]; decide
    rw [this]
    rfl
  · obtain ⟨c, r, e, hc⟩ := dec_head u h0
    have ht : Lib.trimLeftB (decDigits u) 48 = decDigits u := by
      unfold Lib.trimLeftB
      rw [e, List.dropWhile_cons_of_neg (by simpa using hc)]
    rw [ht, TX.fromdec, if_neg (dec_nil u), undec_dec u hu]
end Go.Proofs.YtjkhcplnedcmeaaGreatDoor
namespace Go.Proofs.YtjkhcplnedcmeaaGreatDoor
open Go.RowKit
open Go.Lib (decDigits nDigits)
set_option linter.unusedVariables false
set_option linter.unusedSimpArgs false
theorem join_thr : ∀ (k : Nat) (l : List UInt8), l.length = 3 * k + 3 → (∀ c ∈ l, digU c) → ∀ f, k < f → joinF f (thrL l) = l
  | 0, l, hl, hd, f, hf => by
    obtain ⟨f, rfl⟩ : ∃ g, f = g + 1 := ⟨f - 1, by omega⟩
    rw [thrL_le l (by omega)]
    have h47 : (47 : UInt8) ∉ l := fun e => (dig_ne (hd 47 e)).2.1 rfl
    simp only [joinF]
    rw [index_noU 47 [] l h47, cutA_noU h47, if_neg (by omega), List.append_nil]
    cases l with
    | nil => simp at hl
    | cons c r =>
      have := (dig_ne (hd c (by simp))).2.2
      simp only [strp]
      rw [if_neg this]
  | k + 1, l, hl, hd, f, hf => by
    obtain ⟨f, rfl⟩ : ∃ g, f = g + 1 := ⟨f - 1, by omega⟩
    rw [thrL_gt l (by omega)]
    have h47 : (47 : UInt8) ∉ [120] ++ l.take 3 := fun e => by
      rcases List.mem_append.1 e with q | q
      · revert q; decide
      · exact (dig_ne (hd 47 (List.mem_of_mem_take q))).2.1 rfl
    have ih := join_thr k (l.drop 3) (by simp; omega) (fun c hc => hd c (List.mem_of_mem_drop hc)) f (by omega)
    simp only [joinF]
    rw [index_preU 47 [] (thrL (l.drop 3)) _ h47, cutA_preU h47, cutB_preU h47, if_pos (by omega), ih]
    show l.take 3 ++ l.drop 3 = l
    exact List.take_append_drop 3 l
theorem thr_memU (x : UInt8) : ∀ (k : Nat) (l : List UInt8), l.length ≤ k → x ∈ thrL l → x ∈ l ∨ x = 120 ∨ x = 47
  | 0, l, hk, h => by rw [thrL_le l (by omega)] at h; exact .inl h
  | k + 1, l, hk, h => by
    rcases Nat.lt_or_ge 3 l.length with q | q
    · rw [thrL_gt l q] at h
      simp only [List.mem_append, List.mem_singleton] at h
      rcases h with ((h | h) | h) | h
      · exact .inr (.inl h)
      · exact .inl (List.mem_of_mem_take h)
      · exact .inr (.inr h)
      · rcases thr_memU x k (l.drop 3) (by simp; omega) h with h | h
        · exact .inl (List.mem_of_mem_drop h)
        · exact .inr h
    · rw [thrL_le l q] at h; exact .inl h
theorem pad3_dig (u : Nat) : ∀ c ∈ pad3 (decDigits u), digU c := fun c hc => by
  unfold pad3 at hc
  rcases List.mem_append.1 hc with q | q
  · rw [List.eq_of_mem_replicate q]; unfold digU; decide
  · exact decDigits_dig u c q
theorem pad3_lenU (u : Nat) : ∃ k, (pad3 (decDigits u)).length = 3 * k + 3 := by
  have h0 : 0 < (decDigits u).length := List.length_pos_iff.2 (dec_nil u)
  unfold pad3
  rw [List.length_append, List.length_replicate]
  refine ⟨((3 - (decDigits u).length % 3) % 3 + (decDigits u).length) / 3 - 1, ?_⟩
  omega
theorem num_pad3 (u : Nat) (h : u ≤ 18446744073709551615) : num (pad3 (decDigits u)) = u := num_dec _ u h
theorem num_decU (u : Nat) (h : u ≤ 18446744073709551615) : num (decDigits u) = u := num_dec 0 u h
/-- A name ahead of its width. -/
def nmP (L I : Nat) : List UInt8 := [116, 105, 108, 101, 47] ++ decDigits L ++ [47] ++ thrL (pad3 (decDigits I))
theorem nmP_46 (L I : Nat) : (46 : UInt8) ∉ nmP L I := fun e => by
  unfold nmP at e
  simp only [List.mem_append] at e
  rcases e with ((e | e) | e) | e
  · revert e; decide
  · exact (dig_ne (decDigits_dig L _ e)).1 rfl
  · revert e; decide
  · rcases thr_memU 46 _ _ (Nat.le_refl _) e with q | q | q
    · exact (dig_ne (pad3_dig I _ q)).1 rfl
    · revert q; decide
    · revert q; decide
theorem rd_nm {L I W : Nat} (h : mayT L I (W : Int)) : rdL (nm L I W) = L ∧ rdI (nm L I W) = I ∧ rdW (nm L I W) = (W : Int) := by
  obtain ⟨_, hL, hI, hW0, hW⟩ := nm_len h
  have h46 := nmP_46 L I
  have hcut : cutA (nm L I W) mP = nmP L I := by
    unfold nm
    by_cases hw : W < 256
    · rw [if_pos hw, ← List.append_assoc]
      exact cutA_preU h46
    · rw [if_neg hw, List.append_nil]
      exact cutA_noU h46
  have h4 : (47 : UInt8) ∉ [116, 105, 108, 101] := by decide
  have hP : cutB (nmP L I) mS = decDigits L ++ [47] ++ thrL (pad3 (decDigits I)) := by
    have e : nmP L I = [116, 105, 108, 101] ++ [47] ++ (decDigits L ++ [47] ++ thrL (pad3 (decDigits I))) := by simp [nmP]
    rw [e]
    exact cutB_preU h4
  have hd : (47 : UInt8) ∉ decDigits L := fun e => (dig_ne (decDigits_dig L _ e)).2.1 rfl
  refine ⟨?_, ?_, ?_⟩
  · unfold rdL
    rw [hcut, hP, cutA_preU hd, num_decU L (by omega)]
    omega
  · unfold rdI
    rw [hcut, hP, cutB_preU hd]
    obtain ⟨k, hk⟩ := pad3_lenU I
    have hj : joinL (thrL (pad3 (decDigits I))) = pad3 (decDigits I) := by
      unfold joinL
      refine join_thr k _ hk (pad3_dig I) _ ?_
      have := thrL_len k _ hk
      omega
    rw [hj, num_pad3 I (by omega)]
  · unfold rdW
    by_cases hw : W < 256
    · have e : nm L I W = nmP L I ++ [46, 112, 47] ++ decDigits W := by unfold nm; rw [if_pos hw, ← List.append_assoc]; rfl
      rw [e, index_preU 46 [112, 47] _ _ h46, if_pos (by omega), cutB_preU h46, num_decU W (by omega), IntKind.wrap_i64]
      omega
    · have e : nm L I W = nmP L I := by unfold nm; rw [if_neg hw, List.append_nil]; rfl
      rw [e, index_noU 46 [112, 47] _ h46, if_neg (by omega)]
      omega
end Go.Proofs.YtjkhcplnedcmeaaGreatDoor
