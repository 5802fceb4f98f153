/- tile: a name that was told reads as it was (pure). -/
import Derived.Test.YtgobdjdaehlgdaaGreatDoorUa
namespace Go.Proofs.YtgobdjdaehlgdaaGreatDoor
open Go.RowKit
open Go.Lib (decDigits nDigits)
set_option linter.unusedVariables false
set_option linter.unusedSimpArgs false
theorem index_preU (m : UInt8) (mt S : List UInt8) : ∀ P : List UInt8, m ∉ P → Lib.index (P ++ (m :: mt) ++ S) (m :: mt) = (P.length : Int)
  | [], _ => by
    show Lib.index (m :: (mt ++ S)) (m :: mt) = 0
    rw [Lib.index, if_pos]
    rw [List.isPrefixOf_iff_prefix]
    exact ⟨S, by simp⟩
  | b :: P, h => by
    have hb : m ≠ b := fun e => h (by simp [e])
    have hP : m ∉ P := fun e => h (by simp [e])
    have ih := index_preU m mt S P hP
    show Lib.index (b :: (P ++ (m :: mt) ++ S)) (m :: mt) = _
    rw [Lib.index, if_neg (by simp [hb]), ih, if_neg (by simp only [beq_iff_eq]; omega)]
    simp
theorem index_noU (m : UInt8) (mt : List UInt8) : ∀ P : List UInt8, m ∉ P → Lib.index P (m :: mt) = -1
  | [], _ => by simp [Lib.index]
  | b :: P, h => by
    have hb : m ≠ b := fun e => h (by simp [e])
    have hP : m ∉ P := fun e => h (by simp [e])
    rw [Lib.index, if_neg (by simp [hb]), index_noU m mt P hP]
    simp
theorem cutA_preU {m : UInt8} {mt S P : List UInt8} (h : m ∉ P) : cutA (P ++ (m :: mt) ++ S) (m :: mt) = P := by
  unfold cutA
  rw [index_preU m mt S P h, if_neg (by omega)]
  simp
theorem cutB_preU {m : UInt8} {mt S P : List UInt8} (h : m ∉ P) : cutB (P ++ (m :: mt) ++ S) (m :: mt) = S := by
  unfold cutB
  rw [index_preU m mt S P h, if_neg (by omega)]
  simp [List.drop_append]
theorem cutA_noU {m : UInt8} {mt P : List UInt8} (h : m ∉ P) : cutA P (m :: mt) = P := by
  unfold cutA
  rw [index_noU m mt P h, if_pos (by omega)]
/-- A digit. -/
def digU (c : UInt8) : Prop := 48 ≤ c.toNat ∧ c.toNat ≤ 57
theorem dig_of (d : Nat) (h : d < 10) : digU (UInt8.ofNat (48 + d)) ∧ (UInt8.ofNat (48 + d)).toNat = 48 + d := by
  have : (UInt8.ofNat (48 + d)).toNat = 48 + d := by
    rw [UInt8.toNat_ofNat']
    exact Nat.mod_eq_of_lt (by omega)
  exact ⟨by unfold digU; omega, this⟩
theorem decDigits_dig : ∀ (u : Nat), ∀ c ∈ decDigits u, digU c := by
  intro u
  induction u using Nat.strongRecOn with
  | _ u ih =>
    intro c hc
    rw [decDigits] at hc
    split at hc
    · rename_i h
      rw [List.mem_singleton] at hc
      rw [hc]
      exact (dig_of u h).1
    · rename_i h
      rcases List.mem_append.1 hc with q | q
      · exact ih (u / 10) (by omega) c q
      · rw [List.mem_singleton] at q
        rw [q]
        exact (dig_of (u % 10) (by omega)).1
theorem dig_ne {c : UInt8} (h : digU c) : c ≠ 46 ∧ c ≠ 47 ∧ c ≠ 120 := by
  obtain ⟨h1, h2⟩ := h
  refine ⟨fun e => ?_, fun e => ?_, fun e => ?_⟩ <;> subst e <;> revert h1 h2 <;> decide
theorem ix_dig (d : Nat) (h : d < 10) : TX.ix TX.tens (UInt8.ofNat (48 + d)) = (d : Int) := by
  have : d = 0 ∨ d = 1 ∨ d = 2 ∨ d = 3 ∨ d = 4 ∨ d = 5 ∨ d = 6 ∨ d = 7 ∨ d = 8 ∨ d = 9 := by omega
  rcases this with rfl | rfl | rfl | rfl | rfl | rfl | rfl | rfl | rfl | rfl <;> decide
theorem undec_snoc (c : UInt8) : ∀ (l : List UInt8) (p n m : Nat), TX.undec p n l = .ok m → TX.undec p n (l ++ [c]) = if TX.ix TX.tens c < 0 ∨ (0 < p + l.length ∧ m = 0) ∨ 18446744073709551615 < 10 * m + (TX.ix TX.tens c).toNat then .error (p + l.length) else .ok (10 * m + (TX.ix TX.tens c).toNat)
  | [], p, n, m, h => by
    simp only [TX.undec, Except.ok.injEq] at h
    subst h
    simp only [List.nil_append, TX.undec, List.length_nil, Nat.add_zero]
  | b :: r, p, n, m, h => by
    rw [List.cons_append, TX.undec]
    rw [TX.undec] at h
    split at h
    · cases h
    · rename_i hc
      rw [if_neg hc, undec_snoc c r (p + 1) _ m h, List.length_cons]
      simp only [show p + 1 + r.length = p + (r.length + 1) by omega]
theorem undec_dec : ∀ (u : Nat), u ≤ 18446744073709551615 → TX.undec 0 0 (decDigits u) = .ok u := by
  intro u
  induction u using Nat.strongRecOn with
  | _ u ih =>
    intro hu
    rw [decDigits]
    split
    · rename_i h
      rw [TX.undec, ix_dig u h, if_neg (by omega)]
      simp [TX.undec]
    · rename_i h
      rw [undec_snoc _ _ 0 0 (u / 10) (ih (u / 10) (by omega) (by omega)), ix_dig (u % 10) (by omega), if_neg (by omega)]
      congr 1
      omega
theorem dec_nil (u : Nat) : decDigits u ≠ [] := by
  rw [decDigits]
  split <;> simp
theorem dec_head : ∀ (u : Nat), 0 < u → ∃ c r, decDigits u = c :: r ∧ c ≠ 48 := by
  intro u
  induction u using Nat.strongRecOn with
  | _ u ih =>
    intro h0
    rw [decDigits]
    split
    · rename_i h
      refine ⟨_, [], rfl, fun e => ?_⟩
      have := (dig_of u h).2
      rw [e] at this
      have e48 : (48 : UInt8).toNat = 48 := by decide
      omega
    · rename_i h
      obtain ⟨c, r, e, hc⟩ := ih (u / 10) (by omega) (by omega)
      exact ⟨c, r ++ [_], by rw [e]; rfl, hc⟩
theorem num_dec (k u : Nat) (hu : u ≤ 18446744073709551615) : num (List.replicate k 48 ++ decDigits u) = u := by
  have hz : Lib.trimLeftB (List.replicate k 48 ++ decDigits u) 48 = Lib.trimLeftB (decDigits u) 48 := by
    unfold Lib.trimLeftB
    induction k with
    | zero => simp
    | succ k ih => rw [List.replicate_succ, List.cons_append, List.dropWhile_cons_of_pos (by simp), ih]
  unfold num
  rw [hz]
  rcases Nat.eq_zero_or_pos u with rfl | h0
  · have : decDigits 0 = [48] := by rw [Go.Lib.decDigits_one (by decide)]; decide
    rw [this]
    rfl
  · obtain ⟨c, r, e, hc⟩ := dec_head u h0
    have ht : Lib.trimLeftB (decDigits u) 48 = decDigits u := by
      unfold Lib.trimLeftB
      rw [e, List.dropWhile_cons_of_neg (by simpa using hc)]
    rw [ht, TX.fromdec, if_neg (dec_nil u), undec_dec u hu]
end Go.Proofs.YtgobdjdaehlgdaaGreatDoor
