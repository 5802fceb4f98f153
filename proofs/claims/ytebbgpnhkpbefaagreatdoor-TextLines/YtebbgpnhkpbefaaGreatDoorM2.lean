/- What is told by letters or digits is read as it was; what is read is told as it was read. -/
import Derived.Test.YtebbgpnhkpbefaaGreatDoorM1
namespace Go.Proofs.YtebbgpnhkpbefaaGreatDoor
set_option linter.unusedVariables false
set_option linter.unusedSimpArgs false

theorem n3_lt (a b c : UInt8) : n3 a b c < 16777216 := by
  have := a.toNat_lt; have := b.toNat_lt; have := c.toNat_lt; unfold n3; omega
theorem ofNat_n (a : UInt8) (k : Nat) (h : k = a.toNat) : UInt8.ofNat k = a := by subst h; simp
theorem rgt_full (c0 c1 c2 c3 : UInt8) (h0 : 0 ≤ ix abc c0) (h1 : 0 ≤ ix abc c1) (h2 : 0 ≤ ix abc c2) (h3 : 0 ≤ ix abc c3) : rgt [c0, c1, c2, c3] = 4 := by
  simp [rgt, show ¬ ix abc c0 < 0 by omega, show ¬ ix abc c1 < 0 by omega, show ¬ ix abc c2 < 0 by omega, h3]
theorem lt_ge (n : Nat) (h : n < 64) : 0 ≤ ix abc (lt n) := by rw [ix_lt64 n h]; omega
theorem un64_b64 : ∀ (l : List UInt8) (p : Nat), un64 p false (b64 l) = .ok l
  | [], p => by simp [b64, un64]
  | [a], p => by
    have ha := a.toNat_lt
    have hn : n3 a 0 0 = a.toNat * 65536 := by simp [n3]
    have i0 : n3 a 0 0 / 262144 < 64 := by omega
    have i1 : n3 a 0 0 / 4096 % 64 < 64 := by omega
    have hr : rgt [lt (n3 a 0 0 / 262144), lt (n3 a 0 0 / 4096 % 64), 61, 61] = 4 := by
      have g0 := lt_ge _ i0; have g1 := lt_ge _ i1
      have e1 : ix abc (lt (n3 a 0 0 / 4096 % 64)) % 16 = 0 := by rw [ix_lt64 _ i1]; omega
      simp [rgt, show ¬ ix abc (lt (n3 a 0 0 / 262144)) < 0 by omega, show ¬ ix abc (lt (n3 a 0 0 / 4096 % 64)) < 0 by omega, ix_61, e1]
    rw [b64, un64, hr]
    simp [un64, dec]
    refine ofNat_n _ _ ?_
    unfold n4
    rw [ixn_lt64 _ i0, ixn_lt64 _ i1, ixn_61]
    omega
  | [a, b], p => by
    have ha := a.toNat_lt
    have hb := b.toNat_lt
    have hn : n3 a b 0 = a.toNat * 65536 + b.toNat * 256 := by simp [n3]
    have i0 : n3 a b 0 / 262144 < 64 := by omega
    have i1 : n3 a b 0 / 4096 % 64 < 64 := by omega
    have i2 : n3 a b 0 / 64 % 64 < 64 := by omega
    have hr : rgt [lt (n3 a b 0 / 262144), lt (n3 a b 0 / 4096 % 64), lt (n3 a b 0 / 64 % 64), 61] = 4 := by
      have g0 := lt_ge _ i0; have g1 := lt_ge _ i1; have g2 := lt_ge _ i2
      have e2 : ix abc (lt (n3 a b 0 / 64 % 64)) % 4 = 0 := by rw [ix_lt64 _ i2]; omega
      simp [rgt, show ¬ ix abc (lt (n3 a b 0 / 262144)) < 0 by omega, show ¬ ix abc (lt (n3 a b 0 / 4096 % 64)) < 0 by omega, show ¬ ix abc (lt (n3 a b 0 / 64 % 64)) < 0 by omega, ix_61, e2]
    rw [b64, un64, hr]
    simp [un64, dec, lt_ne61 _ i2]
    have hn4 : n4 (lt (n3 a b 0 / 262144)) (lt (n3 a b 0 / 4096 % 64)) (lt (n3 a b 0 / 64 % 64)) 61 = a.toNat * 65536 + b.toNat * 256 := by
      unfold n4
      rw [ixn_lt64 _ i0, ixn_lt64 _ i1, ixn_lt64 _ i2, ixn_61]
      omega
    rw [hn4]
    exact ⟨ofNat_n _ _ (by omega), ofNat_n _ _ (by omega)⟩
  | a :: b :: c :: t, p => by
    have ha := a.toNat_lt
    have hb := b.toNat_lt
    have hc := c.toNat_lt
    have hn : n3 a b c = a.toNat * 65536 + b.toNat * 256 + c.toNat := rfl
    have i0 : n3 a b c / 262144 < 64 := by omega
    have i1 : n3 a b c / 4096 % 64 < 64 := by omega
    have i2 : n3 a b c / 64 % 64 < 64 := by omega
    have i3 : n3 a b c % 64 < 64 := by omega
    have hr := rgt_full _ _ _ _ (lt_ge _ i0) (lt_ge _ i1) (lt_ge _ i2) (lt_ge _ i3)
    have h61 : (lt (n3 a b c % 64) == 61) = false := by simp [lt_ne61 _ i3]
    rw [b64, un64, hr, h61, un64_b64 t (p + 4)]
    simp [dec, lt_ne61 _ i3]
    have hn4 : n4 (lt (n3 a b c / 262144)) (lt (n3 a b c / 4096 % 64)) (lt (n3 a b c / 64 % 64)) (lt (n3 a b c % 64)) = n3 a b c := by
      unfold n4
      rw [ixn_lt64 _ i0, ixn_lt64 _ i1, ixn_lt64 _ i2, ixn_lt64 _ i3]
      omega
    rw [hn4]
    exact ⟨ofNat_n _ _ (by omega), ofNat_n _ _ (by omega), ofNat_n _ _ (by omega)⟩

/-- What four letters that may stand are. -/
theorem rgt_four (c0 c1 c2 c3 : UInt8) (h : ¬ rgt [c0, c1, c2, c3] < 4) : 0 ≤ ix abc c0 ∧ 0 ≤ ix abc c1 ∧ ((0 ≤ ix abc c2 ∧ 0 ≤ ix abc c3) ∨ (0 ≤ ix abc c2 ∧ c3 = 61 ∧ ix abc c2 % 4 = 0) ∨ (c2 = 61 ∧ c3 = 61 ∧ ix abc c1 % 16 = 0)) := by
  simp only [rgt] at h
  by_cases g0 : ix abc c0 < 0
  · simp [g0] at h
  · by_cases g1 : ix abc c1 < 0
    · simp [g0, g1] at h
    · by_cases g2 : ix abc c2 < 0
      · by_cases k : c2 = 61 ∧ ix abc c1 % 16 = 0
        · by_cases k3 : c3 = 61
          · exact ⟨by omega, by omega, .inr (.inr ⟨k.1, k3, k.2⟩)⟩
          · simp [g0, g1, g2, k, k3, ix_61] at h
        · simp [g0, g1, g2, k] at h
      · by_cases k : 0 ≤ ix abc c3 ∨ (c3 = 61 ∧ ix abc c2 % 4 = 0)
        · rcases k with k | k
          · exact ⟨by omega, by omega, .inl ⟨by omega, k⟩⟩
          · exact ⟨by omega, by omega, .inr (.inl ⟨by omega, k.1, k.2⟩)⟩
        · rw [if_neg g0, if_neg g1, if_neg g2, if_neg k] at h; omega
theorem ix_ixn (c : UInt8) (h : 0 ≤ ix abc c) : ix abc c = (ixn c : Int) := by unfold ixn; omega
theorem toNat_of (k : Nat) (h : k < 256) : (UInt8.ofNat k).toNat = k := by simp; omega
theorem lt_eq (c : UInt8) (k : Nat) (h : 0 ≤ ix abc c) (e : k = ixn c) : lt k = c := by subst e; exact lt_ix c h
theorem b64_dec (c0 c1 c2 c3 : UInt8) (h : ¬ rgt [c0, c1, c2, c3] < 4) : b64 (dec c0 c1 c2 c3) = [c0, c1, c2, c3] := by
  obtain ⟨h0, h1, h23⟩ := rgt_four c0 c1 c2 c3 h
  have l0 := ixn_lt c0; have l1 := ixn_lt c1; have l2 := ixn_lt c2; have l3 := ixn_lt c3
  have e1 := ix_ixn c1 h1
  rcases h23 with ⟨h2, h3⟩ | ⟨h2, rfl, h4⟩ | ⟨rfl, rfl, h4⟩
  · have e3 : c3 ≠ 61 := fun e => by rw [e, ix_61] at h3; omega
    simp only [dec, if_pos e3, b64, n3]
    have t0 := toNat_of (n4 c0 c1 c2 c3 / 65536) (by unfold n4; omega)
    have t1 := toNat_of (n4 c0 c1 c2 c3 / 256 % 256) (by omega)
    have t2 := toNat_of (n4 c0 c1 c2 c3 % 256) (by omega)
    rw [t0, t1, t2]
    have hn : n4 c0 c1 c2 c3 / 65536 * 65536 + n4 c0 c1 c2 c3 / 256 % 256 * 256 + n4 c0 c1 c2 c3 % 256 = n4 c0 c1 c2 c3 := by omega
    rw [hn]
    rw [lt_eq c0 _ h0 (by unfold n4; omega), lt_eq c1 _ h1 (by unfold n4; omega), lt_eq c2 _ h2 (by unfold n4; omega), lt_eq c3 _ h3 (by unfold n4; omega)]
  · have e2 : c2 ≠ 61 := fun e => by rw [e, ix_61] at h2; omega
    have e2' := ix_ixn c2 h2
    have hd : ixn c2 % 4 = 0 := by omega
    have hn4 : n4 c0 c1 c2 61 = ixn c0 * 262144 + ixn c1 * 4096 + ixn c2 * 64 := by unfold n4; rw [ixn_61]; omega
    simp [dec, e2, b64, n3]
    have t0 : n4 c0 c1 c2 61 / 65536 % 256 = n4 c0 c1 c2 61 / 65536 := by omega
    have t1 : n4 c0 c1 c2 61 / 256 % 256 % 256 = n4 c0 c1 c2 61 / 256 % 256 := by omega
    try rw [t0]
    have hn : n4 c0 c1 c2 61 / 65536 * 65536 + n4 c0 c1 c2 61 / 256 % 256 * 256 = n4 c0 c1 c2 61 := by omega
    rw [hn]
    exact ⟨lt_eq c0 _ h0 (by omega), lt_eq c1 _ h1 (by omega), lt_eq c2 _ h2 (by omega)⟩
  · have hd : ixn c1 % 16 = 0 := by omega
    have hn4 : n4 c0 c1 61 61 = ixn c0 * 262144 + ixn c1 * 4096 := by unfold n4; rw [ixn_61]; omega
    simp [dec, b64, n3]
    have t0 : n4 c0 c1 61 61 / 65536 % 256 = n4 c0 c1 61 61 / 65536 := by omega
    try rw [t0]
    have hn : n4 c0 c1 61 61 / 65536 * 65536 = n4 c0 c1 61 61 := by omega
    rw [hn]
    exact ⟨lt_eq c0 _ h0 (by omega), lt_eq c1 _ h1 (by omega)⟩
theorem dec_three (c0 c1 c2 c3 : UInt8) (h : c3 ≠ 61) : (dec c0 c1 c2 c3).length = 3 := by simp [dec, h]
theorem b64_un64 : ∀ (t : List UInt8) (p : Nat) (e : Bool) (x : List UInt8), un64 p e t = .ok x → b64 x = t
  | [], p, e, x, h => by cases e <;> simp [un64] at h <;> subst h <;> rfl
  | c :: r, p, true, x, h => by simp [un64] at h
  | [c0], p, false, x, h => by simp [un64] at h
  | [c0, c1], p, false, x, h => by simp [un64] at h
  | [c0, c1, c2], p, false, x, h => by simp [un64] at h
  | c0 :: c1 :: c2 :: c3 :: r, p, false, x, h => by
    rw [un64] at h
    by_cases hr : rgt [c0, c1, c2, c3] < 4
    · rw [if_pos hr] at h; cases h
    · rw [if_neg hr] at h
      rcases hu : un64 (p + 4) (c3 == 61) r with k | b
      · rw [hu] at h; cases h
      · rw [hu] at h
        simp at h
        subst h
        have ih := b64_un64 r (p + 4) (c3 == 61) b hu
        by_cases h61 : c3 = 61
        · have hb : (c3 == 61) = true := by simp [h61]
          rw [hb] at hu
          cases r with
          | nil => simp [un64] at hu; subst hu; rw [List.append_nil, b64_dec _ _ _ _ hr]
          | cons y z => simp [un64] at hu
        · rw [b64_append _ _ (by rw [dec_three _ _ _ _ h61]), b64_dec _ _ _ _ hr, ih]
          rfl

theorem unhex_hex : ∀ (l : List UInt8) (p : Nat), unhex p (hex l) = .ok l
  | [], p => rfl
  | a :: r, p => by
    have ha := a.toNat_lt
    have i0 := ix_hx (a.toNat / 16) (by omega)
    have i1 := ix_hx (a.toNat % 16) (by omega)
    have ht : two (hx (a.toNat / 16)) (hx (a.toNat % 16)) = a := by
      unfold two
      rw [i0, i1]
      exact ofNat_n _ _ (by omega)
    rw [hex, unhex, unhex_hex r (p + 2), i0, i1, ht]
    rw [if_neg (by omega), if_neg (by omega)]
theorem hx_ix (c : UInt8) (h : 0 ≤ ix hexs c) : hx (ix hexs c).toNat = c := ix_get hexs c h
theorem hex_unhex : ∀ (t : List UInt8) (p : Nat) (x : List UInt8), unhex p t = .ok x → hex x = t
  | [], p, x, h => by simp [unhex] at h; subst h; rfl
  | [a], p, x, h => by simp [unhex] at h; split at h <;> cases h
  | a :: b :: r, p, x, h => by
    rw [unhex] at h
    by_cases ga : ix hexs a < 0
    · rw [if_pos ga] at h; cases h
    · by_cases gb : ix hexs b < 0
      · rw [if_neg ga, if_pos gb] at h; cases h
      · rw [if_neg ga, if_neg gb] at h
        rcases hu : unhex (p + 2) r with k | l
        · rw [hu] at h; cases h
        · rw [hu] at h
          simp at h
          subst h
          have ih := hex_unhex r (p + 2) l hu
          have la := ix_lt hexs a; have lb := ix_lt hexs b
          simp [hexs] at la lb
          have ht : (two a b).toNat = 16 * (ix hexs a).toNat + (ix hexs b).toNat := toNat_of _ (by simp [hexs]; omega)
          rw [hex, ih, ht]
          rw [show (16 * (ix hexs a).toNat + (ix hexs b).toNat) / 16 = (ix hexs a).toNat by simp [hexs]; omega, show (16 * (ix hexs a).toNat + (ix hexs b).toNat) % 16 = (ix hexs b).toNat by simp [hexs]; omega, hx_ix a (by omega), hx_ix b (by omega)]
end Go.Proofs.YtebbgpnhkpbefaaGreatDoor
