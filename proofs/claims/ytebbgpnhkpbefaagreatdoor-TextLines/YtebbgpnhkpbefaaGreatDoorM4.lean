/- Where a text goes wrong: what stands ahead of that place can be brought to an end, and nothing that begins with it and the byte there is read. -/
import Derived.Test.YtebbgpnhkpbefaaGreatDoorM3
namespace Go.Proofs.YtebbgpnhkpbefaaGreatDoor
set_option linter.unusedVariables false
set_option linter.unusedSimpArgs false

theorem un64_wrong_at (l : List UInt8) (p : Nat) (hl : l ≠ []) (h : rgt (l.take 4) < 4) : un64 p false l = .error (p + rgt (l.take 4)) := by
  match l, hl with
  | [c0], _ => simp [un64]
  | [c0, c1], _ => simp [un64]
  | [c0, c1, c2], _ => simp [un64]
  | c0 :: c1 :: c2 :: c3 :: r, _ =>
    have e : (c0 :: c1 :: c2 :: c3 :: r).take 4 = [c0, c1, c2, c3] := rfl
    rw [e] at h ⊢
    rw [un64, if_pos h]
theorem rgt_le (g : List UInt8) (h : g.length ≤ 4) : rgt g ≤ g.length := by
  match g, h with
  | [], _ => simp [rgt]
  | [c0], _ => simp only [rgt]; split <;> simp
  | [c0, c1], _ => simp only [rgt]; repeat' split
                   all_goals simp
  | [c0, c1, c2], _ => simp only [rgt]; repeat' split
                       all_goals simp
  | [c0, c1, c2, c3], _ => simp only [rgt]; repeat' split
                           all_goals simp
/-- The same bytes up to the one that may not stand, and whatever behind it. -/
theorem rgt_same (g m : List UInt8) (h4 : g.length ≤ 4) (h : rgt g < g.length) : rgt ((g.take (rgt g + 1) ++ m).take 4) = rgt g := by
  match g, h4 with
  | [], _ => simp at h
  | c0 :: r0, h4 =>
    by_cases g0 : ix abc c0 < 0
    · have e : rgt (c0 :: r0) = 0 := by simp only [rgt]; rw [if_pos g0]
      rw [e]
      simp [rgt, g0]
    · match r0, h4 with
      | [], _ => simp [rgt, g0] at h
      | c1 :: r1, h4 =>
        by_cases g1 : ix abc c1 < 0
        · have e : rgt (c0 :: c1 :: r1) = 1 := by simp only [rgt]; rw [if_neg g0, if_pos g1]
          rw [e]
          simp [rgt, g0, g1]
        · match r1, h4 with
          | [], _ => simp [rgt, g0, g1] at h
          | c2 :: r2, h4 =>
            by_cases g2 : ix abc c2 < 0
            · by_cases k : c2 = 61 ∧ ix abc c1 % 16 = 0
              · match r2, h4 with
                | [], _ => rw [show rgt [c0, c1, c2] = 3 by simp only [rgt]; rw [if_neg g0, if_neg g1, if_pos g2, if_pos k]] at h; simp at h
                | [c3], _ =>
                  by_cases k3 : c3 = 61
                  · rw [show rgt [c0, c1, c2, c3] = 4 by simp only [rgt]; rw [if_neg g0, if_neg g1, if_pos g2, if_pos k, if_pos k3]] at h; simp at h
                  · have e : rgt [c0, c1, c2, c3] = 3 := by simp only [rgt]; rw [if_neg g0, if_neg g1, if_pos g2, if_pos k, if_neg k3]
                    rw [e]
                    exact e
              · have e : rgt (c0 :: c1 :: c2 :: r2) = 2 := by simp only [rgt]; rw [if_neg g0, if_neg g1, if_pos g2, if_neg k]
                rw [e]
                simp only [List.take, List.cons_append, List.nil_append, rgt]
                rw [if_neg g0, if_neg g1, if_pos g2, if_neg k]
            · match r2, h4 with
              | [], _ => rw [show rgt [c0, c1, c2] = 3 by simp only [rgt]; rw [if_neg g0, if_neg g1, if_neg g2]] at h; simp at h
              | [c3], _ =>
                by_cases k : 0 ≤ ix abc c3 ∨ (c3 = 61 ∧ ix abc c2 % 4 = 0)
                · rw [show rgt [c0, c1, c2, c3] = 4 by simp only [rgt]; rw [if_neg g0, if_neg g1, if_neg g2, if_pos k]] at h; simp at h
                · have e : rgt [c0, c1, c2, c3] = 3 := by simp only [rgt]; rw [if_neg g0, if_neg g1, if_neg g2, if_neg k]
                  rw [e]
                  exact e
/-- The ends that are tried. -/
def ends : List (List UInt8) := [[], [65], [61], [61, 61], [65, 65], [65, 65, 65], [65, 61], [65, 61, 61], [103, 61, 61], [73, 61], [119, 65, 61, 61], [65, 73, 61]]
set_option maxRecDepth 100000 in
theorem ixA : ix abc 65 = 0 := by decide
theorem ok_four (c0 c1 c2 c3 : UInt8) (p : Nat) (h : rgt [c0, c1, c2, c3] = 4) : ∃ b, un64 p false [c0, c1, c2, c3] = .ok b := by
  rw [un64, h]
  cases (c3 == 61) <;> simp [un64]
theorem rgt_end (g : List UInt8) (p : Nat) (h4 : g.length ≤ 4) (h : rgt g < 4) : ∃ x ∈ ends, ∃ b, un64 p false (g.take (rgt g) ++ x) = .ok b := by
  match g, h4 with
  | [], _ => exact ⟨[], by simp [ends], [], by simp [un64]⟩
  | c0 :: r0, h4 =>
    by_cases g0 : ix abc c0 < 0
    · have e : rgt (c0 :: r0) = 0 := by simp only [rgt]; rw [if_pos g0]
      rw [e]
      exact ⟨[], by simp [ends], [], by simp [un64]⟩
    · have s1 : ∃ x ∈ ends, ∃ b, un64 p false ([c0] ++ x) = .ok b := ⟨[65, 65, 65], by simp [ends], ok_four _ _ _ _ _ (rgt_full _ _ _ _ (by omega) (by rw [ixA]; omega) (by rw [ixA]; omega) (by rw [ixA]; omega))⟩
      match r0, h4 with
      | [], _ => rw [show rgt [c0] = 1 by simp only [rgt]; rw [if_neg g0]]; exact s1
      | c1 :: r1, h4 =>
        by_cases g1 : ix abc c1 < 0
        · have e : rgt (c0 :: c1 :: r1) = 1 := by simp only [rgt]; rw [if_neg g0, if_pos g1]
          rw [e]
          exact s1
        · have s2 : ∃ x ∈ ends, ∃ b, un64 p false ([c0, c1] ++ x) = .ok b := ⟨[65, 65], by simp [ends], ok_four _ _ _ _ _ (rgt_full _ _ _ _ (by omega) (by omega) (by rw [ixA]; omega) (by rw [ixA]; omega))⟩
          match r1, h4 with
          | [], _ => rw [show rgt [c0, c1] = 2 by simp only [rgt]; rw [if_neg g0, if_neg g1]]; exact s2
          | c2 :: r2, h4 =>
            by_cases g2 : ix abc c2 < 0
            · by_cases k : c2 = 61 ∧ ix abc c1 % 16 = 0
              · have s3 : ∃ x ∈ ends, ∃ b, un64 p false ([c0, c1, c2] ++ x) = .ok b := ⟨[61], by simp [ends], ok_four _ _ _ _ _ (by simp only [rgt]; rw [if_neg g0, if_neg g1, if_pos g2, if_pos k, if_pos trivial])⟩
                match r2, h4 with
                | [], _ => rw [show rgt [c0, c1, c2] = 3 by simp only [rgt]; rw [if_neg g0, if_neg g1, if_pos g2, if_pos k]]; exact s3
                | [c3], _ =>
                  by_cases k3 : c3 = 61
                  · rw [show rgt [c0, c1, c2, c3] = 4 by simp only [rgt]; rw [if_neg g0, if_neg g1, if_pos g2, if_pos k, if_pos k3]] at h; omega
                  · rw [show rgt [c0, c1, c2, c3] = 3 by simp only [rgt]; rw [if_neg g0, if_neg g1, if_pos g2, if_pos k, if_neg k3]]
                    exact s3
              · have e : rgt (c0 :: c1 :: c2 :: r2) = 2 := by simp only [rgt]; rw [if_neg g0, if_neg g1, if_pos g2, if_neg k]
                rw [e]
                exact s2
            · have s3 : ∃ x ∈ ends, ∃ b, un64 p false ([c0, c1, c2] ++ x) = .ok b := ⟨[65], by simp [ends], ok_four _ _ _ _ _ (rgt_full _ _ _ _ (by omega) (by omega) (by omega) (by rw [ixA]; omega))⟩
              match r2, h4 with
              | [], _ => rw [show rgt [c0, c1, c2] = 3 by simp only [rgt]; rw [if_neg g0, if_neg g1, if_neg g2]]; exact s3
              | [c3], _ =>
                by_cases k : 0 ≤ ix abc c3 ∨ (c3 = 61 ∧ ix abc c2 % 4 = 0)
                · rw [show rgt [c0, c1, c2, c3] = 4 by simp only [rgt]; rw [if_neg g0, if_neg g1, if_neg g2, if_pos k]] at h; omega
                · rw [show rgt [c0, c1, c2, c3] = 3 by simp only [rgt]; rw [if_neg g0, if_neg g1, if_neg g2, if_neg k]]
                  exact s3
/-- One group that goes wrong, alone or ahead of others. -/
theorem grp_wrong (t : List UInt8) (p k : Nat) (ht : t ≠ []) (h4 : rgt (t.take 4) < 4) (h : k = p + rgt (t.take 4)) :
    ∃ j, k = p + j ∧ j ≤ t.length ∧ (∃ x ∈ ends, ∃ b, un64 p false (t.take j ++ x) = .ok b) ∧ (j < t.length → ∀ m, un64 p false (t.take (j + 1) ++ m) = .error k) := by
  have hl := rgt_le (t.take 4) (by simp; omega)
  have hl' : rgt (t.take 4) ≤ t.length := by have : (t.take 4).length ≤ t.length := by simp; omega
                                             omega
  refine ⟨rgt (t.take 4), h, hl', ?_, ?_⟩
  · have := rgt_end (t.take 4) p (by simp; omega) h4
    rw [List.take_take, Nat.min_eq_left (by omega)] at this
    exact this
  · intro hj m
    have hs := rgt_same (t.take 4) m (by simp; omega) (by simp; omega)
    rw [List.take_take, Nat.min_eq_left (by omega)] at hs
    rw [h, un64_wrong_at _ p (by
      intro e
      exact ht (by simpa using (List.append_eq_nil_iff.1 e).1)) (by rw [hs]; exact h4), hs]
theorem un64_wrong : ∀ (t : List UInt8) (p : Nat) (e : Bool) (k : Nat), un64 p e t = .error k →
    ∃ j, k = p + j ∧ j ≤ t.length ∧ (∃ x ∈ ends, ∃ b, un64 p e (t.take j ++ x) = .ok b) ∧ (j < t.length → ∀ m, un64 p e (t.take (j + 1) ++ m) = .error k)
  | [], p, e, k, h => by cases e <;> simp [un64] at h
  | c :: r, p, true, k, h => by
    simp [un64] at h
    subst h
    exact ⟨0, rfl, by simp, ⟨[], by simp [ends], [], by simp [un64]⟩, fun _ m => by simp [un64]⟩
  | [c0], p, false, k, h => grp_wrong [c0] p k (by simp) (by have := rgt_le [c0] (by simp); simp at this ⊢; omega) (by simp [un64] at h; simp [h])
  | [c0, c1], p, false, k, h => grp_wrong [c0, c1] p k (by simp) (by have := rgt_le [c0, c1] (by simp); simp at this ⊢; omega) (by simp [un64] at h; simp [h])
  | [c0, c1, c2], p, false, k, h => grp_wrong [c0, c1, c2] p k (by simp) (by have := rgt_le [c0, c1, c2] (by simp); simp at this ⊢; omega) (by simp [un64] at h; simp [h])
  | c0 :: c1 :: c2 :: c3 :: r, p, false, k, h => by
    by_cases hr : rgt [c0, c1, c2, c3] < 4
    · rw [un64, if_pos hr] at h
      exact grp_wrong (c0 :: c1 :: c2 :: c3 :: r) p k (by simp) hr (by cases h; rfl)
    · rw [un64, if_neg hr] at h
      rcases hu : un64 (p + 4) (c3 == 61) r with k' | b
      · rw [hu] at h
        simp at h
        subst h
        obtain ⟨j, hk, hj, ⟨x, hx, b, hb⟩, hm⟩ := un64_wrong r (p + 4) (c3 == 61) k' hu
        refine ⟨j + 4, by omega, by simp; omega, ⟨x, hx, dec c0 c1 c2 c3 ++ b, ?_⟩, ?_⟩
        · simp only [List.take_succ_cons, List.cons_append]
          rw [un64, if_neg hr, hb]
        · intro hlt m
          simp only [List.take_succ_cons, List.cons_append]
          rw [un64, if_neg hr, hm (by simp at hlt; omega) m]
      · rw [hu] at h; cases h

theorem unhex_wrong : ∀ (t : List UInt8) (p k : Nat), unhex p t = .error k →
    ∃ j, k = p + j ∧ j ≤ t.length ∧ (∃ b, unhex p (t.take j ++ (if j % 2 = 1 then [48] else [])) = .ok b) ∧ (j < t.length → ∀ m, unhex p (t.take (j + 1) ++ m) = .error k)
  | [], p, k, h => by simp [unhex] at h
  | [a], p, k, h => by
    simp only [unhex] at h
    by_cases ga : ix hexs a < 0
    · rw [if_pos ga] at h
      cases h
      exact ⟨0, rfl, by simp, ⟨[], by simp [unhex]⟩, fun _ m => by cases m <;> simp [unhex, ga]⟩
    · rw [if_neg ga] at h
      cases h
      refine ⟨1, rfl, by simp, ?_, fun h => absurd h (by simp)⟩
      have h0 : ix hexs 48 = 0 := by decide
      simp [unhex, ga, h0]
  | a :: b :: r, p, k, h => by
    rw [unhex] at h
    by_cases ga : ix hexs a < 0
    · rw [if_pos ga] at h
      cases h
      exact ⟨0, rfl, by simp, ⟨[], by simp [unhex]⟩, fun _ m => by cases m <;> simp [unhex, ga]⟩
    · by_cases gb : ix hexs b < 0
      · rw [if_neg ga, if_pos gb] at h
        cases h
        refine ⟨1, rfl, by simp, ?_, fun _ m => by simp [unhex, ga, gb]⟩
        have h0 : ix hexs 48 = 0 := by decide
        simp [unhex, ga, h0]
      · rw [if_neg ga, if_neg gb] at h
        rcases hu : unhex (p + 2) r with k' | l
        · rw [hu] at h
          simp at h
          subst h
          obtain ⟨j, hk, hj, ⟨x, hx⟩, hm⟩ := unhex_wrong r (p + 2) k' hu
          refine ⟨j + 2, by omega, by simp; omega, ⟨two a b :: x, ?_⟩, ?_⟩
          · simp only [List.take_succ_cons, List.cons_append]
            rw [unhex, if_neg ga, if_neg gb, show (j + 2) % 2 = j % 2 by omega, hx]
          · intro hlt m
            simp only [List.take_succ_cons, List.cons_append]
            rw [unhex, if_neg ga, if_neg gb, hm (by simp at hlt; omega) m]
        · rw [hu] at h; cases h

theorem undec_wrong : ∀ (t : List UInt8) (p n k : Nat), undec p n t = .error k →
    ∃ j, k = p + j ∧ j < t.length ∧ (∃ b, undec p n (t.take j) = .ok b) ∧ ∀ m, undec p n (t.take (j + 1) ++ m) = .error k
  | [], p, n, k, h => by simp [undec] at h
  | c :: r, p, n, k, h => by
    rw [undec] at h
    by_cases hc : ix tens c < 0 ∨ (0 < p ∧ n = 0) ∨ 18446744073709551615 < 10 * n + (ix tens c).toNat
    · rw [if_pos hc] at h
      cases h
      refine ⟨0, rfl, by simp, ⟨n, rfl⟩, fun m => ?_⟩
      simp only [List.take_succ_cons, List.cons_append]
      rw [undec, if_pos hc]
    · rw [if_neg hc] at h
      obtain ⟨j, hk, hj, ⟨b, hb⟩, hm⟩ := undec_wrong r (p + 1) _ k h
      refine ⟨j + 1, by omega, by simp; omega, ⟨b, ?_⟩, fun m => ?_⟩
      · simp only [List.take_succ_cons]
        rw [undec, if_neg hc, hb]
      · simp only [List.take_succ_cons, List.cons_append]
        rw [undec, if_neg hc, hm m]
theorem fromdec_wrong (t : List UInt8) (k : Nat) (h : fromdec t = .error k) :
    k ≤ t.length ∧ (0 < k → ∃ b, fromdec (t.take k) = .ok b) ∧ (k < t.length → ∀ m, fromdec (t.take (k + 1) ++ m) = .error k) := by
  unfold fromdec at h
  by_cases hn : t = []
  · rw [if_pos hn] at h
    cases h
    subst hn
    exact ⟨by simp, fun h => absurd h (by omega), fun h => absurd h (by simp)⟩
  · rw [if_neg hn] at h
    obtain ⟨j, hk, hj, ⟨b, hb⟩, hm⟩ := undec_wrong t 0 0 k h
    obtain rfl : k = j := by omega
    refine ⟨by omega, fun h0 => ⟨b, ?_⟩, fun hl m => ?_⟩
    · unfold fromdec
      rw [if_neg (by intro e; rw [List.take_eq_nil_iff] at e; rcases e with e | e
                     · omega
                     · exact hn e), hb]
    · unfold fromdec
      rw [if_neg (by intro e; have : (t.take (k + 1) ++ m).length = 0 := by rw [e]; rfl
                     simp at this; exact hn this.1), hm m]
end Go.Proofs.YtebbgpnhkpbefaaGreatDoor
