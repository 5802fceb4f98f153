/- What readGroup answers. -/
import Derived.Test.YtebbgpnhkpbefaaGreatDoorA4
namespace Go.Proofs.YtebbgpnhkpbefaaGreatDoor
open Go.RowKit
set_option linter.unusedVariables false
set_option linter.unusedSimpArgs false

/-- What readGroup tells of a group. -/
def GR (l : List UInt8) (n c r : Int) : Prop := r = (rgt l : Int) ∧ (rgt l = 4 → n = (n4 (C l 0) (C l 1) (C l 2) (C l 3) : Nat) ∧ c = ((dec (C l 0) (C l 1) (C l 2) (C l 3)).length : Nat))
theorem C_get (g : ByteArray) (k : Nat) (h : k < g.size) : g[k]'h = C g.data.toList k := by
  unfold C
  rw [List.getD_eq_getElem?_getD, List.getElem?_eq_getElem (by simpa using h)]
  rfl
theorem ne61_of (c : UInt8) (h : 0 ≤ ix abc c) : c ≠ 61 := fun e => by rw [e, ix_61] at h; omega
theorem gr_low (l : List UInt8) (k : Nat) (n c : Int) (h4 : l.length ≤ 4) (hk : k ≤ l.length) (h2 : k < 2) (hl : ∀ i, i < k → 0 ≤ ix abc (C l i)) (he : k = l.length ∨ ix abc (C l k) < 0) : GR l n c k := by
  have := rgt_low l k h4 hk h2 hl he
  exact ⟨by rw [this], fun h => by omega⟩
theorem gr_two (l : List UInt8) (n c : Int) (h4 : l.length ≤ 4) (hk : 2 ≤ l.length) (hl : ∀ i, i < 2 → 0 ≤ ix abc (C l i)) (he : 2 = l.length ∨ ix abc (C l 2) < 0) (hn : ¬ ixn (C l 1) % 16 = 0) : GR l n c 2 := by
  have := rgt_two l h4 hk hl he hn
  exact ⟨by rw [this]; rfl, fun h => by omega⟩
theorem gr_twoF (l : List UInt8) (j : Nat) (h4 : l.length ≤ 4) (hk : 2 ≤ l.length) (hl : ∀ i, i < 2 → 0 ≤ ix abc (C l i)) (he : 2 = l.length ∨ ix abc (C l 2) < 0) (hn : ixn (C l 1) % 16 = 0) (hj2 : 2 ≤ j) (hj : j ≤ l.length) (hf : ∀ i, 2 ≤ i → i < j → C l i = 61) (hs : j = l.length ∨ C l j ≠ 61) : GR l (acc4 l 2 : Nat) 1 j := by
  have hr := rgt_twoF l j h4 hk hl he hn hj2 hj hf hs
  refine ⟨by rw [hr], fun h => ?_⟩
  obtain rfl : j = 4 := by omega
  have f2 := hf 2 (by omega) (by omega)
  have f3 := hf 3 (by omega) (by omega)
  rw [f2, f3]
  refine ⟨?_, by simp [dec]⟩
  have e : acc4 l 2 = ixn (C l 0) * 262144 + ixn (C l 1) * 4096 := by simp [acc4]
  rw [e, n4, ixn_61]
  simp only [Nat.zero_mul, Nat.add_zero]
theorem gr_three (l : List UInt8) (n c : Int) (h4 : l.length ≤ 4) (hk : 3 ≤ l.length) (hl : ∀ i, i < 3 → 0 ≤ ix abc (C l i)) (he : 3 = l.length ∨ ix abc (C l 3) < 0) (hn : ¬ ixn (C l 2) % 4 = 0) : GR l n c 3 := by
  have := rgt_three l h4 hk hl he hn
  exact ⟨by rw [this]; rfl, fun h => by omega⟩
theorem gr_threeF (l : List UInt8) (j : Nat) (h4 : l.length ≤ 4) (hk : 3 ≤ l.length) (hl : ∀ i, i < 3 → 0 ≤ ix abc (C l i)) (he : 3 = l.length ∨ ix abc (C l 3) < 0) (hn : ixn (C l 2) % 4 = 0) (hj2 : 3 ≤ j) (hj : j ≤ l.length) (hf : ∀ i, 3 ≤ i → i < j → C l i = 61) (hs : j = l.length ∨ C l j ≠ 61) : GR l (acc4 l 3 : Nat) 2 j := by
  have hr := rgt_threeF l j h4 hk hl he hn hj2 hj hf hs
  refine ⟨by rw [hr], fun h => ?_⟩
  obtain rfl : j = 4 := by omega
  have f3 := hf 3 (by omega) (by omega)
  have g2 := ne61_of _ (hl 2 (by omega))
  rw [f3]
  refine ⟨?_, by simp only [dec]; rw [if_neg (by simp), if_pos g2]; rfl⟩
  have e : acc4 l 3 = ixn (C l 0) * 262144 + ixn (C l 1) * 4096 + ixn (C l 2) * 64 := by simp [acc4]
  rw [e, n4, ixn_61]
  simp only [Nat.zero_mul, Nat.add_zero]
theorem gr_all (l : List UInt8) (h4 : l.length = 4) (hl : ∀ i, i < 4 → 0 ≤ ix abc (C l i)) : GR l (acc4 l 4 : Nat) 3 4 := by
  have hr := rgt_all l h4 hl
  refine ⟨by rw [hr]; rfl, fun h => ⟨?_, ?_⟩⟩
  · have e : acc4 l 4 = ixn (C l 0) * 262144 + ixn (C l 1) * 4096 + ixn (C l 2) * 64 + ixn (C l 3) := by simp [acc4]
    rw [e, n4]
  · rw [dec_three _ _ _ _ (ne61_of _ (hl 3 (by omega)))]; rfl

theorem ne61_int (c : UInt8) (h : ¬ c = 61) : ¬ (c.toNat : Int) = 61 := fun e => h (UInt8.toNat_inj.1 (show c.toNat = 61 by omega))
theorem res3 (tmps : Array Value) (w : World) : (results Tryz.f115 tmps).run Tryz.prog w = .ok (.tuple #[tmps.getD 2 undef, tmps.getD 3 undef, tmps.getD 4 undef]) w := by simp [results, Tryz.results115]
theorem acc4_s0 (l : List UInt8) (h : 0 ≤ ix abc (C l 0)) : bits .or .u32 ((acc4 l 0 : Nat) : Int) (ix abc (C l 0) * 262144) = ((acc4 l 1 : Nat) : Int) := by
  have hl := ix_lt abc (C l 0)
  rw [show (abc.length : Int) = 64 from rfl] at hl
  have e : ix abc (C l 0) * 262144 = (ix abc (C l 0) % 4294967296 * 262144 % 4294967296) := by omega
  rw [e]
  have e0 : ((acc4 l 0 : Nat) : Int) = 0 := by simp [acc4]
  rw [e0]
  exact acc4_0 l h
theorem acc4_s1 (l : List UInt8) (h : 0 ≤ ix abc (C l 1)) : bits .or .u32 ((acc4 l 1 : Nat) : Int) (ix abc (C l 1) * 4096) = ((acc4 l 2 : Nat) : Int) := by
  have hl := ix_lt abc (C l 1)
  rw [show (abc.length : Int) = 64 from rfl] at hl
  have e : ix abc (C l 1) * 4096 = (ix abc (C l 1) % 4294967296 * 4096 % 4294967296) := by omega
  rw [e]
  exact acc4_1 l h
theorem acc4_s2 (l : List UInt8) (h : 0 ≤ ix abc (C l 2)) : bits .or .u32 ((acc4 l 2 : Nat) : Int) (ix abc (C l 2) * 64) = ((acc4 l 3 : Nat) : Int) := by
  have hl := ix_lt abc (C l 2)
  rw [show (abc.length : Int) = 64 from rfl] at hl
  have e : ix abc (C l 2) * 64 = (ix abc (C l 2) % 4294967296 * 64 % 4294967296) := by omega
  rw [e]
  exact acc4_2 l h
theorem acc4_s3 (l : List UInt8) (h : 0 ≤ ix abc (C l 3)) : bits .or .u32 ((acc4 l 3 : Nat) : Int) (ix abc (C l 3)) = ((acc4 l 4 : Nat) : Int) := by
  have hl := ix_lt abc (C l 3)
  rw [show (abc.length : Int) = 64 from rfl] at hl
  have e : ix abc (C l 3) = (ix abc (C l 3) % 4294967296) := by omega
  rw [e]
  exact acc4_3 l h
set_option maxRecDepth 100000 in
set_option maxHeartbeats 1000000 in
theorem group_any (t : ByteArray) (w : World) (ht : t.size ≤ 9223372036854775807) :
    Calls Tryz.prog 115 #[.string t] w fun e w' => (∃ n c r : Int, e = .returned (.tuple #[.int .u32 n, .int .i64 c, .int .i64 r]) ∧ GR (t.data.toList.take 4) n c r) ∧ w' = w := by
  have hsl := head_slice t (min 4 t.size) (by omega)
  rw [show ((min 4 t.size : Nat) : Int) = min 4 (t.size : Int) by omega] at hsl
  obtain ⟨g, hg⟩ : ∃ g, g = t.extract 0 (min 4 t.size) := ⟨_, rfl⟩
  have hgl : t.data.toList.take 4 = g.data.toList := by
    rw [hg, ByteArray.data_extract, Array.toList_extract]
    have hs : t.data.toList.length = t.size := by rw [Array.length_toList]; rfl
    simp
    try (rw [List.take_eq_take_iff]; omega)
  have hg4 : g.size ≤ 4 := by rw [hg, ByteArray.size_extract]; omega
  rw [← hg] at hsl
  rw [hgl]
  clear hg hgl
  obtain ⟨l, hl⟩ : ∃ l, l = g.data.toList := ⟨_, rfl⟩
  have hll : l.length = g.size := by rw [hl, Array.length_toList]; rfl
  have hC : Hid (∀ k (h : k < g.size), g[k]'h = C l k) := fun k h => by rw [hl]; exact C_get g k h
  rw [← hl]
  clear hl
  go_enter Tryz.func115, Tryz.ntmps115
  go_wp2
  go_loop [2, 4, 5] (fun n r x => ∃ k : Nat, k ≤ g.size ∧ r = .int .i64 k ∧ n = .int .u32 (acc4 l k : Nat) ∧ ∀ i, i < k → 0 ≤ ix abc (C l i)) (fun _ r _ => 16 - (intOf r).toNat)
  case atStart => exact ⟨0, by omega, rfl, rfl, fun i h => absurd h (by omega)⟩
  case round =>
    obtain ⟨k, hk, rfl, rfl, hlet⟩ := hrel
    have Hlet : Hid (∀ i, i < k → 0 ≤ ix abc (C l i)) := hlet
    clear hlet
    by_cases hlt : k < g.size
    · have hck := hC.out k hlt
      have hk4 : k = 0 ∨ k = 1 ∨ k = 2 ∨ k = 3 := by omega
      have hcall := idx_abc (C l k) w
      by_cases hx : ix abc (C l k) < 0
      · have HE : Hid (k = l.length ∨ ix abc (C l k) < 0) := .inr hx
        rcases hk4 with rfl | rfl | rfl | rfl
        · generalize ix abc (C l 0) = X at hx hcall
          go_wp2_with (go_at_call 116; refine hcall.mono ?_; rintro e w1 ⟨rfl, rfl⟩)
          refine bodyPost_ret (res3 _ _) rfl ⟨⟨_, _, _, rfl, ?_⟩, rfl⟩
          exact gr_low l 0 _ _ (by omega) (by omega) (by omega) Hlet.out HE.out
        · generalize ix abc (C l 1) = X at hx hcall
          go_wp2_with (go_at_call 116; refine hcall.mono ?_; rintro e w1 ⟨rfl, rfl⟩)
          refine bodyPost_ret (res3 _ _) rfl ⟨⟨_, _, _, rfl, ?_⟩, rfl⟩
          exact gr_low l 1 _ _ (by omega) (by omega) (by omega) Hlet.out HE.out
        · generalize ix abc (C l 2) = X at hx hcall
          have ha := and16 (acc4 l 2) (by have := acc4_lt l 2; omega)
          by_cases hz : ixn (C l 1) % 16 = 0
          · have HZ : Hid (ixn (C l 1) % 16 = 0) := hz
            have hq0 : ((acc4 l 2 % 65536 : Nat) : Int) = 0 := by have := (left2 l).2 hz; omega
            rw [hq0] at ha
            clear hz hq0
            go_wp2_with (go_at_call 116; refine hcall.mono ?_; rintro e w1 ⟨rfl, rfl⟩)
            go_loop [4] (fun r => ∃ j : Nat, 2 ≤ j ∧ j ≤ g.size ∧ r = .int .i64 j ∧ ∀ i, 2 ≤ i → i < j → C l i = 61) (fun r => 16 - (intOf r).toNat)
            case atStart => exact ⟨2, by omega, by omega, rfl, fun i h1 h2 => absurd h1 (by omega)⟩
            case round =>
              obtain ⟨j, hj2, hj, rfl, hf⟩ := hrel
              have HF : Hid (∀ i, 2 ≤ i → i < j → C l i = 61) := hf
              clear hf
              by_cases hjl : j < g.size
              · have hcj := hC.out j hjl
                by_cases h61 : C l j = 61
                · have H61 : Hid (C l j = 61) := h61
                  have hq : ((C l j).toNat : Int) = 61 := by rw [h61]; rfl
                  clear h61
                  go_wp2
                  go_round
                  case rel =>
                    refine ⟨j + 1, by omega, by omega, by go_num, fun i h1 h2 => ?_⟩
                    by_cases hij : i = j
                    · subst hij; exact H61.out
                    · exact HF.out i h1 (by omega)
                  case measure => simp [intOf]; omega
                · have H61 : Hid (¬ C l j = 61) := h61
                  have hq := ne61_int _ h61
                  clear h61
                  go_wp2
                  refine bodyPost_ret (res3 _ _) rfl ⟨⟨_, _, _, rfl, ?_⟩, rfl⟩
                  exact gr_twoF l j (by omega) (by omega) Hlet.out HE.out HZ.out hj2 (by omega) HF.out (.inr H61.out)
              · obtain rfl : j = g.size := by omega
                go_wp2
                refine bodyPost_ret (res3 _ _) rfl ⟨⟨_, _, _, rfl, ?_⟩, rfl⟩
                exact gr_twoF l g.size (by omega) (by omega) Hlet.out HE.out HZ.out hj2 (by omega) HF.out (.inl hll.symm)
          · have HZ : Hid (¬ ixn (C l 1) % 16 = 0) := hz
            have hq0 : ¬ ((acc4 l 2 % 65536 : Nat) : Int) = 0 := fun e => hz ((left2 l).1 (by omega))
            generalize ((acc4 l 2 % 65536 : Nat) : Int) = Z at ha hq0
            clear hz
            go_wp2_with (go_at_call 116; refine hcall.mono ?_; rintro e w1 ⟨rfl, rfl⟩)
            refine bodyPost_ret (res3 _ _) rfl ⟨⟨_, _, _, rfl, ?_⟩, rfl⟩
            exact gr_two l _ _ (by omega) (by omega) Hlet.out HE.out HZ.out
        · generalize ix abc (C l 3) = X at hx hcall
          have ha := and8 (acc4 l 3) (by have := acc4_lt l 3; omega)
          by_cases hz : ixn (C l 2) % 4 = 0
          · have HZ : Hid (ixn (C l 2) % 4 = 0) := hz
            have hq0 : ((acc4 l 3 % 256 : Nat) : Int) = 0 := by have := (left3 l).2 hz; omega
            rw [hq0] at ha
            clear hz hq0
            go_wp2_with (go_at_call 116; refine hcall.mono ?_; rintro e w1 ⟨rfl, rfl⟩)
            go_loop [4] (fun r => ∃ j : Nat, 3 ≤ j ∧ j ≤ g.size ∧ r = .int .i64 j ∧ ∀ i, 3 ≤ i → i < j → C l i = 61) (fun r => 16 - (intOf r).toNat)
            case atStart => exact ⟨3, by omega, by omega, rfl, fun i h1 h2 => absurd h1 (by omega)⟩
            case round =>
              obtain ⟨j, hj2, hj, rfl, hf⟩ := hrel
              have HF : Hid (∀ i, 3 ≤ i → i < j → C l i = 61) := hf
              clear hf
              by_cases hjl : j < g.size
              · have hcj := hC.out j hjl
                by_cases h61 : C l j = 61
                · have H61 : Hid (C l j = 61) := h61
                  have hq : ((C l j).toNat : Int) = 61 := by rw [h61]; rfl
                  clear h61
                  go_wp2
                  go_round
                  case rel =>
                    refine ⟨j + 1, by omega, by omega, by go_num, fun i h1 h2 => ?_⟩
                    by_cases hij : i = j
                    · subst hij; exact H61.out
                    · exact HF.out i h1 (by omega)
                  case measure => simp [intOf]; omega
                · have H61 : Hid (¬ C l j = 61) := h61
                  have hq := ne61_int _ h61
                  clear h61
                  go_wp2
                  refine bodyPost_ret (res3 _ _) rfl ⟨⟨_, _, _, rfl, ?_⟩, rfl⟩
                  exact gr_threeF l j (by omega) (by omega) Hlet.out HE.out HZ.out hj2 (by omega) HF.out (.inr H61.out)
              · obtain rfl : j = g.size := by omega
                go_wp2
                refine bodyPost_ret (res3 _ _) rfl ⟨⟨_, _, _, rfl, ?_⟩, rfl⟩
                exact gr_threeF l g.size (by omega) (by omega) Hlet.out HE.out HZ.out hj2 (by omega) HF.out (.inl hll.symm)
          · have HZ : Hid (¬ ixn (C l 2) % 4 = 0) := hz
            have hq0 : ¬ ((acc4 l 3 % 256 : Nat) : Int) = 0 := fun e => hz ((left3 l).1 (by omega))
            generalize ((acc4 l 3 % 256 : Nat) : Int) = Z at ha hq0
            clear hz
            go_wp2_with (go_at_call 116; refine hcall.mono ?_; rintro e w1 ⟨rfl, rfl⟩)
            refine bodyPost_ret (res3 _ _) rfl ⟨⟨_, _, _, rfl, ?_⟩, rfl⟩
            exact gr_three l _ _ (by omega) (by omega) Hlet.out HE.out HZ.out
      · have Hnext : Hid (∀ i, i < k + 1 → 0 ≤ ix abc (C l i)) := fun i hi => by
          by_cases hik : i = k
          · subst hik; omega
          · exact Hlet.out i (by omega)
        have hx0 : 0 ≤ ix abc (C l k) := by omega
        have hx64 := ix_lt abc (C l k)
        rw [show (abc.length : Int) = 64 from rfl] at hx64
        rcases hk4 with rfl | rfl | rfl | rfl
        · have Hac := acc4_s0 l hx0
          generalize ix abc (C l 0) = X at hx hx0 hx64 hcall Hac
          have HAC : Hid _ := Hac
          clear Hac
          go_wp2_with (go_at_call 116; refine hcall.mono ?_; rintro e w1 ⟨rfl, rfl⟩)
          exact ⟨⟨1, by omega, rfl, by rw [HAC.out], Hnext.out⟩, by simp [intOf]⟩
        · have Hac := acc4_s1 l hx0
          generalize ix abc (C l 1) = X at hx hx0 hx64 hcall Hac
          have HAC : Hid _ := Hac
          clear Hac
          go_wp2_with (go_at_call 116; refine hcall.mono ?_; rintro e w1 ⟨rfl, rfl⟩)
          exact ⟨⟨2, by omega, rfl, by rw [HAC.out], Hnext.out⟩, by simp [intOf]⟩
        · have Hac := acc4_s2 l hx0
          generalize ix abc (C l 2) = X at hx hx0 hx64 hcall Hac
          have HAC : Hid _ := Hac
          clear Hac
          go_wp2_with (go_at_call 116; refine hcall.mono ?_; rintro e w1 ⟨rfl, rfl⟩)
          exact ⟨⟨3, by omega, rfl, by rw [HAC.out], Hnext.out⟩, by simp [intOf]⟩
        · have Hac := acc4_s3 l hx0
          generalize ix abc (C l 3) = X at hx hx0 hx64 hcall Hac
          have HAC : Hid _ := Hac
          clear Hac
          go_wp2_with (go_at_call 116; refine hcall.mono ?_; rintro e w1 ⟨rfl, rfl⟩)
          exact ⟨⟨4, by omega, rfl, by rw [HAC.out], Hnext.out⟩, by simp [intOf]⟩
    · have hke : k = g.size := by omega
      have HE : Hid (k = l.length ∨ ix abc (C l k) < 0) := .inl (by omega)
      have hk4 : k = 0 ∨ k = 1 ∨ k = 2 ∨ k = 3 ∨ k = 4 := by omega
      have hgz : (g.size : Int) = k := by omega
      clear hke
      rcases hk4 with rfl | rfl | rfl | rfl | rfl
      · skip
        go_wp2
        refine bodyPost_ret (res3 _ _) rfl ⟨⟨_, _, _, rfl, ?_⟩, rfl⟩
        exact gr_low l 0 _ _ (by omega) (by omega) (by omega) Hlet.out HE.out
      · skip
        go_wp2
        refine bodyPost_ret (res3 _ _) rfl ⟨⟨_, _, _, rfl, ?_⟩, rfl⟩
        exact gr_low l 1 _ _ (by omega) (by omega) (by omega) Hlet.out HE.out
      · skip
        have ha := and16 (acc4 l 2) (by have := acc4_lt l 2; omega)
        by_cases hz : ixn (C l 1) % 16 = 0
        · have HZ : Hid (ixn (C l 1) % 16 = 0) := hz
          have hq0 : ((acc4 l 2 % 65536 : Nat) : Int) = 0 := by have := (left2 l).2 hz; omega
          rw [hq0] at ha
          clear hz hq0
          go_wp2
          go_loop [4] (fun r => r = .int .i64 2) (fun r => 0)
          case atStart => rfl
          case round =>
            subst hrel
            go_wp2
            refine bodyPost_ret (res3 _ _) rfl ⟨⟨_, _, _, rfl, ?_⟩, rfl⟩
            exact gr_twoF l 2 (by omega) (by omega) Hlet.out HE.out HZ.out (by omega) (by omega) (fun i h1 h2 => absurd h1 (by omega)) (.inl (by omega))
        · have HZ : Hid (¬ ixn (C l 1) % 16 = 0) := hz
          have hq0 : ¬ ((acc4 l 2 % 65536 : Nat) : Int) = 0 := fun e => hz ((left2 l).1 (by omega))
          generalize ((acc4 l 2 % 65536 : Nat) : Int) = Z at ha hq0
          clear hz
          go_wp2
          refine bodyPost_ret (res3 _ _) rfl ⟨⟨_, _, _, rfl, ?_⟩, rfl⟩
          exact gr_two l _ _ (by omega) (by omega) Hlet.out HE.out HZ.out
      · skip
        have ha := and8 (acc4 l 3) (by have := acc4_lt l 3; omega)
        by_cases hz : ixn (C l 2) % 4 = 0
        · have HZ : Hid (ixn (C l 2) % 4 = 0) := hz
          have hq0 : ((acc4 l 3 % 256 : Nat) : Int) = 0 := by have := (left3 l).2 hz; omega
          rw [hq0] at ha
          clear hz hq0
          go_wp2
          go_loop [4] (fun r => r = .int .i64 3) (fun r => 0)
          case atStart => rfl
          case round =>
            subst hrel
            go_wp2
            refine bodyPost_ret (res3 _ _) rfl ⟨⟨_, _, _, rfl, ?_⟩, rfl⟩
            exact gr_threeF l 3 (by omega) (by omega) Hlet.out HE.out HZ.out (by omega) (by omega) (fun i h1 h2 => absurd h1 (by omega)) (.inl (by omega))
        · have HZ : Hid (¬ ixn (C l 2) % 4 = 0) := hz
          have hq0 : ¬ ((acc4 l 3 % 256 : Nat) : Int) = 0 := fun e => hz ((left3 l).1 (by omega))
          generalize ((acc4 l 3 % 256 : Nat) : Int) = Z at ha hq0
          clear hz
          go_wp2
          refine bodyPost_ret (res3 _ _) rfl ⟨⟨_, _, _, rfl, ?_⟩, rfl⟩
          exact gr_three l _ _ (by omega) (by omega) Hlet.out HE.out HZ.out
      · skip
        have ha := and0 (acc4 l 4) (by have := acc4_lt l 4; omega)
        go_wp2
        go_loop [4] (fun r => r = .int .i64 4) (fun r => 0)
        case atStart => rfl
        case round =>
          subst hrel
          go_wp2
          refine bodyPost_ret (res3 _ _) rfl ⟨⟨_, _, _, rfl, ?_⟩, rfl⟩
          exact gr_all l (by omega) Hlet.out
end Go.Proofs.YtebbgpnhkpbefaaGreatDoor
