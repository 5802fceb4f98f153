/- The document's own group of four letters. -/
import Derived.Test.YtdcnoepgnncjoaaDoorM8
import Derived.Test.YtdcnoepgnncjoaaDoorC4
namespace Go.Proofs.YtdcnoepgnncjoaaDoor
open Go.RowKit
set_option linter.unusedVariables false
set_option linter.unusedSimpArgs false

theorem num_abc (c : UInt8) (w : World) : Calls Tryd.prog 31 #[.string abcB, .int .u8 (c.toNat : Nat)] w fun e w' => e = .returned (.int .i64 (ix abc c)) ∧ w' = w := number_any abcB c w (by decide)
theorem is61 (c : UInt8) (h : c = 61) : ((c.toNat : Int) != 61) = false := by subst h; rfl
theorem no61 (c : UInt8) (h : ¬ c = 61) : ((c.toNat : Int) != 61) = true := by
  rw [bne_iff_ne]
  intro e
  apply h
  apply UInt8.toNat_inj.1
  show _ = 61
  omega
theorem is61e (c : UInt8) (h : c = 61) : ((c.toNat : Int) == 61) = true := by subst h; rfl
theorem no61e (c : UInt8) (h : ¬ c = 61) : ((c.toNat : Int) == 61) = false := by
  have := no61 c h
  simpa [bne] using this
set_option maxRecDepth 100000 in
set_option maxHeartbeats 8000000 in
theorem refgroup_any (g : ByteArray) (w : World) (hg : g.size ≤ 4) :
    Calls Tryd.prog 46 #[.string g] w fun e w' => e = .returned (.int .i64 (rgt g.data.toList : Nat)) ∧ w' = w := by
  obtain ⟨L, hL⟩ : ∃ L, L = g.data.toList := ⟨_, rfl⟩
  have hlen : L.length = g.size := by rw [hL, Array.length_toList]; rfl
  have hC : Hid (∀ k (h : k < g.size), g[k]'h = C L k) := fun k h => by rw [hL]; exact C_get g k h
  rw [← hL]
  clear hL
  have hle := rgt_le L (by omega)
  have HST : Hid (∀ k, k < g.size → k ≤ rgt L → (okA L k → k + 1 ≤ rgt L) ∧ (¬ okA L k → rgt L = k) ∧ (0 < k → 0 ≤ ix abc (C L 0)) ∧ (1 < k → 0 ≤ ix abc (C L 1)) ∧ (2 < k → C L 2 ≠ 61 → 0 ≤ ix abc (C L 2))) := fun k h1 h2 => rgt_step L k (by omega) (by omega) h2
  have hlt := fun c => ix_lt abc c
  have HLT : Hid (∀ c, ix abc c < 64) := hlt
  clear hlt
  unfold okA at HST
  generalize rgt L = N at HST hle
  rw [hlen] at hle
  clear hlen
  go_enter Tryd.func46, Tryd.ntmps46
  go_wp2
  go_loop [3] (fun i => ∃ k : Nat, k ≤ g.size ∧ i = .int .i64 k ∧ k ≤ N) (fun i => g.size - (intOf i).toNat)
  case atStart => exact ⟨0, by omega, rfl, by omega⟩
  case round =>
    obtain ⟨k, hk, rfl, hkN⟩ := hrel
    by_cases hlt : k < g.size
    · obtain ⟨s1, s2, s3, s4, s5⟩ := HST.out k hlt hkN
      have hkc : k = 0 ∨ k = 1 ∨ k = 2 ∨ k = 3 := by omega
      rcases hkc with rfl | rfl | rfl | rfl
      · have hck := hC.out 0 hlt
        by_cases hc : C L 0 = 61
        · have hz := is61 _ hc
          have HN : Hid (N = 0) := s2 (by rw [if_pos hc]; omega)
          clear s1 s2 s3 s4 s5 hc
          generalize C L 0 = c at hck hz
          go_wp2
          go_ret
          exact ⟨by rw [HN.out]; rfl, rfl⟩
        · have hz := no61 _ hc
          by_cases hX : ix abc (C L 0) < 0
          · have HN : Hid (N = 0) := s2 (by rw [if_neg hc]; omega)
            clear s1 s2 s3 s4 s5 hc
            generalize C L 0 = c at hck hz hX
            go_wp2_with (go_at_call 31; refine (num_abc _ _).mono ?_; rintro e w2 ⟨rfl, rfl⟩)
            go_ret
            exact ⟨by rw [HN.out]; rfl, rfl⟩
          · have HN : Hid (1 ≤ N) := s1 (by rw [if_neg hc]; exact ⟨by omega, by omega⟩)
            clear s1 s2 s3 s4 s5 hc
            generalize C L 0 = c at hck hz hX
            go_wp2_with (go_at_call 31; refine (num_abc _ _).mono ?_; rintro e w2 ⟨rfl, rfl⟩)
            exact ⟨⟨1, by omega, by rfl, HN.out⟩, by simp [intOf]; omega⟩
      · have hck := hC.out 1 hlt
        by_cases hc : C L 1 = 61
        · have hz := is61 _ hc
          have HN : Hid (N = 1) := s2 (by rw [if_pos hc]; omega)
          clear s1 s2 s3 s4 s5 hc
          generalize C L 1 = c at hck hz
          go_wp2
          go_ret
          exact ⟨by rw [HN.out]; rfl, rfl⟩
        · have hz := no61 _ hc
          by_cases hX : ix abc (C L 1) < 0
          · have HN : Hid (N = 1) := s2 (by rw [if_neg hc]; omega)
            clear s1 s2 s3 s4 s5 hc
            generalize C L 1 = c at hck hz hX
            go_wp2_with (go_at_call 31; refine (num_abc _ _).mono ?_; rintro e w2 ⟨rfl, rfl⟩)
            go_ret
            exact ⟨by rw [HN.out]; rfl, rfl⟩
          · have HN : Hid (2 ≤ N) := s1 (by rw [if_neg hc]; exact ⟨by omega, by omega⟩)
            clear s1 s2 s3 s4 s5 hc
            generalize C L 1 = c at hck hz hX
            go_wp2_with (go_at_call 31; refine (num_abc _ _).mono ?_; rintro e w2 ⟨rfl, rfl⟩)
            exact ⟨⟨2, by omega, by rfl, HN.out⟩, by simp [intOf]; omega⟩
      · have hck := hC.out 2 hlt
        have hcm := hC.out 1 (by omega)
        by_cases hc : C L 2 = 61
        · have hz := is61 _ hc
          have hY := s4 (by omega)
          have hY2 := HLT.out (C L 1)
          by_cases h16 : ix abc (C L 1) % 16 = 0
          · have HN : Hid (3 ≤ N) := s1 (by rw [if_pos hc]; exact ⟨by omega, fun _ => h16, by omega⟩)
            have hm : ((ix abc (C L 1) % 16) != 0) = false := by rw [h16]; rfl
            clear s1 s2 s3 s4 s5 hc h16
            generalize C L 2 = c at hck hz
            generalize C L 1 = d at hcm hY hY2 hm
            go_wp2_with (go_at_call 31; refine (num_abc _ _).mono ?_; rintro e w2 ⟨rfl, rfl⟩)
            exact ⟨⟨3, by omega, by rfl, HN.out⟩, by simp [intOf]; omega⟩
          · have HN : Hid (N = 2) := s2 (by rw [if_pos hc]; exact fun h => h16 (h.2.1 rfl))
            have hm : ((ix abc (C L 1) % 16) != 0) = true := by rw [bne_iff_ne]; exact h16
            clear s1 s2 s3 s4 s5 hc h16
            generalize C L 2 = c at hck hz
            generalize C L 1 = d at hcm hY hY2 hm
            go_wp2_with (go_at_call 31; refine (num_abc _ _).mono ?_; rintro e w2 ⟨rfl, rfl⟩)
            go_ret
            exact ⟨by rw [HN.out]; rfl, rfl⟩
        · have hz := no61 _ hc
          by_cases hX : ix abc (C L 2) < 0
          · have HN : Hid (N = 2) := s2 (by rw [if_neg hc]; omega)
            clear s1 s2 s3 s4 s5 hc
            generalize C L 2 = c at hck hz hX
            go_wp2_with (go_at_call 31; refine (num_abc _ _).mono ?_; rintro e w2 ⟨rfl, rfl⟩)
            go_ret
            exact ⟨by rw [HN.out]; rfl, rfl⟩
          · have HN : Hid (3 ≤ N) := s1 (by rw [if_neg hc]; exact ⟨by omega, by omega⟩)
            clear s1 s2 s3 s4 s5 hc
            generalize C L 2 = c at hck hz hX
            go_wp2_with (go_at_call 31; refine (num_abc _ _).mono ?_; rintro e w2 ⟨rfl, rfl⟩)
            exact ⟨⟨3, by omega, by rfl, HN.out⟩, by simp [intOf]; omega⟩
      · have hck := hC.out 3 hlt
        have hcm := hC.out 2 (by omega)
        by_cases hc : C L 3 = 61
        · have hz := is61 _ hc
          by_cases h2 : C L 2 = 61
          · have hz2 := is61 _ h2
            have HN : Hid (4 ≤ N) := s1 (by rw [if_pos hc]; exact ⟨by omega, by omega, fun _ => .inl h2⟩)
            clear s1 s2 s3 s4 s5 hc h2
            generalize C L 3 = c at hck hz
            generalize C L 2 = d at hcm hz2
            go_wp2_with (go_at_call 31; refine (num_abc _ _).mono ?_; rintro e w2 ⟨rfl, rfl⟩)
            exact ⟨⟨4, by omega, by rfl, HN.out⟩, by simp [intOf]; omega⟩
          · have hz2 := no61 _ h2
            have hY := s5 (by omega) h2
            have hY2 := HLT.out (C L 2)
            by_cases h4 : ix abc (C L 2) % 4 = 0
            · have HN : Hid (4 ≤ N) := s1 (by rw [if_pos hc]; exact ⟨by omega, by omega, fun _ => .inr h4⟩)
              have hm : ((ix abc (C L 2) % 4) != 0) = false := by rw [h4]; rfl
              clear s1 s2 s3 s4 s5 hc h2 h4
              generalize C L 3 = c at hck hz
              generalize C L 2 = d at hcm hz2 hY hY2 hm
              go_wp2_with (go_at_call 31; refine (num_abc _ _).mono ?_; rintro e w2 ⟨rfl, rfl⟩)
              exact ⟨⟨4, by omega, by rfl, HN.out⟩, by simp [intOf]; omega⟩
            · have HN : Hid (N = 3) := s2 (by rw [if_pos hc]; exact fun h => (h.2.2 rfl).elim h2 h4)
              have hm : ((ix abc (C L 2) % 4) != 0) = true := by rw [bne_iff_ne]; exact h4
              clear s1 s2 s3 s4 s5 hc h2 h4
              generalize C L 3 = c at hck hz
              generalize C L 2 = d at hcm hz2 hY hY2 hm
              go_wp2_with (go_at_call 31; refine (num_abc _ _).mono ?_; rintro e w2 ⟨rfl, rfl⟩)
              go_ret
              exact ⟨by rw [HN.out]; rfl, rfl⟩
        · have hz := no61 _ hc
          by_cases hX : ix abc (C L 3) < 0
          · have HN : Hid (N = 3) := s2 (by rw [if_neg hc]; omega)
            clear s1 s2 s3 s4 s5 hc
            generalize C L 3 = c at hck hz hX
            go_wp2_with (go_at_call 31; refine (num_abc _ _).mono ?_; rintro e w2 ⟨rfl, rfl⟩)
            go_ret
            exact ⟨by rw [HN.out]; rfl, rfl⟩
          · by_cases h2 : C L 2 = 61
            · have hz2 := is61e _ h2
              have HN : Hid (N = 3) := s2 (by rw [if_neg hc]; exact fun h => h.2 rfl h2)
              clear s1 s2 s3 s4 s5 hc h2
              generalize C L 3 = c at hck hz hX
              generalize C L 2 = d at hcm hz2
              go_wp2_with (go_at_call 31; refine (num_abc _ _).mono ?_; rintro e w2 ⟨rfl, rfl⟩)
              go_ret
              exact ⟨by rw [HN.out]; rfl, rfl⟩
            · have hz2 := no61e _ h2
              have HN : Hid (4 ≤ N) := s1 (by rw [if_neg hc]; exact ⟨by omega, fun _ => h2⟩)
              clear s1 s2 s3 s4 s5 hc h2
              generalize C L 3 = c at hck hz hX
              generalize C L 2 = d at hcm hz2
              go_wp2_with (go_at_call 31; refine (num_abc _ _).mono ?_; rintro e w2 ⟨rfl, rfl⟩)
              exact ⟨⟨4, by omega, by rfl, HN.out⟩, by simp [intOf]; omega⟩
    · obtain rfl : k = g.size := by omega
      have HN : Hid (N = g.size) := by unfold Hid; omega
      go_wp2
      go_ret
      exact ⟨by rw [HN.out]; rfl, rfl⟩
end Go.Proofs.YtdcnoepgnncjoaaDoor
