/- The document's MTH. -/
import Derived.Test.YtdhlmpjoggnkkaaGreatDoorLg1
import Derived.Test.YtdhlmpjoggnkkaaGreatDoorRag
namespace Go.Proofs.YtdhlmpjoggnkkaaGreatDoor
open Go.RowKit
set_option linter.unusedVariables false
set_option linter.unusedSimpArgs false

/-- The two parts of texts in memory. -/
theorem Strs.halves {w : World} {g o : Nat} {l : List ByteArray} (h4 : Strs w (some ⟨g, o, none⟩) l) (k cap : Nat) (hk : k < l.length) (hk0 : 0 < k) (h3 : l.length ≤ cap) : Strs w (some ⟨g, o, none⟩) (l.take k) ∧ Strs w (some ⟨g, o + k, none⟩) (l.drop k) := by
  have s1 := h4.cut 0 k cap h3
  have s2 := h4.cut k l.length cap h3
  rw [← sbl_h] at s1
  rw [← sbl_l] at s2
  have t1 : (if cap = 0 then some (⟨g, o, none⟩ : Addr) else (some ⟨g, o, none⟩ : Option Addr).map (·.add (0 * 1))) = some ⟨g, o, none⟩ := by split <;> simp [Addr.add]
  have t2 : (if cap = k then some (⟨g, o, none⟩ : Addr) else (some ⟨g, o, none⟩ : Option Addr).map (·.add (k * 1))) = some ⟨g, o + k, none⟩ := by rw [if_neg (by omega)]; simp only [Option.map_some, addO, Nat.mul_one]
  rw [t1] at s1
  rw [t2] at s2
  exact ⟨s1, s2⟩
set_option maxHeartbeats 1000000 in
theorem below_any (n : Nat) (h2 : 2 ≤ n) (hn : n ≤ 1048576) (w : World) : Calls Tryz.prog 93 #[.int .i64 (n : Int)] w fun e w' => e = .returned (.int .i64 (spl n : Int)) ∧ w' = w := by
  go_enter Tryz.func93, Tryz.ntmps93
  go_wp2_with fail
  go_loop [3] (fun x => ∃ k j : Nat, k = 2 ^ j ∧ x = .int .i64 k ∧ k < n) (fun x => n - (intOf x).toNat)
  case atStart => exact ⟨1, 0, rfl, rfl, by omega⟩
  case round =>
    obtain ⟨k, j, hk, rfl, hlt⟩ := hrel
    have HK : Hid (k = 2 ^ j) := hk
    have hk0 : 0 < k := by rw [hk]; exact Nat.two_pow_pos j
    clear hk
    by_cases hc : 2 * k < n
    · have hc1 : (2 : Int) * (k : Int) < (n : Int) := by omega
      go_wp2
      exact ⟨⟨2 * k, j + 1, by rw [HK.out, Nat.pow_succ'], by go_num, hc⟩, by simp [intOf]; omega⟩
    · have hc1 : ¬ (2 : Int) * (k : Int) < (n : Int) := by omega
      have hs : Hid (spl n = k) := by rw [HK.out]; exact spl_of (by rw [← HK.out]; exact hlt) (by rw [← HK.out]; omega)
      go_wp2
      go_ret
      exact ⟨by rw [hs.out]; rfl, rfl⟩
set_option maxRecDepth 100000 in
set_option maxHeartbeats 1000000 in
theorem refmth_nil (p : Option Addr) (cap : Nat) (w : World) : Calls Tryz.prog 17 #[.slice p 0 cap] w fun e w' => e = .returned (.agg (hbs (mth []))) ∧ Nw w w' := by
  rw [mth_nil]
  have q := fun W => Rf.refempty_any W
  have Q := show Hid _ from q
  clear q
  go_enter Tryz.func17, Tryz.ntmps17
  go_wp2_with fail
  rw [z32_h]
  refine (Q.out _).mono ?_
  rintro e w1 ⟨rfl, n1⟩
  obtain ⟨l0, b0, n2⟩ := one_made n1
  clear n1
  have hs : (hbs (Sh [])).size = 32 := by rw [hbs_size, Sh_len]
  go_wp2_with (refine wp_store_agg rfl (.tmp 2) (.tmp 7) 56 32 rfl Tryz.sizeOf56 w.heap.size 0 rfl z32 56 b0 (hbs (Sh [])) rfl hs (hbs_one _) (by decide) (hbs (Sh [])) (by rw [z32_drop]; simp) ?_; intro w3 j3 f3 z3)
  exact bodyPost_ret (results_cell Tryz.results17 Tryz.isAgg56 Tryz.sizeOf56 rfl j3 hs) rfl ⟨rfl, n2.trans f3 (fun k hk q => by omega)⟩
set_option maxRecDepth 100000 in
set_option maxHeartbeats 1000000 in
theorem refmth_one (x : ByteArray) (g o cap : Nat) (w : World) (hx : x.size ≤ 65536) (hc : w.cell? ⟨g, o, none⟩ = some (.string x)) : Calls Tryz.prog 17 #[.slice (some ⟨g, o, none⟩) 1 cap] w fun e w' => e = .returned (.agg (hbs (mth [x]))) ∧ Nw w w' := by
  rw [mth_one]
  have q := fun W => Rf.refleaf_any x W (by omega)
  have Q := show Hid _ from q
  have lg := World.block_lt_of_cell? _ _ hc
  simp only at lg
  clear q
  obtain ⟨R, hR⟩ : ∃ R, R = Sh (0 :: x.data.toList) := ⟨_, rfl⟩
  have hRl : (hbs R).size = 32 := by rw [hbs_size, hR, Sh_len]
  rw [← hR] at Q ⊢
  clear hR
  have hc1 : ∀ ob, (w.alloc ob).cell? ⟨g, o, none⟩ = some (.string x) := fun ob => (nwa w ob).cellOf hc
  go_enter Tryz.func17, Tryz.ntmps17
  go_wp2_with fail
  rw [z32_h]
  refine (Q.out _).mono ?_
  rintro e w1 ⟨rfl, n1⟩
  obtain ⟨l0, b0, n2⟩ := one_made n1
  clear n1
  go_wp2_with (refine wp_store_agg rfl (.tmp 2) (.tmp 14) 56 32 rfl Tryz.sizeOf56 w.heap.size 0 rfl z32 56 b0 (hbs R) rfl hRl (hbs_one _) (by decide) (hbs R) (by rw [z32_drop]; simp) ?_; intro w3 j3 f3 z3)
  exact bodyPost_ret (results_cell Tryz.results17 Tryz.isAgg56 Tryz.sizeOf56 rfl j3 hRl) rfl ⟨rfl, n2.trans f3 (fun k hk q => by omega)⟩
set_option maxRecDepth 100000 in
set_option maxHeartbeats 2000000 in
theorem refmth_cut (g o n cap k : Nat) (w : World) (A B : List UInt8) (hA : A.length = 32) (hB : B.length = 32) (hn : 2 ≤ n) (hn2 : n ≤ 1048576) (hk : k = spl n) (hcap : n ≤ cap)
    (QA : ∀ W, Nw w W → Calls Tryz.prog 17 #[.slice (some ⟨g, o, none⟩) k cap] W fun e w' => e = .returned (.agg (hbs A)) ∧ Nw W w')
    (QB : ∀ W, Nw w W → Calls Tryz.prog 17 #[.slice (some ⟨g, o + k, none⟩) (n - k) (cap - k)] W fun e w' => e = .returned (.agg (hbs B)) ∧ Nw W w') :
    Calls Tryz.prog 17 #[.slice (some ⟨g, o, none⟩) n cap] w fun e w' => e = .returned (.agg (hbs (Sh (1 :: (A ++ B))))) ∧ Nw w w' := by
  have QA' : Hid (∀ W, Nw w W → Calls Tryz.prog 17 #[.slice (some ⟨g, o, none⟩) k cap] W fun e w' => e = .returned (.agg (hbs A)) ∧ Nw W w') := QA
  have QB' : Hid (∀ W, Nw w W → Calls Tryz.prog 17 #[.slice (some ⟨g, o + k, none⟩) (n - k) (cap - k)] W fun e w' => e = .returned (.agg (hbs B)) ∧ Nw W w') := QB
  have QN : Hid (∀ W, Calls Tryz.prog 94 #[.agg (hbs A), .agg (hbs B)] W fun e w' => e = .returned (.agg (hbs (Sh (1 :: (A ++ B))))) ∧ Nw W w') := fun W => Rf.refnode_any A B hA hB W
  have QS := show Hid _ from below_any n hn hn2
  have hkn := spl_lt hn
  rw [← hk] at QS hkn
  have HK : Hid (k = spl n) := hk
  clear QA QB hk hA hB
  have hc1 := cut_h g o n cap k .i64 (by omega)
  have hc2 := cut_l g o n cap k .i64 (by omega) (by omega)
  have HKN : Hid (k < n) := hkn
  have HCN : Hid (n ≤ cap) := hcap
  have hn0 : ((n : Int) == 0) = false := by simp; omega
  have hn1 : ((n : Int) == 1) = false := by simp; omega
  clear hkn hcap
  obtain ⟨R, hR⟩ : ∃ R, R = Sh (1 :: (A ++ B)) := ⟨_, rfl⟩
  have hRl : (hbs R).size = 32 := by rw [hbs_size, hR, Sh_len]
  rw [← hR] at QN ⊢
  clear hR
  obtain ⟨a, ha⟩ : ∃ a, a = hbs A := ⟨_, rfl⟩
  obtain ⟨b, hb'⟩ : ∃ b, b = hbs B := ⟨_, rfl⟩
  rw [← ha] at QA' QN
  rw [← hb'] at QB' QN
  clear ha hb'
  go_enter Tryz.func17, Tryz.ntmps17
  go_wp2_with fail
  rw [z32_h]
  refine (QS.out _).mono ?_
  rintro e w1 ⟨rfl, h1⟩
  have NW1 : Hid (Nw w w1) := by rw [h1]; exact nwa w _
  have b0 : w1.heap[w.heap.size]? = some (.cells z32 56) := by rw [h1]; exact heap_new _ _
  clear h1
  go_wp2_with fail
  have nb : Nw w1 w1.drew := (Fr.refl _ _).drew
  refine wp_region_held_drew (S := fun _ => True) (by kernel_rfl) trivial ?_
  intro hS0
  refine wpAnyH_take (i := 0) (v := .slice (some ⟨g, o, none⟩) n cap) rfl (by kernel_rfl) (by kernel_rfl) (by kernel_rfl) (fun _ _ _ h => h) (Or.inl ⟨by rfl, by intro w hw; go_simp⟩) hS0 ?_
  try simp only [Act.put, List.setIfInBounds_toArray, List.set_cons_zero, List.set_cons_succ]
  refine wpAnyH_take (i := 1) (v := .int .i64 (k : Int)) rfl (by kernel_rfl) (by kernel_rfl) (by kernel_rfl) (fun _ _ _ h => h) (Or.inl ⟨by rfl, by intro w hw; go_simp⟩) hS0 ?_
  try simp only [Act.put, List.setIfInBounds_toArray, List.set_cons_zero, List.set_cons_succ]
  refine wpAnyH_take (i := 2) (v := .slice (some ⟨g, o, none⟩) k cap) rfl (by kernel_rfl) (by kernel_rfl) (by kernel_rfl) (fun _ _ _ h => h) (Or.inl ⟨by rfl, by intro w hw; have := hc1 w; go_simp⟩) hS0 ?_
  try simp only [Act.put, List.setIfInBounds_toArray, List.set_cons_zero, List.set_cons_succ]
  refine wpAnyH_take (i := 4) (v := .slice (some ⟨g, o, none⟩) n cap) rfl (by kernel_rfl) (by kernel_rfl) (by kernel_rfl) (fun _ _ _ h => h) (Or.inl ⟨by rfl, by intro w hw; go_simp⟩) hS0 ?_
  try simp only [Act.put, List.setIfInBounds_toArray, List.set_cons_zero, List.set_cons_succ]
  refine wpAnyH_take (i := 5) (v := .int .i64 (k : Int)) rfl (by kernel_rfl) (by kernel_rfl) (by kernel_rfl) (fun _ _ _ h => h) (Or.inl ⟨by rfl, by intro w hw; go_simp⟩) hS0 ?_
  try simp only [Act.put, List.setIfInBounds_toArray, List.set_cons_zero, List.set_cons_succ]
  refine wpAnyH_take (i := 6) (v := .slice (some ⟨g, o + k, none⟩) (n - k) (cap - k)) rfl (by kernel_rfl) (by kernel_rfl) (by kernel_rfl) (fun _ _ _ h => h) (Or.inl ⟨by rfl, by intro w hw; have := hc2 w; go_simp⟩) hS0 ?_
  try simp only [Act.put, List.setIfInBounds_toArray, List.set_cons_zero, List.set_cons_succ]
  refine wpAnyH_ready (rs := [3]) (by kernel_rfl) (by simp) ?_
  refine AllReadyH.cons rfl (fun K' hK => ?_) AllReadyH.nil
  go_simp
  go_wp2_with (go_at_call 17; refine (QA'.out _ (NW1.out.tr nb)).mono ?_; rintro e2 w2 ⟨rfl, n2⟩)
  have m2 : Nw w1 w2 := Nw.tr nb n2
  refine hK.out _ _ trivial (fun hS0 => ?_)
  try simp only [Act.put, List.setIfInBounds_toArray, List.set_cons_zero, List.set_cons_succ]
  refine wpAnyH_ready (rs := [7]) (by kernel_rfl) (by simp) ?_
  refine AllReadyH.cons rfl (fun K' hK => ?_) AllReadyH.nil
  go_simp
  go_wp2_with (go_at_call 17; refine (QB'.out _ (NW1.out.tr m2)).mono ?_; rintro e3 w3 ⟨rfl, n3⟩)
  have m3 : Nw w1 w3 := Nw.tr m2 n3
  refine hK.out _ _ trivial (fun hS0 => ?_)
  try simp only [Act.put, List.setIfInBounds_toArray, List.set_cons_zero, List.set_cons_succ]
  refine wpAnyH_ready (rs := [8]) (by kernel_rfl) (by simp) ?_
  refine AllReadyH.cons rfl (fun K' hK => ?_) AllReadyH.nil
  go_simp
  go_wp2_with (go_at_call 94; refine (QN.out _).mono ?_; rintro e4 w4 ⟨rfl, n4⟩)
  have m4 : Nw w1 w4 := Nw.tr m3 n4
  have jz := (m4.block _ (heap_lt b0) (fun f => f)).trans b0
  refine hK.out _ _ trivial (fun hS0 => ?_)
  try simp only [Act.put, List.setIfInBounds_toArray, List.set_cons_zero, List.set_cons_succ]
  refine wpAnyH_ready (rs := [9]) (by kernel_rfl) (by simp) ?_
  refine AllReadyH.cons rfl (fun K' hK => ?_) AllReadyH.nil
  refine step_store_agg rfl (.tmp 2) (.tmp 26) 56 32 rfl Tryz.sizeOf56 w.heap.size 0 rfl z32 56 jz (hbs R) rfl hRl (hbs_one _) (by decide) (hbs R) (by rw [z32_drop]; simp) ?_
  intro w5 j5 f5 z5
  refine hK.out _ _ trivial (fun hS0 => ?_)
  try simp only [Act.put, List.setIfInBounds_toArray, List.set_cons_zero, List.set_cons_succ]
  refine wpAnyH_done (by kernel_rfl) ?_ _
  go_wp2_with fail
  exact bodyPost_ret (results_cell Tryz.results17 Tryz.isAgg56 Tryz.sizeOf56 rfl j5 hRl) rfl ⟨rfl, (NW1.out.tr m4).trans f5 (fun k hk q => by omega)⟩
theorem refmth_any : ∀ (m : Nat) (l : List ByteArray) (p : Option Addr) (cap : Nat) (w : World), l.length ≤ m → l.length ≤ 1048576 → (∀ x ∈ l, x.size ≤ 65536) → l.length ≤ cap → Strs w p l →
    Calls Tryz.prog 17 #[.slice p l.length cap] w fun e w' => e = .returned (.agg (hbs (mth l))) ∧ Nw w w'
  | m, [], p, cap, w, hm, h1, h2, h3, h4 => refmth_nil p cap w
  | m, [x], p, cap, w, hm, h1, h2, h3, h4 => by
    obtain ⟨g, o, rfl, hg⟩ := h4 0 x rfl
    exact refmth_one x g o cap w (h2 x (by simp)) hg
  | 0, x :: y :: r, p, cap, w, hm, h1, h2, h3, h4 => by simp at hm
  | m + 1, x :: y :: r, p, cap, w, hm, h1, h2, h3, h4 => by
    obtain ⟨l, hl⟩ : ∃ l, l = x :: y :: r := ⟨_, rfl⟩
    rw [← hl] at hm h1 h2 h3 h4 ⊢
    have hn : 2 ≤ l.length := by rw [hl]; simp
    obtain ⟨g, o, hp, _⟩ := h4 0 x (by rw [hl]; rfl)
    subst hp
    have hk := spl_lt hn
    have hk0 := spl_pos l.length
    rw [mth_cut hn]
    have e1 : (l.take (spl l.length)).length = spl l.length := by rw [List.length_take]; omega
    have e2 : (l.drop (spl l.length)).length = l.length - spl l.length := by rw [List.length_drop]
    obtain ⟨s1, s2⟩ := h4.halves (spl l.length) cap (by omega) (by omega) h3
    refine refmth_cut g o l.length cap (spl l.length) w _ _ (mth_len _) (mth_len _) hn h1 rfl h3 (fun W hW => ?_) (fun W hW => ?_)
    · have := refmth_any m (l.take (spl l.length)) (some ⟨g, o, none⟩) cap W (by omega) (by omega) (fun z hz => h2 z (List.mem_of_mem_take hz)) (by omega) (s1.nw hW)
      rw [e1] at this
      exact this
    · have := refmth_any m (l.drop (spl l.length)) (some ⟨g, o + spl l.length, none⟩) (cap - spl l.length) W (by omega) (by omega) (fun z hz => h2 z (List.mem_of_mem_drop hz)) (by omega) (s2.nw hW)
      rw [e2] at this
      exact this
end Go.Proofs.YtdhlmpjoggnkkaaGreatDoor
