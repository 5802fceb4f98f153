/- A tree's hash by package naive: the function within the function that calls itself. -/
import Derived.Test.YthkkjpefealdgaaDoorL2
import Derived.Test.YthkkjpefealdgaaDoorH2
namespace Go.Proofs.YthkkjpefealdgaaDoor
open Go.RowKit
set_option linter.unusedVariables false
set_option linter.unusedSimpArgs false

/-- The function that tree makes. -/
abbrev dnT (bd : Nat) : Value := .func (.func 42) #[] #[.pointer (some ⟨bd, 0, none⟩)]
theorem elemS : Tryd.prog.elem 22 = 9 := by kernel_rfl
theorem undS : Tryd.prog.underlying 22 = some (.slice (Tryd.prog.elem 22)) := by rw [elemS]; exact Tryd.underlying22
theorem cut_h (g o n cap k : Nat) (kd : IntKind) (h : k ≤ cap) (W : World) : (Instr.sliceAt 22 (.slice (some ⟨g, o, none⟩) n cap) none (some (.int kd (k : Int))) none).run Tryd.prog W = .ok (.slice (some ⟨g, o, none⟩) k cap) W := by
  rw [run_sliceAt_slice W _ _ _ _ _ undS, run_slice_h W _ (some ⟨g, o, none⟩) n cap undS kd k (by omega) (by omega), elemS, Tryd.sizeOf9 W]
  by_cases h : cap = 0 <;> simp [sliced, h, Addr.add]
theorem cut_l (g o n cap k : Nat) (kd : IntKind) (h : k ≤ n) (h2 : k < cap) (W : World) : (Instr.sliceAt 22 (.slice (some ⟨g, o, none⟩) n cap) (some (.int kd (k : Int))) none none).run Tryd.prog W = .ok (.slice (some ⟨g, o + k, none⟩) (n - k) (cap - k)) W := by
  rw [run_sliceAt_slice W _ _ _ _ _ undS, run_slice_l W _ (some ⟨g, o, none⟩) n cap undS kd k (by omega) (by omega), elemS, Tryd.sizeOf9 W]
  have : ¬ cap = k := by omega
  simp [sliced, this, Addr.add]
theorem cut_lh (p : Option Addr) (n cap b e : Nat) (kd kd2 : IntKind) (h : b ≤ e) (h2 : e ≤ cap) (W : World) : (Instr.sliceAt 22 (.slice p n cap) (some (.int kd (b : Int))) (some (.int kd2 (e : Int))) none).run Tryd.prog W = .ok (.slice (if cap = b then p else p.map (·.add (b * 1))) (e - b) (cap - b)) W := by
  rw [run_sliceAt_slice W _ _ _ _ _ undS, run_slice_lh W _ p n cap undS kd kd2 b e (by omega) (by omega) (by omega), elemS, Tryd.sizeOf9 W]
  simp [sliced]
theorem Strs.cut {w : World} {p : Option Addr} {ss : List ByteArray} (h : Strs w p ss) (b e cap : Nat) (hc : ss.length ≤ cap) : Strs w (if cap = b then p else p.map (·.add (b * 1))) (sbl ss b e) := fun j x hx => by
  have h1 := sbl_get hx
  have h2 := (List.getElem?_eq_some_iff.1 h1).1
  obtain ⟨g, o, rfl, hg⟩ := h _ _ h1
  rw [if_neg (by omega)]
  refine ⟨g, o + b, ?_, ?_⟩
  · simp [Addr.add]
  · rw [Nat.add_assoc]; exact hg
theorem sbl_h (ss : List ByteArray) (k : Nat) : ss.take k = sbl ss 0 k := by simp [sbl]
theorem sbl_l (ss : List ByteArray) (k : Nat) : ss.drop k = sbl ss k ss.length := by simp [sbl]

set_option maxRecDepth 100000 in
set_option maxHeartbeats 2000000 in
theorem tdown_nil (bd : Nat) (p : Option Addr) (cap : Nat) (w : World) (hL : Laid w) : Calls Tryd.prog 42 #[.slice p 0 cap, .pointer (some ⟨bd, 0, none⟩)] w fun e w' => e = .returned (.agg (hbs (mth []))) ∧ Nw w w' := by
  rw [mth_nil]
  have QS := show Hid _ from split_no 0 (by omega) (by omega)
  have HL : Hid (Laid w) := hL
  clear hL
  go_enter Tryd.func42, Tryd.ntmps42
  go_wp2_with fail
  rw [z32_h]
  refine (QS.out _).mono ?_
  rintro e w1 ⟨rfl, n1⟩
  obtain ⟨l0, b0, n2⟩ := one_made n1
  clear n1
  have q := empty_any w1 (HL.out.nw n2)
  go_wp2_with fail
  refine q.mono ?_
  rintro e w2 ⟨rfl, n3⟩
  have b2 := (n3.block _ (heap_lt b0) (fun f => f)).trans b0
  have hs : (hbs (Sh [])).size = 32 := by rw [hbs_size, Sh_len]
  go_wp2_with (refine wp_store_agg rfl (.tmp 3) (.tmp 28) 32 32 rfl Tryd.sizeOf32 w.heap.size 0 rfl z32 32 b2 (hbs (Sh [])) rfl hs (hbs_one _) (by decide) (hbs (Sh [])) (by rw [z32_drop]; simp) ?_; intro w3 j3 f3 z3)
  exact bodyPost_ret (results_cell Tryd.results42 Tryd.isAgg32 Tryd.sizeOf32 rfl j3 hs) rfl ⟨rfl, (n2.tr n3).trans f3 (fun k hk q => by omega)⟩
set_option maxRecDepth 100000 in
set_option maxHeartbeats 2000000 in
theorem tdown_one (bd : Nat) (x : ByteArray) (g o cap : Nat) (w : World) (hx : x.size ≤ 65536) (hc : w.cell? ⟨g, o, none⟩ = some (.string x)) (hL : Laid w) : Calls Tryd.prog 42 #[.slice (some ⟨g, o, none⟩) 1 cap, .pointer (some ⟨bd, 0, none⟩)] w fun e w' => e = .returned (.agg (hbs (mth [x]))) ∧ Nw w w' := by
  rw [mth_one]
  have QS := show Hid _ from split_no 1 (by omega) (by omega)
  have HL : Hid (Laid w) := hL
  have lg := World.block_lt_of_cell? _ _ hc
  simp only at lg
  clear hL
  obtain ⟨R, hR⟩ : ∃ R, R = Sh (0 :: x.data.toList) := ⟨_, rfl⟩
  have HR : Hid (R = Sh (0 :: x.data.toList)) := hR
  have hRl : (hbs R).size = 32 := by rw [hbs_size, hR, Sh_len]
  rw [← hR]
  clear hR
  go_enter Tryd.func42, Tryd.ntmps42
  go_wp2_with fail
  rw [z32_h]
  refine (QS.out _).mono ?_
  rintro e w1 ⟨rfl, n1⟩
  obtain ⟨l0, b0, n2⟩ := one_made n1
  have hc1 := n2.cellOf hc
  have lg1 := Nat.lt_of_lt_of_le lg n2.size
  clear n1
  have q := leaf_any x w1 (HL.out.nw n2) (by omega)
  rw [← HR.out] at q
  go_wp2_with fail
  refine q.mono ?_
  rintro e w2 ⟨rfl, n3⟩
  have b2 := (n3.block _ (heap_lt b0) (fun f => f)).trans b0
  go_wp2_with (refine wp_store_agg rfl (.tmp 3) (.tmp 32) 32 32 rfl Tryd.sizeOf32 w.heap.size 0 rfl z32 32 b2 (hbs R) rfl hRl (hbs_one _) (by decide) (hbs R) (by rw [z32_drop]; simp) ?_; intro w3 j3 f3 z3)
  exact bodyPost_ret (results_cell Tryd.results42 Tryd.isAgg32 Tryd.sizeOf32 rfl j3 hRl) rfl ⟨rfl, (n2.tr n3).trans f3 (fun k hk q => by omega)⟩
set_option maxRecDepth 100000 in
set_option maxHeartbeats 2000000 in
theorem tdown_cut (bd g o n cap k : Nat) (w : World) (A B : List UInt8) (hA : A.length = 32) (hB : B.length = 32) (hn : 2 ≤ n) (hn2 : n ≤ 1048576) (hk : k = spl n) (hcap : n ≤ cap) (hL : Laid w) (hb : w.heap[bd]? = some (.cells #[dnT bd] 84))
    (QA : ∀ W, Nw w W → Calls Tryd.prog 42 #[.slice (some ⟨g, o, none⟩) k cap, .pointer (some ⟨bd, 0, none⟩)] W fun e w' => e = .returned (.agg (hbs A)) ∧ Nw W w')
    (QB : ∀ W, Nw w W → Calls Tryd.prog 42 #[.slice (some ⟨g, o + k, none⟩) (n - k) (cap - k), .pointer (some ⟨bd, 0, none⟩)] W fun e w' => e = .returned (.agg (hbs B)) ∧ Nw W w') :
    Calls Tryd.prog 42 #[.slice (some ⟨g, o, none⟩) n cap, .pointer (some ⟨bd, 0, none⟩)] w fun e w' => e = .returned (.agg (hbs (Sh (1 :: (A ++ B))))) ∧ Nw w w' := by
  have QA' : Hid (∀ W, Nw w W → Calls Tryd.prog 42 #[.slice (some ⟨g, o, none⟩) k cap, .pointer (some ⟨bd, 0, none⟩)] W fun e w' => e = .returned (.agg (hbs A)) ∧ Nw W w') := QA
  have QB' : Hid (∀ W, Nw w W → Calls Tryd.prog 42 #[.slice (some ⟨g, o + k, none⟩) (n - k) (cap - k), .pointer (some ⟨bd, 0, none⟩)] W fun e w' => e = .returned (.agg (hbs B)) ∧ Nw W w') := QB
  have QN : Hid (∀ W, Nw w W → Calls Tryd.prog 17 #[.agg (hbs A), .agg (hbs B)] W fun e w' => e = .returned (.agg (hbs (Sh (1 :: (A ++ B))))) ∧ Nw W w') := fun W hW => node_any A B hA hB W (hL.nw hW)
  have QS := show Hid _ from split_yes n hn (by omega)
  have hkn := spl_lt hn
  have hk0 := spl_pos n
  rw [← hk] at QS hkn hk0
  have HK : Hid (k = spl n) := hk
  clear QA QB hk hL hA hB
  have hc1 := cut_h g o n cap k .u64 (by omega)
  have hc2 := cut_l g o n cap k .u64 (by omega) (by omega)
  have HKN : Hid (k < n) := hkn
  have HCN : Hid (n ≤ cap) := hcap
  clear hkn hk0 hcap
  obtain ⟨R, hR⟩ : ∃ R, R = Sh (1 :: (A ++ B)) := ⟨_, rfl⟩
  have hRl : (hbs R).size = 32 := by rw [hbs_size, hR, Sh_len]
  rw [← hR] at QN ⊢
  clear hR
  obtain ⟨a, ha⟩ : ∃ a, a = hbs A := ⟨_, rfl⟩
  obtain ⟨b, hb'⟩ : ∃ b, b = hbs B := ⟨_, rfl⟩
  rw [← ha] at QA' QN
  rw [← hb'] at QB' QN
  clear ha hb'
  go_enter Tryd.func42, Tryd.ntmps42
  go_wp2_with fail
  rw [z32_h]
  refine (QS.out _).mono ?_
  rintro e w1 ⟨rfl, n1⟩
  obtain ⟨l0, b0, n2⟩ := one_made n1
  have NW1 : Hid (Nw w w1) := n2
  have hb1 := (n2.block _ (heap_lt hb) (fun f => f)).trans hb
  clear n1 hb n2
  go_wp2_with fail
  have hkp : Hid (∀ W, Nw w1 W → W.heap[bd]? = some (.cells #[dnT bd] 84)) := fun W hW => (hW.block _ (heap_lt hb1) (fun f => f)).trans hb1
  have nb : Nw w1 w1.drew := (Fr.refl _ _).drew
  refine wp_region_held_drew (S := fun W => W.heap[bd]? = some (.cells #[dnT bd] 84)) (by kernel_rfl) (hkp.out _ nb) ?_
  intro hS0
  refine wpAnyH_take (i := 0) (v := dnT bd) rfl (by kernel_rfl) (by kernel_rfl) (by kernel_rfl) (fun _ _ _ h => h) (Or.inl ⟨by rfl, by intro w hw; have hc := (cell_of hw 0).trans rfl; go_simp⟩) hS0 ?_
  try simp only [Act.put, List.setIfInBounds_toArray, List.set_cons_zero, List.set_cons_succ]
  refine wpAnyH_take (i := 1) (v := .slice (some ⟨g, o, none⟩) n cap) rfl (by kernel_rfl) (by kernel_rfl) (by kernel_rfl) (fun _ _ _ h => h) (Or.inl ⟨by rfl, by intro w hw; go_simp⟩) hS0 ?_
  try simp only [Act.put, List.setIfInBounds_toArray, List.set_cons_zero, List.set_cons_succ]
  refine wpAnyH_take (i := 2) (v := .int .u64 (k : Int)) rfl (by kernel_rfl) (by kernel_rfl) (by kernel_rfl) (fun _ _ _ h => h) (Or.inl ⟨by rfl, by intro w hw; go_simp⟩) hS0 ?_
  try simp only [Act.put, List.setIfInBounds_toArray, List.set_cons_zero, List.set_cons_succ]
  refine wpAnyH_take (i := 3) (v := .slice (some ⟨g, o, none⟩) k cap) rfl (by kernel_rfl) (by kernel_rfl) (by kernel_rfl) (fun _ _ _ h => h) (Or.inl ⟨by rfl, by intro w hw; have := hc1 w; go_simp⟩) hS0 ?_
  try simp only [Act.put, List.setIfInBounds_toArray, List.set_cons_zero, List.set_cons_succ]
  refine wpAnyH_take (i := 5) (v := dnT bd) rfl (by kernel_rfl) (by kernel_rfl) (by kernel_rfl) (fun _ _ _ h => h) (Or.inl ⟨by rfl, by intro w hw; have hc := (cell_of hw 0).trans rfl; go_simp⟩) hS0 ?_
  try simp only [Act.put, List.setIfInBounds_toArray, List.set_cons_zero, List.set_cons_succ]
  refine wpAnyH_take (i := 6) (v := .slice (some ⟨g, o, none⟩) n cap) rfl (by kernel_rfl) (by kernel_rfl) (by kernel_rfl) (fun _ _ _ h => h) (Or.inl ⟨by rfl, by intro w hw; go_simp⟩) hS0 ?_
  try simp only [Act.put, List.setIfInBounds_toArray, List.set_cons_zero, List.set_cons_succ]
  refine wpAnyH_take (i := 7) (v := .int .u64 (k : Int)) rfl (by kernel_rfl) (by kernel_rfl) (by kernel_rfl) (fun _ _ _ h => h) (Or.inl ⟨by rfl, by intro w hw; go_simp⟩) hS0 ?_
  try simp only [Act.put, List.setIfInBounds_toArray, List.set_cons_zero, List.set_cons_succ]
  refine wpAnyH_take (i := 8) (v := .slice (some ⟨g, o + k, none⟩) (n - k) (cap - k)) rfl (by kernel_rfl) (by kernel_rfl) (by kernel_rfl) (fun _ _ _ h => h) (Or.inl ⟨by rfl, by intro w hw; have := hc2 w; go_simp⟩) hS0 ?_
  try simp only [Act.put, List.setIfInBounds_toArray, List.set_cons_zero, List.set_cons_succ]
  refine wpAnyH_ready (rs := [4]) (by kernel_rfl) (by simp) ?_
  refine AllReadyH.cons rfl (fun K' hK => ?_) AllReadyH.nil
  go_simp
  go_wp2_with (go_at_call 42; refine (QA'.out _ (NW1.out.tr nb)).mono ?_; rintro e2 w2 ⟨rfl, n2⟩)
  have m2 : Nw w1 w2 := Nw.tr nb n2
  refine hK.out _ _ (hkp.out _ m2) (fun hS0 => ?_)
  try simp only [Act.put, List.setIfInBounds_toArray, List.set_cons_zero, List.set_cons_succ]
  refine wpAnyH_ready (rs := [9]) (by kernel_rfl) (by simp) ?_
  refine AllReadyH.cons rfl (fun K' hK => ?_) AllReadyH.nil
  go_simp
  go_wp2_with (go_at_call 42; refine (QB'.out _ (NW1.out.tr m2)).mono ?_; rintro e3 w3 ⟨rfl, n3⟩)
  have m3 : Nw w1 w3 := Nw.tr m2 n3
  refine hK.out _ _ (hkp.out _ m3) (fun hS0 => ?_)
  try simp only [Act.put, List.setIfInBounds_toArray, List.set_cons_zero, List.set_cons_succ]
  refine wpAnyH_ready (rs := [10]) (by kernel_rfl) (by simp) ?_
  refine AllReadyH.cons rfl (fun K' hK => ?_) AllReadyH.nil
  go_simp
  go_wp2_with (go_at_call 17; refine (QN.out _ (NW1.out.tr m3)).mono ?_; rintro e4 w4 ⟨rfl, n4⟩)
  have m4 : Nw w1 w4 := Nw.tr m3 n4
  refine hK.out _ _ (hkp.out _ m4) (fun hS0 => ?_)
  try simp only [Act.put, List.setIfInBounds_toArray, List.set_cons_zero, List.set_cons_succ]
  refine wpAnyH_ready (rs := [11]) (by kernel_rfl) (by simp) ?_
  refine AllReadyH.cons rfl (fun K' hK => ?_) AllReadyH.nil
  have jz := (m4.block _ (heap_lt b0) (fun f => f)).trans b0
  have hne : ¬ bd = w.heap.size := fun q => by
    rw [q] at hS0
    rw [hS0] at jz
    cases jz
  refine step_store_agg rfl (.tmp 3) (.tmp 24) 32 32 rfl Tryd.sizeOf32 w.heap.size 0 rfl z32 32 jz (hbs R) rfl hRl (hbs_one _) (by decide) (hbs R) (by rw [z32_drop]; simp) ?_
  intro w5 j5 f5 z5
  refine hK.out _ _ ((f5.block bd (heap_lt hS0) (fun q => hne q)).trans hS0) (fun hS3 => ?_)
  refine wpAnyH_done (by kernel_rfl) ?_ _
  go_wp2_with fail
  exact bodyPost_ret (results_cell Tryd.results42 Tryd.isAgg32 Tryd.sizeOf32 rfl j5 hRl) rfl ⟨rfl, (NW1.out.tr m4).trans f5 (fun k hk q => by omega)⟩
theorem tdown_any (bd : Nat) : ∀ (m : Nat) (l : List ByteArray) (p : Option Addr) (cap : Nat) (w : World), l.length ≤ m → l.length ≤ 1048576 → (∀ x ∈ l, x.size ≤ 65536) → l.length ≤ cap → Strs w p l → Laid w → w.heap[bd]? = some (.cells #[dnT bd] 84) →
    Calls Tryd.prog 42 #[.slice p l.length cap, .pointer (some ⟨bd, 0, none⟩)] w fun e w' => e = .returned (.agg (hbs (mth l))) ∧ Nw w w'
  | m, [], p, cap, w, hm, h1, h2, h3, h4, h5, h6 => tdown_nil bd p cap w h5
  | m, [x], p, cap, w, hm, h1, h2, h3, h4, h5, h6 => by
    obtain ⟨g, o, rfl, hg⟩ := h4 0 x rfl
    exact tdown_one bd x g o cap w (h2 x (by simp)) hg h5
  | 0, x :: y :: r, p, cap, w, hm, h1, h2, h3, h4, h5, h6 => by simp at hm
  | m + 1, x :: y :: r, p, cap, w, hm, h1, h2, h3, h4, h5, h6 => by
    obtain ⟨l, hl⟩ : ∃ l, l = x :: y :: r := ⟨_, rfl⟩
    rw [← hl] at hm h1 h2 h3 h4 ⊢
    have hn : 2 ≤ l.length := by rw [hl]; simp
    obtain ⟨g, o, hp, _⟩ := h4 0 x (by rw [hl]; rfl)
    subst hp
    have hk := spl_lt hn
    have hk0 := spl_pos l.length
    rw [mth_cut hn]
    have e1 : (l.take (spl l.length)).length = spl l.length := by rw [List.length_take]; omega
    have e2 : (l.drop (spl l.length)).length = l.length - spl l.length := by rw [List.length_drop]
    have s1 := h4.cut 0 (spl l.length) cap h3
    have s2 := h4.cut (spl l.length) l.length cap h3
    rw [← sbl_h] at s1
    rw [← sbl_l] at s2
    have t1 : (if cap = 0 then some (⟨g, o, none⟩ : Addr) else (some ⟨g, o, none⟩ : Option Addr).map (·.add (0 * 1))) = some ⟨g, o, none⟩ := by split <;> simp [Addr.add]
    have t2 : (if cap = spl l.length then some (⟨g, o, none⟩ : Addr) else (some ⟨g, o, none⟩ : Option Addr).map (·.add (spl l.length * 1))) = some ⟨g, o + spl l.length, none⟩ := by rw [if_neg (by omega)]; simp only [Option.map_some, addO, Nat.mul_one]
    rw [t1] at s1
    rw [t2] at s2
    refine tdown_cut bd g o l.length cap (spl l.length) w _ _ (mth_len _) (mth_len _) hn h1 rfl h3 h5 h6 (fun W hW => ?_) (fun W hW => ?_)
    · have := tdown_any bd m (l.take (spl l.length)) (some ⟨g, o, none⟩) cap W (by omega) (by omega) (fun z hz => h2 z (List.mem_of_mem_take hz)) (by omega) (s1.nw hW) (h5.nw hW) ((hW.block _ (heap_lt h6) (fun f => f)).trans h6)
      rw [e1] at this
      exact this
    · have := tdown_any bd m (l.drop (spl l.length)) (some ⟨g, o + spl l.length, none⟩) (cap - spl l.length) W (by omega) (by omega) (fun z hz => h2 z (List.mem_of_mem_drop hz)) (by omega) (s2.nw hW) (h5.nw hW) ((hW.block _ (heap_lt h6) (fun f => f)).trans h6)
      rw [e2] at this
      exact this
end Go.Proofs.YthkkjpefealdgaaDoor
