/- law15: half, mth. -/
import Derived.Test.YtlaiomgebkeldaaDoorYi
import Derived.Test.YtlaiomgebkeldaaDoorN1
namespace Go.Proofs.YtlaiomgebkeldaaDoor
open Go.RowKit Go.Shelf
set_option linter.unusedVariables false
set_option linter.unusedSimpArgs false
/-- MTH of leaves' hashes. -/
def mhh (l : List (List UInt8)) : List UInt8 :=
  if h : 2 ≤ l.length then ndp (mhh (l.take (spl l.length))) (mhh (l.drop (spl l.length)))
  else match l with
    | [] => Sh []
    | x :: _ => x
termination_by l.length
decreasing_by
  · have := spl_lt h
    rw [List.length_take]; omega
  · have := spl_pos l.length
    rw [List.length_drop]; omega
theorem mhh_cut {l : List (List UInt8)} (h : 2 ≤ l.length) : mhh l = ndp (mhh (l.take (spl l.length))) (mhh (l.drop (spl l.length))) := by rw [mhh, dif_pos h]
theorem mhh_nil : mhh [] = Sh [] := by rw [mhh, dif_neg (by simp)]
theorem mhh_one (x : List UInt8) : mhh [x] = x := by rw [mhh, dif_neg (by simp)]
theorem mhh_len (l : List (List UInt8)) (hl : ∀ x ∈ l, x.length = 32) : (mhh l).length = 32 := by
  rw [mhh]
  split
  · exact ndp_len _ _
  · split
    · exact Sh_len _
    · exact hl _ (by simp)
/-- So many leaves from one on. -/
def lvs (f : Nat → List UInt8) (a k : Nat) : List (List UInt8) := (List.range k).map fun j => f (a + j)
theorem lvs_len (f : Nat → List UInt8) (a k : Nat) : (lvs f a k).length = k := by simp [lvs]
theorem lvs_take (f : Nat → List UInt8) (a k m : Nat) (h : m ≤ k) : (lvs f a k).take m = lvs f a m := by
  simp [lvs, ← List.map_take, List.take_range, Nat.min_eq_left h]
theorem lvs_drop (f : Nat → List UInt8) (a k m : Nat) : (lvs f a k).drop m = lvs f (a + m) (k - m) := by
  apply List.ext_getElem
  · simp [lvs]
  · intro i h1 h2
    simp [lvs, Nat.add_assoc]
/-- The hash of so many leaves from one on. -/
def sth (f : Nat → List UInt8) (a k : Nat) : List UInt8 := mhh (lvs f a k)
theorem sth_one (f : Nat → List UInt8) (a : Nat) : sth f a 1 = f a := by
  unfold sth lvs
  rw [show List.range 1 = [0] from rfl, List.map_cons, List.map_nil, mhh_one, Nat.add_zero]
theorem sth_cut (f : Nat → List UInt8) (a n k : Nat) (h1 : 2 ^ k < n) (h2 : n ≤ 2 * 2 ^ k) : sth f a n = ndp (sth f a (2 ^ k)) (sth f (a + 2 ^ k) (n - 2 ^ k)) := by
  have hp := Nat.two_pow_pos k
  unfold sth
  rw [mhh_cut (by rw [lvs_len]; omega), lvs_len, spl_of h1 h2, lvs_take _ _ _ _ (by omega), lvs_drop]
/-- Hashes in memory, from a place on. -/
def Hrs (w : World) (ad : Option Addr) (L : List (List UInt8)) : Prop := ∀ k h, L[k]? = some h → ∃ g off, ad = some ⟨g, off, none⟩ ∧ ∀ j, j < 32 → w.cell? ⟨g, off + k * 32 + j, none⟩ = (hbs h)[j]?
theorem Hrs.nw {w w' : World} {ad : Option Addr} {L : List (List UInt8)} (h : Hrs w ad L) (hl : ∀ x ∈ L, x.length = 32) (n : Nw w w') : Hrs w' ad L := fun k x hk => by
  obtain ⟨g, off, e, hc⟩ := h k x hk
  refine ⟨g, off, e, fun j hj => ?_⟩
  have hs : j < (hbs x).size := by rw [hbs_size, hl x (List.mem_of_getElem? hk)]; exact hj
  have h5 : (hbs x)[j]? = some (hbs x)[j] := Array.getElem?_eq_getElem hs
  have := hc j hj
  rw [h5] at this ⊢
  exact n.cellOf this
theorem Hrs.halves {w : World} {g o : Nat} {L : List (List UInt8)} (h : Hrs w (some ⟨g, o, none⟩) L) (k : Nat) : Hrs w (some ⟨g, o, none⟩) (L.take k) ∧ Hrs w (some ⟨g, o + k * 32, none⟩) (L.drop k) := by
  refine ⟨fun i x hi => ?_, fun i x hi => ?_⟩
  · have hk := (List.getElem?_eq_some_iff.1 hi).1
    simp only [List.length_take] at hk
    rw [List.getElem?_take, if_pos (by omega)] at hi
    exact h i x hi
  · rw [List.getElem?_drop] at hi
    obtain ⟨g', o', e, hc⟩ := h (k + i) x hi
    cases e
    refine ⟨g, o + k * 32, rfl, fun j hj => ?_⟩
    rw [← hc j hj]
    congr 2
    omega
set_option maxHeartbeats 1000000 in
theorem half15_any (n : Nat) (hn : 2 ≤ n) (hn2 : n ≤ 1048576) (w : World) :
    Calls Tryd.prog 44 #[.int .i64 (n : Int)] w fun e w' => e = .returned (.int .i64 ((spl n : Nat) : Int)) ∧ w' = w := by
  obtain ⟨K, hK⟩ : ∃ K, K = spl n := ⟨_, rfl⟩
  have HK : Hid (K = spl n) := hK
  rw [← hK]
  clear hK
  go_enter Tryd.func44, Tryd.ntmps44
  go_wp2
  go_loopw [3] (fun x wr => wr = w ∧ ∃ k j : Nat, k = 2 ^ j ∧ x = .int .i64 (k : Int) ∧ k < n) (fun x _ => n - (intOf x).toNat)
  case atStart => exact ⟨rfl, 1, 0, rfl, rfl, by omega⟩
  case round =>
    obtain ⟨rfl, q, j, hq, rfl, hlt⟩ := hrel
    have HQ : Hid (q = 2 ^ j) := hq
    have hq0 : 0 < q := by rw [hq]; exact Nat.two_pow_pos j
    clear hq
    obtain ⟨D, hD⟩ : ∃ D : Nat, (n : Int) - (q : Int) = (D : Int) := ⟨n - q, by omega⟩
    by_cases hc : 2 * q < n
    · have hc1 : (q : Int) < (D : Int) := by omega
      go_wp2_with fail
      exact ⟨⟨trivial, 2 * q, j + 1, by rw [HQ.out, Nat.pow_succ'], by go_num, hc⟩, by simp [intOf]; omega⟩
    · have hc1 : ¬ (q : Int) < (D : Int) := by omega
      have hs : K = q := by rw [HK.out, HQ.out]; exact spl_of (by rw [← HQ.out]; exact hlt) (by rw [← HQ.out]; omega)
      clear hc hlt
      go_wp2
      go_ret
      exact ⟨rfl, rfl⟩
set_option maxRecDepth 100000 in
set_option maxHeartbeats 1000000 in
theorem mth15_nil (p : Option Addr) (cap : Nat) (w : World) (hL : Laid w) : Calls Tryd.prog 16 #[.slice p 0 cap] w fun e w' => e = .returned (.agg (hbs (mhh []))) ∧ Nw w w' := by
  rw [mhh_nil]
  have Q : Hid (∀ W, Nw w W → Calls Tryd.prog 43 #[] W fun e w' => e = .returned (.agg (hbs (Sh []))) ∧ Nw W w') := fun W nW => empty_any W (hL.nw nW)
  have hs : (hbs (Sh [])).size = 32 := by rw [hbs_size, Sh_len]
  obtain ⟨R, hR⟩ : ∃ R, R = Sh [] := ⟨_, rfl⟩
  rw [← hR] at hs Q ⊢
  clear hR hL
  go_enter Tryd.func16, Tryd.ntmps16
  go_wp2_with fail
  rw [z32_h]
  refine (Q.out _ (nwa w _)).mono ?_
  rintro e w1 ⟨rfl, n1⟩
  have b0 : w1.heap[w.heap.size]? = some (.cells z32 26) := (n1.block _ (heap_lt (heap_new _ _)) (fun f => f)).trans (heap_new _ _)
  have n2 : Hid (Nw w w1) := Nw.tr (nwa w _) n1
  clear n1
  go_wp2_with (refine wp_store_agg rfl (.tmp 2) (.tmp 7) 26 32 rfl Tryd.sizeOf26 w.heap.size 0 rfl z32 26 b0 (hbs R) rfl hs (hbs_one _) (by decide) (hbs R) (by rw [dropA z32_size]; simp) ?_; intro w3 j3 f3 z3)
  exact bodyPost_ret (results_cell Tryd.results16 Tryd.isAgg26 Tryd.sizeOf26 rfl j3 hs) rfl ⟨rfl, n2.out.trans f3 (fun k hk q => by omega)⟩
set_option maxRecDepth 100000 in
set_option maxHeartbeats 1000000 in
theorem mth15_one (x : List UInt8) (hx : x.length = 32) (g o cap : Nat) (w : World) (hc : ∀ j, j < 32 → w.cell? ⟨g, o + j, none⟩ = (hbs x)[j]?) : Calls Tryd.prog 16 #[.slice (some ⟨g, o, none⟩) 1 cap] w fun e w' => e = .returned (.agg (hbs (mhh [x]))) ∧ Nw w w' := by
  rw [mhh_one]
  have hs : (hbs x).size = 32 := by rw [hbs_size, hx]
  have HC : Hid (∀ ob, ∀ j, j < 32 → (w.alloc ob).cell? ⟨g, o + j, none⟩ = (hbs x)[j]?) := fun ob j hj => by
    have h5 : (hbs x)[j]? = some (hbs x)[j] := Array.getElem?_eq_getElem (by omega)
    have := hc j hj
    rw [h5] at this ⊢
    exact (nwa w ob).cellOf this
  clear hc
  go_enter Tryd.func16, Tryd.ntmps16
  go_wp2_with first
    | refine wple_load_at rfl (.tmp 12) 26 32 rfl Tryd.isAgg26 Tryd.sizeOf26 g o rfl (hbs x) hs (HC.out _) ?_
    | (refine wp_store_agg rfl (.tmp 2) (.tmp 13) 26 32 rfl Tryd.sizeOf26 w.heap.size 0 rfl z32 26 (by rw [← z32_h]; exact heap_new _ _) (hbs x) rfl hs (hbs_one _) (by decide) (hbs x) (by rw [dropA z32_size]; simp) ?_; intro w3 j3 f3 z3; clear z3)
  exact bodyPost_ret (results_cell Tryd.results16 Tryd.isAgg26 Tryd.sizeOf26 rfl j3 hs) rfl ⟨rfl, (nwa w _).trans f3 (fun k hk q => by omega)⟩
set_option maxRecDepth 100000 in
set_option maxHeartbeats 4000000 in
theorem mth15_cut (g o n cap k : Nat) (w : World) (A B : List UInt8) (hA : A.length = 32) (hB : B.length = 32) (hn : 2 ≤ n) (hn2 : n ≤ 1048576) (hk : k = spl n) (hcap : n ≤ cap) (hL : Laid w)
    (QA : ∀ W, Nw w W → Calls Tryd.prog 16 #[.slice (some ⟨g, o, none⟩) k cap] W fun e w' => e = .returned (.agg (hbs A)) ∧ Nw W w')
    (QB : ∀ W, Nw w W → Calls Tryd.prog 16 #[.slice (some ⟨g, o + k * 32, none⟩) (n - k) (cap - k)] W fun e w' => e = .returned (.agg (hbs B)) ∧ Nw W w') :
    Calls Tryd.prog 16 #[.slice (some ⟨g, o, none⟩) n cap] w fun e w' => e = .returned (.agg (hbs (ndp A B))) ∧ Nw w w' := by
  have QA' : Hid (∀ W, Nw w W → Calls Tryd.prog 16 #[.slice (some ⟨g, o, none⟩) k cap] W fun e w' => e = .returned (.agg (hbs A)) ∧ Nw W w') := QA
  have QB' : Hid (∀ W, Nw w W → Calls Tryd.prog 16 #[.slice (some ⟨g, o + k * 32, none⟩) (n - k) (cap - k)] W fun e w' => e = .returned (.agg (hbs B)) ∧ Nw W w') := QB
  have QN : Hid (∀ W, Nw w W → Calls Tryd.prog 31 #[.agg (hbs A), .agg (hbs B)] W fun e w' => e = .returned (.agg (hbs (ndp A B))) ∧ Nw W w') := fun W nW => node_any A B hA hB W (hL.nw nW)
  have hkn := spl_lt hn
  rw [← hk] at hkn
  have HK : Hid (k = spl n) := hk
  have HKN : Hid (k < n) := hkn
  have HCN : Hid (n ≤ cap) := hcap
  have hn0 : ((n : Int) == 0) = false := by simp; omega
  have hn1 : ((n : Int) == 1) = false := by simp; omega
  obtain ⟨R, hR⟩ : ∃ R, R = ndp A B := ⟨_, rfl⟩
  have hRl : (hbs R).size = 32 := by rw [hbs_size, hR, ndp_len]
  rw [← hR] at QN ⊢
  obtain ⟨a, ha⟩ : ∃ a, a = hbs A := ⟨_, rfl⟩
  obtain ⟨b, hb'⟩ : ∃ b, b = hbs B := ⟨_, rfl⟩
  rw [← ha] at QA' QN
  rw [← hb'] at QB' QN
  have hni : ¬ (n : Int) = 0 := by omega
  have hni1 : ¬ (n : Int) = 1 := by omega
  clear QA QB hk hA hB hkn hcap hR ha hb' hL
  go_enter Tryd.func16, Tryd.ntmps16
  go_wp2_with fail
  rw [z32_h]
  obtain ⟨w1, hw1⟩ : ∃ q, w.alloc (.cells z32 26) = q := ⟨_, rfl⟩
  have NW1 : Hid (Nw w w1) := by show Nw _ _; rw [← hw1]; exact nwa w _
  have b0 : Hid (w1.heap[w.heap.size]? = some (.cells z32 26)) := by show _ = _; rw [← hw1]; exact heap_new _ _
  rw [hw1]
  clear hw1
  obtain ⟨rb, hrb⟩ : ∃ q, q = w.heap.size := ⟨_, rfl⟩
  rw [← hrb] at b0 ⊢
  have HRB : Hid (rb = w.heap.size) := hrb
  clear hrb
  have QHf : Hid (∀ W, Calls Tryd.prog 44 #[.int .i64 (n : Int)] W fun e w' => e = .returned (.int .i64 (k : Int)) ∧ w' = W) := fun W => by rw [HK.out]; exact half15_any n hn hn2 W
  go_wp2_with fail
  refine (QHf.out _).mono ?_
  rintro e wr ⟨rfl, rfl⟩
  have hk1 : (k : Int) ≤ (cap : Int) := by have := HCN.out; have := HKN.out; omega
  have HK1 : Hid (k ≤ cap) := by show k ≤ cap; have := HCN.out; have := HKN.out; omega
  have HK2 : Hid (k ≤ n) := by show k ≤ n; have := HKN.out; omega
  have HK3 : Hid (¬ cap = k) := by show ¬ cap = k; have := HCN.out; have := HKN.out; omega
  clear hk1
  go_upto_region 6 with fail
  have nb : Nw wr wr.drew := (Fr.refl _ _).drew
  refine wp_region_held_drew (S := fun _ => True) (by kernel_rfl) trivial ?_
  intro hS0
  refine wpAnyH_take (i := 0) (v := .slice (some ⟨g, o, none⟩) n cap) rfl (by kernel_rfl) (by kernel_rfl) (by kernel_rfl) (fun _ _ _ h => h) (Or.inl ⟨by kernel_rfl, by intro w hw; go_simp⟩) hS0 ?_
  try simp only [Act.put, List.setIfInBounds_toArray, List.set_cons_zero, List.set_cons_succ]
  refine wpAnyH_take (i := 1) (v := .int .i64 (k : Int)) rfl (by kernel_rfl) (by kernel_rfl) (by kernel_rfl) (fun _ _ _ h => h) (Or.inl ⟨by kernel_rfl, by intro w hw; go_simp⟩) hS0 ?_
  try simp only [Act.put, List.setIfInBounds_toArray, List.set_cons_zero, List.set_cons_succ]
  refine wpAnyH_take (i := 2) (v := .slice (some ⟨g, o, none⟩) k cap) rfl (by kernel_rfl) (by kernel_rfl) (by kernel_rfl) (fun _ _ _ h => h) (Or.inl ⟨by kernel_rfl, by intro w hw; have a1 := HK1.out; go_simp⟩) hS0 ?_
  try simp only [Act.put, List.setIfInBounds_toArray, List.set_cons_zero, List.set_cons_succ]
  refine wpAnyH_take (i := 4) (v := .slice (some ⟨g, o, none⟩) n cap) rfl (by kernel_rfl) (by kernel_rfl) (by kernel_rfl) (fun _ _ _ h => h) (Or.inl ⟨by kernel_rfl, by intro w hw; go_simp⟩) hS0 ?_
  try simp only [Act.put, List.setIfInBounds_toArray, List.set_cons_zero, List.set_cons_succ]
  refine wpAnyH_take (i := 5) (v := .int .i64 (k : Int)) rfl (by kernel_rfl) (by kernel_rfl) (by kernel_rfl) (fun _ _ _ h => h) (Or.inl ⟨by kernel_rfl, by intro w hw; go_simp⟩) hS0 ?_
  try simp only [Act.put, List.setIfInBounds_toArray, List.set_cons_zero, List.set_cons_succ]
  refine wpAnyH_take (i := 6) (v := .slice (some ⟨g, o + k * 32, none⟩) (n - k) (cap - k)) rfl (by kernel_rfl) (by kernel_rfl) (by kernel_rfl) (fun _ _ _ h => h) (Or.inl ⟨by kernel_rfl, by intro w hw; have a1 := HK1.out; have a2 := HK2.out; have a3 := HK3.out; have a4 := HCN.out; go_simp⟩) hS0 ?_
  try simp only [Act.put, List.setIfInBounds_toArray, List.set_cons_zero, List.set_cons_succ]
  refine wpAnyH_ready (rs := [3]) (by kernel_rfl) (by simp) ?_
  refine AllReadyH.cons rfl (fun K' hK => ?_) AllReadyH.nil
  go_simp
  go_wp2_with (go_at_call 16; refine (QA'.out _ (NW1.out.tr nb)).mono ?_; rintro ew2 w2 ⟨rfl, nw2⟩)
  have mw2 : Nw wr w2 := nb.tr nw2
  refine hK.out _ _ ((trivial)) (fun hS0 => ?_)
  try simp only [Act.put, List.setIfInBounds_toArray, List.set_cons_zero, List.set_cons_succ]
  refine wpAnyH_ready (rs := [7]) (by kernel_rfl) (by simp) ?_
  refine AllReadyH.cons rfl (fun K' hK => ?_) AllReadyH.nil
  go_simp
  go_wp2_with (go_at_call 16; refine (QB'.out _ (NW1.out.tr mw2)).mono ?_; rintro ew3 w3 ⟨rfl, nw3⟩)
  have mw3 : Nw wr w3 := mw2.tr nw3
  refine hK.out _ _ ((trivial)) (fun hS0 => ?_)
  try simp only [Act.put, List.setIfInBounds_toArray, List.set_cons_zero, List.set_cons_succ]
  refine wpAnyH_ready (rs := [8]) (by kernel_rfl) (by simp) ?_
  refine AllReadyH.cons rfl (fun K' hK => ?_) AllReadyH.nil
  go_simp
  go_wp2_with (go_at_call 31; refine (QN.out _ (NW1.out.tr mw3)).mono ?_; rintro ew4 w4 ⟨rfl, nw4⟩)
  have mw4 : Nw wr w4 := mw3.tr nw4
  refine hK.out _ _ ((trivial)) (fun hS0 => ?_)
  try simp only [Act.put, List.setIfInBounds_toArray, List.set_cons_zero, List.set_cons_succ]
  have jz := (mw4.block _ (heap_lt b0.out) (fun f => f)).trans b0.out
  refine wpAnyH_ready (rs := [9]) (by kernel_rfl) (by simp) ?_
  refine ready_storeP rfl rfl (.tmp 2) (.tmp 25) 26 32 rfl Tryd.sizeOf26 rb (by kernel_rfl) z32 26 jz (hbs R) (by kernel_rfl) hRl (hbs_one _) z32_size ?_ AllReadyH.nil
  intro w5 j5 f5
  refine ⟨trivial, fun hS0 => ?_⟩
  try simp only [Act.put, List.setIfInBounds_toArray, List.set_cons_zero, List.set_cons_succ]
  refine wpAnyH_done (by kernel_rfl) ?_ _
  try go_wp2_with fail
  exact bodyPost_ret (results_cell Tryd.results16 Tryd.isAgg26 Tryd.sizeOf26 rfl j5 hRl) rfl ⟨rfl, (NW1.out.tr mw4).trans f5 (fun k hk q => by have := HRB.out; omega)⟩
theorem mth15_any : ∀ (m : Nat) (l : List (List UInt8)) (p : Option Addr) (cap : Nat) (w : World), l.length ≤ m → l.length ≤ 1048576 → (∀ x ∈ l, x.length = 32) → l.length ≤ cap → Hrs w p l → Laid w →
    Calls Tryd.prog 16 #[.slice p l.length cap] w fun e w' => e = .returned (.agg (hbs (mhh l))) ∧ Nw w w'
  | m, [], p, cap, w, hm, h1, h2, h3, h4, hL => mth15_nil p cap w hL
  | m, [x], p, cap, w, hm, h1, h2, h3, h4, hL => by
    obtain ⟨g, o, rfl, hg⟩ := h4 0 x rfl
    exact mth15_one x (h2 x (by simp)) g o cap w (fun j hj => by have := hg j hj; rwa [Nat.zero_mul, Nat.add_zero] at this)
  | 0, x :: y :: r, p, cap, w, hm, h1, h2, h3, h4, hL => by simp at hm
  | m + 1, x :: y :: r, p, cap, w, hm, h1, h2, h3, h4, hL => by
    obtain ⟨l, hl⟩ : ∃ l, l = x :: y :: r := ⟨_, rfl⟩
    rw [← hl] at hm h1 h2 h3 h4 ⊢
    have hn : 2 ≤ l.length := by rw [hl]; simp
    obtain ⟨g, o, hp, _⟩ := h4 0 x (by rw [hl]; rfl)
    subst hp
    have hk := spl_lt hn
    have hk0 := spl_pos l.length
    rw [mhh_cut hn]
    have e1 : (l.take (spl l.length)).length = spl l.length := by rw [List.length_take]; omega
    have e2 : (l.drop (spl l.length)).length = l.length - spl l.length := by rw [List.length_drop]
    have t1 : ∀ z ∈ l.take (spl l.length), z.length = 32 := fun z hz => h2 z (List.mem_of_mem_take hz)
    have t2 : ∀ z ∈ l.drop (spl l.length), z.length = 32 := fun z hz => h2 z (List.mem_of_mem_drop hz)
    obtain ⟨s1, s2⟩ := h4.halves (spl l.length)
    refine mth15_cut g o l.length cap (spl l.length) w _ _ (mhh_len _ t1) (mhh_len _ t2) hn h1 rfl h3 hL (fun W hW => ?_) (fun W hW => ?_)
    · have := mth15_any m (l.take (spl l.length)) (some ⟨g, o, none⟩) cap W (by omega) (by omega) t1 (by omega) (s1.nw t1 hW) (hL.nw hW)
      rw [e1] at this
      exact this
    · have := mth15_any m (l.drop (spl l.length)) (some ⟨g, o + spl l.length * 32, none⟩) (cap - spl l.length) W (by omega) (by omega) t2 (by omega) (s2.nw t2 hW) (hL.nw hW)
      rw [e2] at this
      exact this
end Go.Proofs.YtlaiomgebkeldaaDoor
