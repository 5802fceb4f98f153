/- law15: half, mth. -/
import Derived.Test.YtaeocbdphfkflaaDoorYhx
import Derived.Test.YtaeocbdphfkflaaDoorN1
import Derived.Laws.AppendOwn
namespace Go.Proofs.YtaeocbdphfkflaaDoor
open Go.RowKit Go.Shelf
set_option linter.unusedVariables false
set_option linter.unusedSimpArgs false
/-- MTH of leaves' hashes. -/
def mhh (l : List (List UInt8)) : List UInt8 :=
  if h : 2 ≤ l.length then ndp (mhh (l.take (spl l.length))) (mhh (l.drop (spl l.length)))
  else match l with
    | [] => Sh []
    | x :: _ => x
termination_by l.length
decreasing_by
  · have := spl_lt h
    rw [List.length_take]; omega
  · have := spl_pos l.length
    rw [List.length_drop]; omega
theorem mhh_cut {l : List (List UInt8)} (h : 2 ≤ l.length) : mhh l = ndp (mhh (l.take (spl l.length))) (mhh (l.drop (spl l.length))) := by rw [mhh, dif_pos h]
theorem mhh_nil : mhh [] = Sh [] := by rw [mhh, dif_neg (by simp)]
theorem mhh_one (x : List UInt8) : mhh [x] = x := by rw [mhh, dif_neg (by simp)]
theorem mhh_len (l : List (List UInt8)) (hl : ∀ x ∈ l, x.length = 32) : (mhh l).length = 32 := by
  rw [mhh]
  split
  · exact ndp_len _ _
  · split
    · exact Sh_len _
    · exact hl _ (by simp)
/-- So many leaves from one on. -/
def lvs (f : Nat → List UInt8) (a k : Nat) : List (List UInt8) := (List.range k).map fun j => f (a + j)
theorem lvs_len (f : Nat → List UInt8) (a k : Nat) : (lvs f a k).length = k := by simp [lvs]
theorem lvs_take (f : Nat → List UInt8) (a k m : Nat) (h : m ≤ k) : (lvs f a k).take m = lvs f a m := by
  simp [lvs, ← List.map_take, List.take_range, Nat.min_eq_left h]
theorem lvs_drop (f : Nat → List UInt8) (a k m : Nat) : (lvs f a k).drop m = lvs f (a + m) (k - m) := by
  apply List.ext_getElem
  · simp [lvs]
  · intro i h1 h2
    simp [lvs, Nat.add_assoc]
/-- The hash of so many leaves from one on. -/
def sth (f : Nat → List UInt8) (a k : Nat) : List UInt8 := mhh (lvs f a k)
theorem sth_one (f : Nat → List UInt8) (a : Nat) : sth f a 1 = f a := by
  unfold sth lvs
  rw [show List.range 1 = [0] from rfl, List.map_cons, List.map_nil, mhh_one, Nat.add_zero]
theorem sth_cut (f : Nat → List UInt8) (a n k : Nat) (h1 : 2 ^ k < n) (h2 : n ≤ 2 * 2 ^ k) : sth f a n = ndp (sth f a (2 ^ k)) (sth f (a + 2 ^ k) (n - 2 ^ k)) := by
  have hp := Nat.two_pow_pos k
  unfold sth
  rw [mhh_cut (by rw [lvs_len]; omega), lvs_len, spl_of h1 h2, lvs_take _ _ _ _ (by omega), lvs_drop]
/-- Hashes in memory, from a place on. -/
def Hrs (w : World) (ad : Option Addr) (L : List (List UInt8)) : Prop := ∀ k h, L[k]? = some h → ∃ g off, ad = some ⟨g, off, none⟩ ∧ ∀ j, j < 32 → w.cell? ⟨g, off + k * 32 + j, none⟩ = (hbs h)[j]?
theorem Hrs.nw {w w' : World} {ad : Option Addr} {L : List (List UInt8)} (h : Hrs w ad L) (hl : ∀ x ∈ L, x.length = 32) (n : Nw w w') : Hrs w' ad L := fun k x hk => by
  obtain ⟨g, off, e, hc⟩ := h k x hk
  refine ⟨g, off, e, fun j hj => ?_⟩
  have hs : j < (hbs x).size := by rw [hbs_size, hl x (List.mem_of_getElem? hk)]; exact hj
  have h5 : (hbs x)[j]? = some (hbs x)[j] := Array.getElem?_eq_getElem hs
  have := hc j hj
  rw [h5] at this ⊢
  exact n.cellOf this
theorem Hrs.halves {w : World} {g o : Nat} {L : List (List UInt8)} (h : Hrs w (some ⟨g, o, none⟩) L) (k : Nat) : Hrs w (some ⟨g, o, none⟩) (L.take k) ∧ Hrs w (some ⟨g, o + k * 32, none⟩) (L.drop k) := by
  refine ⟨fun i x hi => ?_, fun i x hi => ?_⟩
  · have hk := (List.getElem?_eq_some_iff.1 hi).1
    simp only [List.length_take] at hk
    rw [List.getElem?_take, if_pos (by omega)] at hi
    exact h i x hi
  · rw [List.getElem?_drop] at hi
    obtain ⟨g', o', e, hc⟩ := h (k + i) x hi
    cases e
    refine ⟨g, o + k * 32, rfl, fun j hj => ?_⟩
    rw [← hc j hj]
    congr 2
    omega
set_option maxHeartbeats 1000000 in
theorem half15_any (n : Nat) (hn : 2 ≤ n) (hn2 : n ≤ 1048576) (w : World) :
    Calls Tryd.prog 41 #[.int .i64 (n : Int)] w fun e w' => e = .returned (.int .i64 ((spl n : Nat) : Int)) ∧ w' = w := by
  obtain ⟨K, hK⟩ : ∃ K, K = spl n := ⟨_, rfl⟩
  have HK : Hid (K = spl n) := hK
  rw [← hK]
  clear hK
  go_enter Tryd.func41, Tryd.ntmps41
  go_wp2
  go_loopw [3] (fun x wr => wr = w ∧ ∃ k j : Nat, k = 2 ^ j ∧ x = .int .i64 (k : Int) ∧ k < n) (fun x _ => n - (intOf x).toNat)
  case atStart => exact ⟨rfl, 1, 0, rfl, rfl, by omega⟩
  case round =>
    obtain ⟨rfl, q, j, hq, rfl, hlt⟩ := hrel
    have HQ : Hid (q = 2 ^ j) := hq
    have hq0 : 0 < q := by rw [hq]; exact Nat.two_pow_pos j
    clear hq
    obtain ⟨D, hD⟩ : ∃ D : Nat, (n : Int) - (q : Int) = (D : Int) := ⟨n - q, by omega⟩
    by_cases hc : 2 * q < n
    · have hc1 : (q : Int) < (D : Int) := by omega
      go_wp2_with fail
      exact ⟨⟨trivial, 2 * q, j + 1, by rw [HQ.out, Nat.pow_succ'], by go_num, hc⟩, by simp [intOf]; omega⟩
    · have hc1 : ¬ (q : Int) < (D : Int) := by omega
      have hs : K = q := by rw [HK.out, HQ.out]; exact spl_of (by rw [← HQ.out]; exact hlt) (by rw [← HQ.out]; omega)
      clear hc hlt
      go_wp2
      go_ret
      exact ⟨rfl, rfl⟩
set_option maxRecDepth 100000 in
set_option maxHeartbeats 1000000 in
theorem mth15_nil (p : Option Addr) (cap : Nat) (w : World) (hL : Laid w) : Calls Tryd.prog 19 #[.slice p 0 cap] w fun e w' => e = .returned (.agg (hbs (mhh []))) ∧ Nw w w' := by
  rw [mhh_nil]
  have Q : Hid (∀ W, Nw w W → Calls Tryd.prog 40 #[] W fun e w' => e = .returned (.agg (hbs (Sh []))) ∧ Nw W w') := fun W nW => empty_any W (hL.nw nW)
  have hs : (hbs (Sh [])).size = 32 := by rw [hbs_size, Sh_len]
  obtain ⟨R, hR⟩ : ∃ R, R = Sh [] := ⟨_, rfl⟩
  rw [← hR] at hs Q ⊢
  clear hR hL
  go_enter Tryd.func19, Tryd.ntmps19
  go_wp2_with fail
  rw [z32_h]
  refine (Q.out _ (nwa w _)).mono ?_
  rintro e w1 ⟨rfl, n1⟩
  have b0 : w1.heap[w.heap.size]? = some (.cells z32 24) := (n1.block _ (heap_lt (heap_new _ _)) (fun f => f)).trans (heap_new _ _)
  have n2 : Hid (Nw w w1) := Nw.tr (nwa w _) n1
  clear n1
  go_wp2_with (refine wp_store_agg rfl (.tmp 2) (.tmp 7) 24 32 rfl Tryd.sizeOf24 w.heap.size 0 rfl z32 24 b0 (hbs R) rfl hs (hbs_one _) (by decide) (hbs R) (by rw [dropA z32_size]; simp) ?_; intro w3 j3 f3 z3)
  exact bodyPost_ret (results_cell Tryd.results19 Tryd.isAgg24 Tryd.sizeOf24 rfl j3 hs) rfl ⟨rfl, n2.out.trans f3 (fun k hk q => by omega)⟩
set_option maxRecDepth 100000 in
set_option maxHeartbeats 1000000 in
theorem mth15_one (x : List UInt8) (hx : x.length = 32) (g o cap : Nat) (w : World) (hc : ∀ j, j < 32 → w.cell? ⟨g, o + j, none⟩ = (hbs x)[j]?) : Calls Tryd.prog 19 #[.slice (some ⟨g, o, none⟩) 1 cap] w fun e w' => e = .returned (.agg (hbs (mhh [x]))) ∧ Nw w w' := by
  rw [mhh_one]
  have hs : (hbs x).size = 32 := by rw [hbs_size, hx]
  have HC : Hid (∀ ob, ∀ j, j < 32 → (w.alloc ob).cell? ⟨g, o + j, none⟩ = (hbs x)[j]?) := fun ob j hj => by
    have h5 : (hbs x)[j]? = some (hbs x)[j] := Array.getElem?_eq_getElem (by omega)
    have := hc j hj
    rw [h5] at this ⊢
    exact (nwa w ob).cellOf this
  clear hc
  go_enter Tryd.func19, Tryd.ntmps19
  go_wp2_with first
    | refine wple_load_at rfl (.tmp 12) 24 32 rfl Tryd.isAgg24 Tryd.sizeOf24 g o rfl (hbs x) hs (HC.out _) ?_
    | (refine wp_store_agg rfl (.tmp 2) (.tmp 13) 24 32 rfl Tryd.sizeOf24 w.heap.size 0 rfl z32 24 (by rw [← z32_h]; exact heap_new _ _) (hbs x) rfl hs (hbs_one _) (by decide) (hbs x) (by rw [dropA z32_size]; simp) ?_; intro w3 j3 f3 z3; clear z3)
  exact bodyPost_ret (results_cell Tryd.results19 Tryd.isAgg24 Tryd.sizeOf24 rfl j3 hs) rfl ⟨rfl, (nwa w _).trans f3 (fun k hk q => by omega)⟩
set_option maxRecDepth 100000 in
set_option maxHeartbeats 4000000 in
theorem mth15_cut (g o n cap k : Nat) (w : World) (A B : List UInt8) (hA : A.length = 32) (hB : B.length = 32) (hn : 2 ≤ n) (hn2 : n ≤ 1048576) (hk : k = spl n) (hcap : n ≤ cap) (hL : Laid w)
    (QA : ∀ W, Nw w W → Calls Tryd.prog 19 #[.slice (some ⟨g, o, none⟩) k cap] W fun e w' => e = .returned (.agg (hbs A)) ∧ Nw W w')
    (QB : ∀ W, Nw w W → Calls Tryd.prog 19 #[.slice (some ⟨g, o + k * 32, none⟩) (n - k) (cap - k)] W fun e w' => e = .returned (.agg (hbs B)) ∧ Nw W w') :
    Calls Tryd.prog 19 #[.slice (some ⟨g, o, none⟩) n cap] w fun e w' => e = .returned (.agg (hbs (ndp A B))) ∧ Nw w w' := by
  have QA' : Hid (∀ W, Nw w W → Calls Tryd.prog 19 #[.slice (some ⟨g, o, none⟩) k cap] W fun e w' => e = .returned (.agg (hbs A)) ∧ Nw W w') := QA
  have QB' : Hid (∀ W, Nw w W → Calls Tryd.prog 19 #[.slice (some ⟨g, o + k * 32, none⟩) (n - k) (cap - k)] W fun e w' => e = .returned (.agg (hbs B)) ∧ Nw W w') := QB
  have QN : Hid (∀ W, Nw w W → Calls Tryd.prog 25 #[.agg (hbs A), .agg (hbs B)] W fun e w' => e = .returned (.agg (hbs (ndp A B))) ∧ Nw W w') := fun W nW => node_any A B hA hB W (hL.nw nW)
  have hkn := spl_lt hn
  rw [← hk] at hkn
  have HK : Hid (k = spl n) := hk
  have HKN : Hid (k < n) := hkn
  have HCN : Hid (n ≤ cap) := hcap
  have hn0 : ((n : Int) == 0) = false := by simp; omega
  have hn1 : ((n : Int) == 1) = false := by simp; omega
  obtain ⟨R, hR⟩ : ∃ R, R = ndp A B := ⟨_, rfl⟩
  have hRl : (hbs R).size = 32 := by rw [hbs_size, hR, ndp_len]
  rw [← hR] at QN ⊢
  obtain ⟨a, ha⟩ : ∃ a, a = hbs A := ⟨_, rfl⟩
  obtain ⟨b, hb'⟩ : ∃ b, b = hbs B := ⟨_, rfl⟩
  rw [← ha] at QA' QN
  rw [← hb'] at QB' QN
  have hni : ¬ (n : Int) = 0 := by omega
  have hni1 : ¬ (n : Int) = 1 := by omega
  clear QA QB hk hA hB hkn hcap hR ha hb' hL
  go_enter Tryd.func19, Tryd.ntmps19
  go_wp2_with fail
  rw [z32_h]
  obtain ⟨w1, hw1⟩ : ∃ q, w.alloc (.cells z32 24) = q := ⟨_, rfl⟩
  have NW1 : Hid (Nw w w1) := by show Nw _ _; rw [← hw1]; exact nwa w _
  have b0 : Hid (w1.heap[w.heap.size]? = some (.cells z32 24)) := by show _ = _; rw [← hw1]; exact heap_new _ _
  rw [hw1]
  clear hw1
  obtain ⟨rb, hrb⟩ : ∃ q, q = w.heap.size := ⟨_, rfl⟩
  rw [← hrb] at b0 ⊢
  have HRB : Hid (rb = w.heap.size) := hrb
  clear hrb
  have QHf : Hid (∀ W, Calls Tryd.prog 41 #[.int .i64 (n : Int)] W fun e w' => e = .returned (.int .i64 (k : Int)) ∧ w' = W) := fun W => by rw [HK.out]; exact half15_any n hn hn2 W
  go_wp2_with fail
  refine (QHf.out _).mono ?_
  rintro e wr ⟨rfl, rfl⟩
  have hk1 : (k : Int) ≤ (cap : Int) := by have := HCN.out; have := HKN.out; omega
  have HK1 : Hid (k ≤ cap) := by show k ≤ cap; have := HCN.out; have := HKN.out; omega
  have HK2 : Hid (k ≤ n) := by show k ≤ n; have := HKN.out; omega
  have HK3 : Hid (¬ cap = k) := by show ¬ cap = k; have := HCN.out; have := HKN.out; omega
  clear hk1
  go_upto_region 6 with fail
  have nb : Nw wr wr.drew := (Fr.refl _ _).drew
  refine wp_region_held_drew (S := fun _ => True) (by kernel_rfl) trivial ?_
  intro hS0
  refine wpAnyH_take (i := 0) (v := .slice (some ⟨g, o, none⟩) n cap) rfl (by kernel_rfl) (by kernel_rfl) (by kernel_rfl) (fun _ _ _ h => h) (Or.inl ⟨by kernel_rfl, by intro w hw; go_simp⟩) hS0 ?_
  try simp only [Act.put, List.setIfInBounds_toArray, List.set_cons_zero, List.set_cons_succ]
  refine wpAnyH_take (i := 1) (v := .int .i64 (k : Int)) rfl (by kernel_rfl) (by kernel_rfl) (by kernel_rfl) (fun _ _ _ h => h) (Or.inl ⟨by kernel_rfl, by intro w hw; go_simp⟩) hS0 ?_
  try simp only [Act.put, List.setIfInBounds_toArray, List.set_cons_zero, List.set_cons_succ]
  refine wpAnyH_take (i := 2) (v := .slice (some ⟨g, o, none⟩) k cap) rfl (by kernel_rfl) (by kernel_rfl) (by kernel_rfl) (fun _ _ _ h => h) (Or.inl ⟨by kernel_rfl, by intro w hw; have a1 := HK1.out; go_simp⟩) hS0 ?_
  try simp only [Act.put, List.setIfInBounds_toArray, List.set_cons_zero, List.set_cons_succ]
  refine wpAnyH_take (i := 4) (v := .slice (some ⟨g, o, none⟩) n cap) rfl (by kernel_rfl) (by kernel_rfl) (by kernel_rfl) (fun _ _ _ h => h) (Or.inl ⟨by kernel_rfl, by intro w hw; go_simp⟩) hS0 ?_
  try simp only [Act.put, List.setIfInBounds_toArray, List.set_cons_zero, List.set_cons_succ]
  refine wpAnyH_take (i := 5) (v := .int .i64 (k : Int)) rfl (by kernel_rfl) (by kernel_rfl) (by kernel_rfl) (fun _ _ _ h => h) (Or.inl ⟨by kernel_rfl, by intro w hw; go_simp⟩) hS0 ?_
  try simp only [Act.put, List.setIfInBounds_toArray, List.set_cons_zero, List.set_cons_succ]
  refine wpAnyH_take (i := 6) (v := .slice (some ⟨g, o + k * 32, none⟩) (n - k) (cap - k)) rfl (by kernel_rfl) (by kernel_rfl) (by kernel_rfl) (fun _ _ _ h => h) (Or.inl ⟨by kernel_rfl, by intro w hw; have a1 := HK1.out; have a2 := HK2.out; have a3 := HK3.out; have a4 := HCN.out; go_simp⟩) hS0 ?_
  try simp only [Act.put, List.setIfInBounds_toArray, List.set_cons_zero, List.set_cons_succ]
  refine wpAnyH_ready (rs := [3]) (by kernel_rfl) (by simp) ?_
  refine AllReadyH.cons rfl (fun K' hK => ?_) AllReadyH.nil
  go_simp
  go_wp2_with (go_at_call 19; refine (QA'.out _ (NW1.out.tr nb)).mono ?_; rintro ew2 w2 ⟨rfl, nw2⟩)
  have mw2 : Nw wr w2 := nb.tr nw2
  refine hK.out _ _ ((trivial)) (fun hS0 => ?_)
  try simp only [Act.put, List.setIfInBounds_toArray, List.set_cons_zero, List.set_cons_succ]
  refine wpAnyH_ready (rs := [7]) (by kernel_rfl) (by simp) ?_
  refine AllReadyH.cons rfl (fun K' hK => ?_) AllReadyH.nil
  go_simp
  go_wp2_with (go_at_call 19; refine (QB'.out _ (NW1.out.tr mw2)).mono ?_; rintro ew3 w3 ⟨rfl, nw3⟩)
  have mw3 : Nw wr w3 := mw2.tr nw3
  refine hK.out _ _ ((trivial)) (fun hS0 => ?_)
  try simp only [Act.put, List.setIfInBounds_toArray, List.set_cons_zero, List.set_cons_succ]
  refine wpAnyH_ready (rs := [8]) (by kernel_rfl) (by simp) ?_
  refine AllReadyH.cons rfl (fun K' hK => ?_) AllReadyH.nil
  go_simp
  go_wp2_with (go_at_call 25; refine (QN.out _ (NW1.out.tr mw3)).mono ?_; rintro ew4 w4 ⟨rfl, nw4⟩)
  have mw4 : Nw wr w4 := mw3.tr nw4
  refine hK.out _ _ ((trivial)) (fun hS0 => ?_)
  try simp only [Act.put, List.setIfInBounds_toArray, List.set_cons_zero, List.set_cons_succ]
  have jz := (mw4.block _ (heap_lt b0.out) (fun f => f)).trans b0.out
  refine wpAnyH_ready (rs := [9]) (by kernel_rfl) (by simp) ?_
  refine ready_storeP rfl rfl (.tmp 2) (.tmp 25) 24 32 rfl Tryd.sizeOf24 rb (by kernel_rfl) z32 24 jz (hbs R) (by kernel_rfl) hRl (hbs_one _) z32_size ?_ AllReadyH.nil
  intro w5 j5 f5
  refine ⟨trivial, fun hS0 => ?_⟩
  try simp only [Act.put, List.setIfInBounds_toArray, List.set_cons_zero, List.set_cons_succ]
  refine wpAnyH_done (by kernel_rfl) ?_ _
  try go_wp2_with fail
  exact bodyPost_ret (results_cell Tryd.results19 Tryd.isAgg24 Tryd.sizeOf24 rfl j5 hRl) rfl ⟨rfl, (NW1.out.tr mw4).trans f5 (fun k hk q => by have := HRB.out; omega)⟩
theorem mth15_any : ∀ (m : Nat) (l : List (List UInt8)) (p : Option Addr) (cap : Nat) (w : World), l.length ≤ m → l.length ≤ 1048576 → (∀ x ∈ l, x.length = 32) → l.length ≤ cap → Hrs w p l → Laid w →
    Calls Tryd.prog 19 #[.slice p l.length cap] w fun e w' => e = .returned (.agg (hbs (mhh l))) ∧ Nw w w'
  | m, [], p, cap, w, hm, h1, h2, h3, h4, hL => mth15_nil p cap w hL
  | m, [x], p, cap, w, hm, h1, h2, h3, h4, hL => by
    obtain ⟨g, o, rfl, hg⟩ := h4 0 x rfl
    exact mth15_one x (h2 x (by simp)) g o cap w (fun j hj => by have := hg j hj; rwa [Nat.zero_mul, Nat.add_zero] at this)
  | 0, x :: y :: r, p, cap, w, hm, h1, h2, h3, h4, hL => by simp at hm
  | m + 1, x :: y :: r, p, cap, w, hm, h1, h2, h3, h4, hL => by
    obtain ⟨l, hl⟩ : ∃ l, l = x :: y :: r := ⟨_, rfl⟩
    rw [← hl] at hm h1 h2 h3 h4 ⊢
    have hn : 2 ≤ l.length := by rw [hl]; simp
    obtain ⟨g, o, hp, _⟩ := h4 0 x (by rw [hl]; rfl)
    subst hp
    have hk := spl_lt hn
    have hk0 := spl_pos l.length
    rw [mhh_cut hn]
    have e1 : (l.take (spl l.length)).length = spl l.length := by rw [List.length_take]; omega
    have e2 : (l.drop (spl l.length)).length = l.length - spl l.length := by rw [List.length_drop]
    have t1 : ∀ z ∈ l.take (spl l.length), z.length = 32 := fun z hz => h2 z (List.mem_of_mem_take hz)
    have t2 : ∀ z ∈ l.drop (spl l.length), z.length = 32 := fun z hz => h2 z (List.mem_of_mem_drop hz)
    obtain ⟨s1, s2⟩ := h4.halves (spl l.length)
    refine mth15_cut g o l.length cap (spl l.length) w _ _ (mhh_len _ t1) (mhh_len _ t2) hn h1 rfl h3 hL (fun W hW => ?_) (fun W hW => ?_)
    · have := mth15_any m (l.take (spl l.length)) (some ⟨g, o, none⟩) cap W (by omega) (by omega) t1 (by omega) (s1.nw t1 hW) (hL.nw hW)
      rw [e1] at this
      exact this
    · have := mth15_any m (l.drop (spl l.length)) (some ⟨g, o + spl l.length * 32, none⟩) (cap - spl l.length) W (by omega) (by omega) t2 (by omega) (s2.nw t2 hW) (hL.nw hW)
      rw [e2] at this
      exact this
end Go.Proofs.YtaeocbdphfkflaaDoor
namespace Go.Proofs.YtaeocbdphfkflaaDoor
open Go.RowKit
set_option linter.unusedVariables false
set_option linter.unusedSimpArgs false
theorem elemHu : Tryd.prog.elem 25 = 24 := by kernel_rfl
theorem undHu : Tryd.prog.underlying 25 = some (.slice (Tryd.prog.elem 25)) := by rw [elemHu]; exact Tryd.underlying25
theorem cut_hh (ad : Option Addr) (n cap k : Nat) (hk : k ≤ cap) (w : World) : (Instr.sliceAt 25 (.slice ad n cap) none (some (.int .i64 (k : Int))) none).run Tryd.prog w = .ok (.slice ad k cap) w := by
  rw [run_sliceAt_slice w _ _ _ _ _ undHu, run_slice_h w _ ad n cap undHu .i64 k (by omega) (by omega), elemHu, Tryd.sizeOf24 w]
  cases ad <;> simp [sliced, Addr.add]
theorem cut_hl (g o n cap k : Nat) (hk : k < n) (hn : n ≤ cap) (w : World) : (Instr.sliceAt 25 (.slice (some ⟨g, o, none⟩) n cap) (some (.int .i64 (k : Int))) none none).run Tryd.prog w = .ok (.slice (some ⟨g, o + k * 32, none⟩) (n - k) (cap - k)) w := by
  rw [run_sliceAt_slice w _ _ _ _ _ undHu, run_slice_l w _ (some ⟨g, o, none⟩) n cap undHu .i64 k (by omega) (by omega), elemHu, Tryd.sizeOf24 w]
  have : ¬ cap = k := by omega
  simp [sliced, this, Addr.add]
def sbh (L : List (List UInt8)) (b e : Nat) : List (List UInt8) := (L.take e).drop b
theorem sbh_len (L : List (List UInt8)) (b e : Nat) : (sbh L b e).length = min e L.length - b := by simp [sbh]
theorem sbh_take {L : List (List UInt8)} {b e k : Nat} (h : b + k ≤ e) : (sbh L b e).take k = sbh L b (b + k) := by
  unfold sbh
  rw [List.take_drop, List.take_take, Nat.min_eq_left h]
theorem sbh_drop (L : List (List UInt8)) (b e k : Nat) : (sbh L b e).drop k = sbh L (b + k) e := by
  unfold sbh
  rw [List.drop_drop]
theorem sbh_all (L : List (List UInt8)) : sbh L 0 L.length = L := by unfold sbh; rw [List.drop_zero, List.take_length]
theorem sbh_mem {L : List (List UInt8)} {b e : Nat} {x : List UInt8} (h : x ∈ sbh L b e) : x ∈ L := List.mem_of_mem_take (List.mem_of_mem_drop h)
def hshp (L : List (List UInt8)) (t : Nat × Nat) : List UInt8 := mhh (sbh L t.1 t.2)
theorem hshp_len (L : List (List UInt8)) (h : ∀ x ∈ L, x.length = 32) (t : Nat × Nat) : (hshp L t).length = 32 := mhh_len _ (fun x hx => h x (sbh_mem hx))
theorem step_build1 {w : World} {ops : Array Oper} {o : Oper} {a : Act} {K : Act → World → Prop} {Q : Exit → Act → World → Prop} {E : Prop} (hgd : o.guard = none) (x : Operand) (ho : o.op = .buildSlice 25 1 #[(0, x)]) (V : Array Value) (hx : a.eval x = .agg V) (hV : V.size = 32)
    (h : K (a.put o.dst (.slice (some ⟨w.heap.size, 0, none⟩) 1 1)) (w.alloc (.cells V 24))) : if Region.wanted o (yielded ops a.tmps) = true then Oper.wp Tryd.prog o a w K Q else E := by
  have hw : Region.wanted o (yielded ops a.tmps) = true := by simp [Region.wanted, hgd]
  rw [if_pos hw]
  unfold Oper.wp execOp
  simp only [ho, Sem.run_bind, Sem.run_pure, Result.andThen_ok, List.map_toArray, List.map_cons, List.map_nil, hx, build1 V hV]
  exact h
/-- What a row of hashes is given back as. -/
def Rwd (w w' : World) (l : List (List UInt8)) (r : Ending) : Prop := ∃ v, r = .returned v ∧ w'.ownsRow w.heap.size 24 32 v l.length (hsc l) ∧ Nw w w'

set_option maxRecDepth 100000 in
set_option maxHeartbeats 2000000 in
theorem rpl (g o n cap k m : Nat)  (w : World) (l : List (List UInt8)) (A : List UInt8) (hA : A.length = 32) (hll : l.length ≤ 100) (hn : 2 ≤ n) (hn2 : n ≤ 1048576) (hk : k = spl n) (hcap : n ≤ cap) (hm : m ≤ n)  (hlt : m < k)
    (QA : ∀ W, Nw w W → Calls Tryd.prog 20 #[.int .i64 (m : Int), .slice (some ⟨g, o, none⟩) k cap] W fun r w' => Rwd W w' l r)
    (QB : ∀ W, Nw w W → Calls Tryd.prog 19 #[.slice (some ⟨g, o + k * 32, none⟩) (n - k) (cap - k)] W fun e w' => e = .returned (.agg (hbs A)) ∧ Nw W w') :
    Calls Tryd.prog 20 #[.int .i64 (m : Int), .slice (some ⟨g, o, none⟩) n cap] w fun r w' => Rwd w w' (l ++ [A]) r := by
  obtain ⟨i0, hi, hz0, hz1, hz2⟩ := info_parts infoHs
  have QA' := show Hid (∀ W, Nw w W → Calls Tryd.prog 20 #[.int .i64 (m : Int), .slice (some ⟨g, o, none⟩) k cap] W fun r w' => Rwd W w' l r) from QA
  have QB' := show Hid (∀ W, Nw w W → Calls Tryd.prog 19 #[.slice (some ⟨g, o + k * 32, none⟩) (n - k) (cap - k)] W fun e w' => e = .returned (.agg (hbs A)) ∧ Nw W w') from QB
  have QS := show Hid _ from half15_any n hn hn2
  have hkn := spl_lt hn
  rw [← hk] at QS hkn
  clear QA QB hk
  have hc1 := (fun W => cut_hh (some ⟨g, o, none⟩) n cap k (by omega) W)
  have hc2 := (fun W => cut_hl g o n cap k (by omega) (by omega) W)
  have HKN : Hid (k < n) := hkn
  have HCN : Hid (n ≤ cap) := hcap
  have hRl : (hbs A).size = 32 := by rw [hbs_size, hA]
  have hn1 : ((n : Int) == 1) = false := by simp; omega
  have hlt1 : (m : Int) < (k : Int) := by omega
  have HLL : Hid (l.length ≤ 100) := hll
  clear hkn hcap hll hA
  go_enter Tryd.func20, Tryd.ntmps20
  go_wp2_with fail
  refine (QS.out _).mono ?_
  rintro e w1 ⟨rfl, h1⟩
  have NW1 : Hid (Nw w w1) := by rw [h1]; exact nwr w
  clear h1
  go_wp2_with fail
  have nb : Nw w1 w1.drew := (Fr.refl _ _).drew
  refine wp_region_held_drew (S := fun _ => True) (by kernel_rfl) trivial ?_
  intro hS0
  refine wpAnyH_take (i := 0) (v := .int .i64 (m : Int)) rfl (by kernel_rfl) (by kernel_rfl) (by kernel_rfl) (fun _ _ _ h => h) (Or.inl ⟨by rfl, by intro w hw; go_simp⟩) hS0 ?_
  try simp only [Act.put, List.setIfInBounds_toArray, List.set_cons_zero, List.set_cons_succ]
  refine wpAnyH_take (i := 1) (v := .slice (some ⟨g, o, none⟩) n cap) rfl (by kernel_rfl) (by kernel_rfl) (by kernel_rfl) (fun _ _ _ h => h) (Or.inl ⟨by rfl, by intro w hw; go_simp⟩) hS0 ?_
  try simp only [Act.put, List.setIfInBounds_toArray, List.set_cons_zero, List.set_cons_succ]
  refine wpAnyH_take (i := 2) (v := .int .i64 (k : Int)) rfl (by kernel_rfl) (by kernel_rfl) (by kernel_rfl) (fun _ _ _ h => h) (Or.inl ⟨by rfl, by intro w hw; go_simp⟩) hS0 ?_
  try simp only [Act.put, List.setIfInBounds_toArray, List.set_cons_zero, List.set_cons_succ]
  refine wpAnyH_take (i := 3) (v := .slice (some ⟨g, o, none⟩) k cap) rfl (by kernel_rfl) (by kernel_rfl) (by kernel_rfl) (fun _ _ _ h => h) (Or.inl ⟨by rfl, by intro w hw; have := hc1 w; go_simp⟩) hS0 ?_
  try simp only [Act.put, List.setIfInBounds_toArray, List.set_cons_zero, List.set_cons_succ]
  refine wpAnyH_take (i := 5) (v := .slice (some ⟨g, o, none⟩) n cap) rfl (by kernel_rfl) (by kernel_rfl) (by kernel_rfl) (fun _ _ _ h => h) (Or.inl ⟨by rfl, by intro w hw; go_simp⟩) hS0 ?_
  try simp only [Act.put, List.setIfInBounds_toArray, List.set_cons_zero, List.set_cons_succ]
  refine wpAnyH_take (i := 6) (v := .int .i64 (k : Int)) rfl (by kernel_rfl) (by kernel_rfl) (by kernel_rfl) (fun _ _ _ h => h) (Or.inl ⟨by rfl, by intro w hw; go_simp⟩) hS0 ?_
  try simp only [Act.put, List.setIfInBounds_toArray, List.set_cons_zero, List.set_cons_succ]
  refine wpAnyH_take (i := 7) (v := .slice (some ⟨g, o + k * 32, none⟩) (n - k) (cap - k)) rfl (by kernel_rfl) (by kernel_rfl) (by kernel_rfl) (fun _ _ _ h => h) (Or.inl ⟨by rfl, by intro w hw; have := hc2 w; go_simp⟩) hS0 ?_
  try simp only [Act.put, List.setIfInBounds_toArray, List.set_cons_zero, List.set_cons_succ]
  refine wpAnyH_ready (rs := [4]) (by kernel_rfl) (by simp) ?_
  refine AllReadyH.cons rfl (fun K' hK => ?_) AllReadyH.nil
  go_simp
  go_wp2_with (go_at_call 20; refine (QA'.out _ (NW1.out.tr nb)).mono ?_; rintro e2 w2 ⟨v2, rfl, o2, n2⟩)
  have m2 : Nw w1 w2 := Nw.tr nb n2
  have O2 : Hid (w2.ownsRow w.heap.size 24 32 v2 l.length (hsc l)) := ownsRow_base o2 (Nat.le_trans NW1.out.size nb.size)
  obtain ⟨va, vc, rfl⟩ := ownsRow_form o2
  refine hK.out _ _ trivial (fun hS0 => ?_)
  try simp only [Act.put, List.setIfInBounds_toArray, List.set_cons_zero, List.set_cons_succ]
  refine wpAnyH_ready (rs := [8]) (by kernel_rfl) (by simp) ?_
  refine AllReadyH.cons rfl (fun K' hK => ?_) AllReadyH.nil
  go_simp
  go_wp2_with (go_at_call 19; refine (QB'.out _ (NW1.out.tr m2)).mono ?_; rintro e3 w3 ⟨rfl, n3⟩)
  have m3 : Nw w1 w3 := Nw.tr m2 n3
  have O3 : Hid (w3.ownsRow w.heap.size 24 32 (.slice va l.length vc) l.length (hsc l)) := ownsRow_keep O2.out (fun g hg => n3.block g (O2.out.lt g hg).2 (fun f => f))
  refine hK.out _ _ trivial (fun hS0 => ?_)
  try simp only [Act.put, List.setIfInBounds_toArray, List.set_cons_zero, List.set_cons_succ]
  refine wpAnyH_ready (rs := [9]) (by kernel_rfl) (by simp) ?_
  refine AllReadyH.cons rfl (fun K' hK => ?_) AllReadyH.nil
  refine step_build1 rfl (.tmp 23) rfl (hbs A) rfl hRl ?_
  refine hK.out _ _ trivial (fun hS0 => ?_)
  try simp only [Act.put, List.setIfInBounds_toArray, List.set_cons_zero, List.set_cons_succ]
  refine wpAnyH_ready (rs := [10]) (by kernel_rfl) (by simp) ?_
  refine AllReadyH.cons rfl (fun K' hK => ?_) AllReadyH.nil
  refine step_two rfl (.tmp 19) (.tmp 24) 25 rfl w.heap.size 24 i0 (.agg z32) 32 32 Tryd.underlying25 hi hz0 hz1 hz2 z32_size (by decide) (.slice va l.length vc) l.length (hsc l) rfl (O3.out.alloc _) ⟨w3.heap.size, 0, none⟩ 1 1 (hbs A).toList rfl (by simp [hRl]) (hash_new _ _ _) (hbs_one _) (by have := HLL.out; unfold maxLen; omega) (by have := HLL.out; omega) (by have := NW1.out.size; have := m3.size; simp; omega) ?_
  intro v' w5 o5 t5
  have n5 : Nw w w5 := ((NW1.out.tr m3).alloc _).trans t5.fr (fun j hj q => by have := (O3.out.lt j q).1; omega)
  obtain ⟨xa, xc, rfl⟩ := ownsRow_form o5
  refine hK.out _ _ trivial (fun hS0 => ?_)
  try simp only [Act.put, List.setIfInBounds_toArray, List.set_cons_zero, List.set_cons_succ]
  refine wpAnyH_ready (rs := [11]) (by kernel_rfl) (by simp) ?_
  refine AllReadyH.cons rfl (fun K' hK => ?_) AllReadyH.nil
  go_simp
  refine hK.out _ _ trivial (fun hS0 => ?_)
  try simp only [Act.put, List.setIfInBounds_toArray, List.set_cons_zero, List.set_cons_succ]
  refine wpAnyH_done (by kernel_rfl) ?_ _
  go_wp2_with fail
  refine bodyPost_ret (v := .slice xa (l.length + 1) xc) (by simp [results, Tryd.results20]) rfl ⟨_, rfl, ?_, n5⟩
  rw [List.length_append, hsc_app, hsc_one]
  exact o5

set_option maxRecDepth 100000 in
set_option maxHeartbeats 2000000 in
theorem rpr (g o n cap k m mk : Nat)  (w : World) (l : List (List UInt8)) (A : List UInt8) (hA : A.length = 32) (hll : l.length ≤ 100) (hn : 2 ≤ n) (hn2 : n ≤ 1048576) (hk : k = spl n) (hcap : n ≤ cap) (hm : m ≤ n) (hmk : m = k + mk) 
    (QA : ∀ W, Nw w W → Calls Tryd.prog 20 #[.int .i64 (mk : Int), .slice (some ⟨g, o + k * 32, none⟩) (n - k) (cap - k)] W fun r w' => Rwd W w' l r)
    (QB : ∀ W, Nw w W → Calls Tryd.prog 19 #[.slice (some ⟨g, o, none⟩) k cap] W fun e w' => e = .returned (.agg (hbs A)) ∧ Nw W w') :
    Calls Tryd.prog 20 #[.int .i64 (m : Int), .slice (some ⟨g, o, none⟩) n cap] w fun r w' => Rwd w w' (l ++ [A]) r := by
  obtain ⟨i0, hi, hz0, hz1, hz2⟩ := info_parts infoHs
  have QA' := show Hid (∀ W, Nw w W → Calls Tryd.prog 20 #[.int .i64 (mk : Int), .slice (some ⟨g, o + k * 32, none⟩) (n - k) (cap - k)] W fun r w' => Rwd W w' l r) from QA
  have QB' := show Hid (∀ W, Nw w W → Calls Tryd.prog 19 #[.slice (some ⟨g, o, none⟩) k cap] W fun e w' => e = .returned (.agg (hbs A)) ∧ Nw W w') from QB
  have QS := show Hid _ from half15_any n hn hn2
  have hkn := spl_lt hn
  rw [← hk] at QS hkn
  clear QA QB hk
  have hc1 := (fun W => cut_hh (some ⟨g, o, none⟩) n cap k (by omega) W)
  have hc2 := (fun W => cut_hl g o n cap k (by omega) (by omega) W)
  have HKN : Hid (k < n) := hkn
  have HCN : Hid (n ≤ cap) := hcap
  have hRl : (hbs A).size = 32 := by rw [hbs_size, hA]
  have hn1 : ((n : Int) == 1) = false := by simp; omega
  have hlt1 : ¬ (m : Int) < (k : Int) := by omega
  have hsub : (m : Int) - (k : Int) = (mk : Int) := by omega
  have hwr : IntKind.i64.wrap (mk : Int) = (mk : Int) := by rw [IntKind.wrap_i64]; omega
  have HMK : Hid (m = k + mk) := hmk
  clear hmk
  have HLL : Hid (l.length ≤ 100) := hll
  clear hkn hcap hll hA
  go_enter Tryd.func20, Tryd.ntmps20
  go_wp2_with fail
  refine (QS.out _).mono ?_
  rintro e w1 ⟨rfl, h1⟩
  have NW1 : Hid (Nw w w1) := by rw [h1]; exact nwr w
  clear h1
  go_wp2_with fail
  have nb : Nw w1 w1.drew := (Fr.refl _ _).drew
  refine wp_region_held_drew (S := fun _ => True) (by kernel_rfl) trivial ?_
  intro hS0
  refine wpAnyH_take (i := 0) (v := .int .i64 (m : Int)) rfl (by kernel_rfl) (by kernel_rfl) (by kernel_rfl) (fun _ _ _ h => h) (Or.inl ⟨by rfl, by intro w hw; go_simp⟩) hS0 ?_
  try simp only [Act.put, List.setIfInBounds_toArray, List.set_cons_zero, List.set_cons_succ]
  refine wpAnyH_take (i := 1) (v := .int .i64 (k : Int)) rfl (by kernel_rfl) (by kernel_rfl) (by kernel_rfl) (fun _ _ _ h => h) (Or.inl ⟨by rfl, by intro w hw; go_simp⟩) hS0 ?_
  try simp only [Act.put, List.setIfInBounds_toArray, List.set_cons_zero, List.set_cons_succ]
  refine wpAnyH_take (i := 2) (v := .int .i64 (mk : Int)) rfl (by kernel_rfl) (by kernel_rfl) (by kernel_rfl) (fun _ _ _ h => h) (Or.inl ⟨by rfl, by intro w hw; go_simp⟩) hS0 ?_
  try simp only [Act.put, List.setIfInBounds_toArray, List.set_cons_zero, List.set_cons_succ]
  refine wpAnyH_take (i := 3) (v := .slice (some ⟨g, o, none⟩) n cap) rfl (by kernel_rfl) (by kernel_rfl) (by kernel_rfl) (fun _ _ _ h => h) (Or.inl ⟨by rfl, by intro w hw; go_simp⟩) hS0 ?_
  try simp only [Act.put, List.setIfInBounds_toArray, List.set_cons_zero, List.set_cons_succ]
  refine wpAnyH_take (i := 4) (v := .int .i64 (k : Int)) rfl (by kernel_rfl) (by kernel_rfl) (by kernel_rfl) (fun _ _ _ h => h) (Or.inl ⟨by rfl, by intro w hw; go_simp⟩) hS0 ?_
  try simp only [Act.put, List.setIfInBounds_toArray, List.set_cons_zero, List.set_cons_succ]
  refine wpAnyH_take (i := 5) (v := .slice (some ⟨g, o + k * 32, none⟩) (n - k) (cap - k)) rfl (by kernel_rfl) (by kernel_rfl) (by kernel_rfl) (fun _ _ _ h => h) (Or.inl ⟨by rfl, by intro w hw; have := hc2 w; go_simp⟩) hS0 ?_
  try simp only [Act.put, List.setIfInBounds_toArray, List.set_cons_zero, List.set_cons_succ]
  refine wpAnyH_take (i := 7) (v := .slice (some ⟨g, o, none⟩) n cap) rfl (by kernel_rfl) (by kernel_rfl) (by kernel_rfl) (fun _ _ _ h => h) (Or.inl ⟨by rfl, by intro w hw; go_simp⟩) hS0 ?_
  try simp only [Act.put, List.setIfInBounds_toArray, List.set_cons_zero, List.set_cons_succ]
  refine wpAnyH_take (i := 8) (v := .int .i64 (k : Int)) rfl (by kernel_rfl) (by kernel_rfl) (by kernel_rfl) (fun _ _ _ h => h) (Or.inl ⟨by rfl, by intro w hw; go_simp⟩) hS0 ?_
  try simp only [Act.put, List.setIfInBounds_toArray, List.set_cons_zero, List.set_cons_succ]
  refine wpAnyH_take (i := 9) (v := .slice (some ⟨g, o, none⟩) k cap) rfl (by kernel_rfl) (by kernel_rfl) (by kernel_rfl) (fun _ _ _ h => h) (Or.inl ⟨by rfl, by intro w hw; have := hc1 w; go_simp⟩) hS0 ?_
  try simp only [Act.put, List.setIfInBounds_toArray, List.set_cons_zero, List.set_cons_succ]
  refine wpAnyH_ready (rs := [6]) (by kernel_rfl) (by simp) ?_
  refine AllReadyH.cons rfl (fun K' hK => ?_) AllReadyH.nil
  go_simp
  go_wp2_with (go_at_call 20; refine (QA'.out _ (NW1.out.tr nb)).mono ?_; rintro e2 w2 ⟨v2, rfl, o2, n2⟩)
  have m2 : Nw w1 w2 := Nw.tr nb n2
  have O2 : Hid (w2.ownsRow w.heap.size 24 32 v2 l.length (hsc l)) := ownsRow_base o2 (Nat.le_trans NW1.out.size nb.size)
  obtain ⟨va, vc, rfl⟩ := ownsRow_form o2
  refine hK.out _ _ trivial (fun hS0 => ?_)
  try simp only [Act.put, List.setIfInBounds_toArray, List.set_cons_zero, List.set_cons_succ]
  refine wpAnyH_ready (rs := [10]) (by kernel_rfl) (by simp) ?_
  refine AllReadyH.cons rfl (fun K' hK => ?_) AllReadyH.nil
  go_simp
  go_wp2_with (go_at_call 19; refine (QB'.out _ (NW1.out.tr m2)).mono ?_; rintro e3 w3 ⟨rfl, n3⟩)
  have m3 : Nw w1 w3 := Nw.tr m2 n3
  have O3 : Hid (w3.ownsRow w.heap.size 24 32 (.slice va l.length vc) l.length (hsc l)) := ownsRow_keep O2.out (fun g hg => n3.block g (O2.out.lt g hg).2 (fun f => f))
  refine hK.out _ _ trivial (fun hS0 => ?_)
  try simp only [Act.put, List.setIfInBounds_toArray, List.set_cons_zero, List.set_cons_succ]
  refine wpAnyH_ready (rs := [11]) (by kernel_rfl) (by simp) ?_
  refine AllReadyH.cons rfl (fun K' hK => ?_) AllReadyH.nil
  refine step_build1 rfl (.tmp 36) rfl (hbs A) rfl hRl ?_
  refine hK.out _ _ trivial (fun hS0 => ?_)
  try simp only [Act.put, List.setIfInBounds_toArray, List.set_cons_zero, List.set_cons_succ]
  refine wpAnyH_ready (rs := [12]) (by kernel_rfl) (by simp) ?_
  refine AllReadyH.cons rfl (fun K' hK => ?_) AllReadyH.nil
  refine step_two rfl (.tmp 32) (.tmp 37) 25 rfl w.heap.size 24 i0 (.agg z32) 32 32 Tryd.underlying25 hi hz0 hz1 hz2 z32_size (by decide) (.slice va l.length vc) l.length (hsc l) rfl (O3.out.alloc _) ⟨w3.heap.size, 0, none⟩ 1 1 (hbs A).toList rfl (by simp [hRl]) (hash_new _ _ _) (hbs_one _) (by have := HLL.out; unfold maxLen; omega) (by have := HLL.out; omega) (by have := NW1.out.size; have := m3.size; simp; omega) ?_
  intro v' w5 o5 t5
  have n5 : Nw w w5 := ((NW1.out.tr m3).alloc _).trans t5.fr (fun j hj q => by have := (O3.out.lt j q).1; omega)
  obtain ⟨xa, xc, rfl⟩ := ownsRow_form o5
  refine hK.out _ _ trivial (fun hS0 => ?_)
  try simp only [Act.put, List.setIfInBounds_toArray, List.set_cons_zero, List.set_cons_succ]
  refine wpAnyH_ready (rs := [13]) (by kernel_rfl) (by simp) ?_
  refine AllReadyH.cons rfl (fun K' hK => ?_) AllReadyH.nil
  go_simp
  refine hK.out _ _ trivial (fun hS0 => ?_)
  try simp only [Act.put, List.setIfInBounds_toArray, List.set_cons_zero, List.set_cons_succ]
  refine wpAnyH_done (by kernel_rfl) ?_ _
  go_wp2_with fail
  refine bodyPost_ret (v := .slice xa (l.length + 1) xc) (by simp [results, Tryd.results20]) rfl ⟨_, rfl, ?_, n5⟩
  rw [List.length_append, hsc_app, hsc_one]
  exact o5

set_option maxRecDepth 100000 in
set_option maxHeartbeats 2000000 in
theorem rsl (g o n cap k m : Nat) (kn : Bool) (w : World) (l : List (List UInt8)) (A : List UInt8) (hA : A.length = 32) (hll : l.length ≤ 100) (hn : 2 ≤ n) (hn2 : n ≤ 1048576) (hk : k = spl n) (hcap : n ≤ cap) (hm : m ≤ n)  (hmn : m ≠ n) (hlt : m ≤ k)
    (QA : ∀ W, Nw w W → Calls Tryd.prog 22 #[.int .i64 (m : Int), .slice (some ⟨g, o, none⟩) k cap, .bool kn] W fun r w' => Rwd W w' l r)
    (QB : ∀ W, Nw w W → Calls Tryd.prog 19 #[.slice (some ⟨g, o + k * 32, none⟩) (n - k) (cap - k)] W fun e w' => e = .returned (.agg (hbs A)) ∧ Nw W w') :
    Calls Tryd.prog 22 #[.int .i64 (m : Int), .slice (some ⟨g, o, none⟩) n cap, .bool kn] w fun r w' => Rwd w w' (l ++ [A]) r := by
  obtain ⟨i0, hi, hz0, hz1, hz2⟩ := info_parts infoHs
  have QA' := show Hid (∀ W, Nw w W → Calls Tryd.prog 22 #[.int .i64 (m : Int), .slice (some ⟨g, o, none⟩) k cap, .bool kn] W fun r w' => Rwd W w' l r) from QA
  have QB' := show Hid (∀ W, Nw w W → Calls Tryd.prog 19 #[.slice (some ⟨g, o + k * 32, none⟩) (n - k) (cap - k)] W fun e w' => e = .returned (.agg (hbs A)) ∧ Nw W w') from QB
  have QS := show Hid _ from half15_any n hn hn2
  have hkn := spl_lt hn
  rw [← hk] at QS hkn
  clear QA QB hk
  have hc1 := (fun W => cut_hh (some ⟨g, o, none⟩) n cap k (by omega) W)
  have hc2 := (fun W => cut_hl g o n cap k (by omega) (by omega) W)
  have HKN : Hid (k < n) := hkn
  have HCN : Hid (n ≤ cap) := hcap
  have hRl : (hbs A).size = 32 := by rw [hbs_size, hA]
  have hne : ((m : Int) == (n : Int)) = false := by simp; omega
  have hlt1 : (m : Int) ≤ (k : Int) := by omega
  have HLL : Hid (l.length ≤ 100) := hll
  clear hkn hcap hll hA
  go_enter Tryd.func22, Tryd.ntmps22
  go_wp2_with fail
  refine (QS.out _).mono ?_
  rintro e w1 ⟨rfl, h1⟩
  have NW1 : Hid (Nw w w1) := by rw [h1]; exact nwr w
  clear h1
  go_wp2_with fail
  have nb : Nw w1 w1.drew := (Fr.refl _ _).drew
  refine wp_region_held_drew (S := fun _ => True) (by kernel_rfl) trivial ?_
  intro hS0
  refine wpAnyH_take (i := 0) (v := .int .i64 (m : Int)) rfl (by kernel_rfl) (by kernel_rfl) (by kernel_rfl) (fun _ _ _ h => h) (Or.inl ⟨by rfl, by intro w hw; go_simp⟩) hS0 ?_
  try simp only [Act.put, List.setIfInBounds_toArray, List.set_cons_zero, List.set_cons_succ]
  refine wpAnyH_take (i := 1) (v := .slice (some ⟨g, o, none⟩) n cap) rfl (by kernel_rfl) (by kernel_rfl) (by kernel_rfl) (fun _ _ _ h => h) (Or.inl ⟨by rfl, by intro w hw; go_simp⟩) hS0 ?_
  try simp only [Act.put, List.setIfInBounds_toArray, List.set_cons_zero, List.set_cons_succ]
  refine wpAnyH_take (i := 2) (v := .int .i64 (k : Int)) rfl (by kernel_rfl) (by kernel_rfl) (by kernel_rfl) (fun _ _ _ h => h) (Or.inl ⟨by rfl, by intro w hw; go_simp⟩) hS0 ?_
  try simp only [Act.put, List.setIfInBounds_toArray, List.set_cons_zero, List.set_cons_succ]
  refine wpAnyH_take (i := 3) (v := .slice (some ⟨g, o, none⟩) k cap) rfl (by kernel_rfl) (by kernel_rfl) (by kernel_rfl) (fun _ _ _ h => h) (Or.inl ⟨by rfl, by intro w hw; have := hc1 w; go_simp⟩) hS0 ?_
  try simp only [Act.put, List.setIfInBounds_toArray, List.set_cons_zero, List.set_cons_succ]
  refine wpAnyH_take (i := 4) (v := .bool kn) rfl (by kernel_rfl) (by kernel_rfl) (by kernel_rfl) (fun _ _ _ h => h) (Or.inl ⟨by rfl, by intro w hw; go_simp⟩) hS0 ?_
  try simp only [Act.put, List.setIfInBounds_toArray, List.set_cons_zero, List.set_cons_succ]
  refine wpAnyH_take (i := 6) (v := .slice (some ⟨g, o, none⟩) n cap) rfl (by kernel_rfl) (by kernel_rfl) (by kernel_rfl) (fun _ _ _ h => h) (Or.inl ⟨by rfl, by intro w hw; go_simp⟩) hS0 ?_
  try simp only [Act.put, List.setIfInBounds_toArray, List.set_cons_zero, List.set_cons_succ]
  refine wpAnyH_take (i := 7) (v := .int .i64 (k : Int)) rfl (by kernel_rfl) (by kernel_rfl) (by kernel_rfl) (fun _ _ _ h => h) (Or.inl ⟨by rfl, by intro w hw; go_simp⟩) hS0 ?_
  try simp only [Act.put, List.setIfInBounds_toArray, List.set_cons_zero, List.set_cons_succ]
  refine wpAnyH_take (i := 8) (v := .slice (some ⟨g, o + k * 32, none⟩) (n - k) (cap - k)) rfl (by kernel_rfl) (by kernel_rfl) (by kernel_rfl) (fun _ _ _ h => h) (Or.inl ⟨by rfl, by intro w hw; have := hc2 w; go_simp⟩) hS0 ?_
  try simp only [Act.put, List.setIfInBounds_toArray, List.set_cons_zero, List.set_cons_succ]
  refine wpAnyH_ready (rs := [5]) (by kernel_rfl) (by simp) ?_
  refine AllReadyH.cons rfl (fun K' hK => ?_) AllReadyH.nil
  go_simp
  go_wp2_with (go_at_call 22; refine (QA'.out _ (NW1.out.tr nb)).mono ?_; rintro e2 w2 ⟨v2, rfl, o2, n2⟩)
  have m2 : Nw w1 w2 := Nw.tr nb n2
  have O2 : Hid (w2.ownsRow w.heap.size 24 32 v2 l.length (hsc l)) := ownsRow_base o2 (Nat.le_trans NW1.out.size nb.size)
  obtain ⟨va, vc, rfl⟩ := ownsRow_form o2
  refine hK.out _ _ trivial (fun hS0 => ?_)
  try simp only [Act.put, List.setIfInBounds_toArray, List.set_cons_zero, List.set_cons_succ]
  refine wpAnyH_ready (rs := [9]) (by kernel_rfl) (by simp) ?_
  refine AllReadyH.cons rfl (fun K' hK => ?_) AllReadyH.nil
  go_simp
  go_wp2_with (go_at_call 19; refine (QB'.out _ (NW1.out.tr m2)).mono ?_; rintro e3 w3 ⟨rfl, n3⟩)
  have m3 : Nw w1 w3 := Nw.tr m2 n3
  have O3 : Hid (w3.ownsRow w.heap.size 24 32 (.slice va l.length vc) l.length (hsc l)) := ownsRow_keep O2.out (fun g hg => n3.block g (O2.out.lt g hg).2 (fun f => f))
  refine hK.out _ _ trivial (fun hS0 => ?_)
  try simp only [Act.put, List.setIfInBounds_toArray, List.set_cons_zero, List.set_cons_succ]
  refine wpAnyH_ready (rs := [10]) (by kernel_rfl) (by simp) ?_
  refine AllReadyH.cons rfl (fun K' hK => ?_) AllReadyH.nil
  refine step_build1 rfl (.tmp 31) rfl (hbs A) rfl hRl ?_
  refine hK.out _ _ trivial (fun hS0 => ?_)
  try simp only [Act.put, List.setIfInBounds_toArray, List.set_cons_zero, List.set_cons_succ]
  refine wpAnyH_ready (rs := [11]) (by kernel_rfl) (by simp) ?_
  refine AllReadyH.cons rfl (fun K' hK => ?_) AllReadyH.nil
  refine step_two rfl (.tmp 27) (.tmp 32) 25 rfl w.heap.size 24 i0 (.agg z32) 32 32 Tryd.underlying25 hi hz0 hz1 hz2 z32_size (by decide) (.slice va l.length vc) l.length (hsc l) rfl (O3.out.alloc _) ⟨w3.heap.size, 0, none⟩ 1 1 (hbs A).toList rfl (by simp [hRl]) (hash_new _ _ _) (hbs_one _) (by have := HLL.out; unfold maxLen; omega) (by have := HLL.out; omega) (by have := NW1.out.size; have := m3.size; simp; omega) ?_
  intro v' w5 o5 t5
  have n5 : Nw w w5 := ((NW1.out.tr m3).alloc _).trans t5.fr (fun j hj q => by have := (O3.out.lt j q).1; omega)
  obtain ⟨xa, xc, rfl⟩ := ownsRow_form o5
  refine hK.out _ _ trivial (fun hS0 => ?_)
  try simp only [Act.put, List.setIfInBounds_toArray, List.set_cons_zero, List.set_cons_succ]
  refine wpAnyH_ready (rs := [12]) (by kernel_rfl) (by simp) ?_
  refine AllReadyH.cons rfl (fun K' hK => ?_) AllReadyH.nil
  go_simp
  refine hK.out _ _ trivial (fun hS0 => ?_)
  try simp only [Act.put, List.setIfInBounds_toArray, List.set_cons_zero, List.set_cons_succ]
  refine wpAnyH_done (by kernel_rfl) ?_ _
  go_wp2_with fail
  refine bodyPost_ret (v := .slice xa (l.length + 1) xc) (by simp [results, Tryd.results22]) rfl ⟨_, rfl, ?_, n5⟩
  rw [List.length_append, hsc_app, hsc_one]
  exact o5

set_option maxRecDepth 100000 in
set_option maxHeartbeats 2000000 in
theorem rsr (g o n cap k m mk : Nat) (kn : Bool) (w : World) (l : List (List UInt8)) (A : List UInt8) (hA : A.length = 32) (hll : l.length ≤ 100) (hn : 2 ≤ n) (hn2 : n ≤ 1048576) (hk : k = spl n) (hcap : n ≤ cap) (hm : m ≤ n) (hmk : m = k + mk) (hmn : m ≠ n) (hgt : k < m)
    (QA : ∀ W, Nw w W → Calls Tryd.prog 22 #[.int .i64 (mk : Int), .slice (some ⟨g, o + k * 32, none⟩) (n - k) (cap - k), .bool false] W fun r w' => Rwd W w' l r)
    (QB : ∀ W, Nw w W → Calls Tryd.prog 19 #[.slice (some ⟨g, o, none⟩) k cap] W fun e w' => e = .returned (.agg (hbs A)) ∧ Nw W w') :
    Calls Tryd.prog 22 #[.int .i64 (m : Int), .slice (some ⟨g, o, none⟩) n cap, .bool kn] w fun r w' => Rwd w w' (l ++ [A]) r := by
  obtain ⟨i0, hi, hz0, hz1, hz2⟩ := info_parts infoHs
  have QA' := show Hid (∀ W, Nw w W → Calls Tryd.prog 22 #[.int .i64 (mk : Int), .slice (some ⟨g, o + k * 32, none⟩) (n - k) (cap - k), .bool false] W fun r w' => Rwd W w' l r) from QA
  have QB' := show Hid (∀ W, Nw w W → Calls Tryd.prog 19 #[.slice (some ⟨g, o, none⟩) k cap] W fun e w' => e = .returned (.agg (hbs A)) ∧ Nw W w') from QB
  have QS := show Hid _ from half15_any n hn hn2
  have hkn := spl_lt hn
  rw [← hk] at QS hkn
  clear QA QB hk
  have hc1 := (fun W => cut_hh (some ⟨g, o, none⟩) n cap k (by omega) W)
  have hc2 := (fun W => cut_hl g o n cap k (by omega) (by omega) W)
  have HKN : Hid (k < n) := hkn
  have HCN : Hid (n ≤ cap) := hcap
  have hRl : (hbs A).size = 32 := by rw [hbs_size, hA]
  have hne : ((m : Int) == (n : Int)) = false := by simp; omega
  have hlt1 : ¬ (m : Int) ≤ (k : Int) := by omega
  have hsub : (m : Int) - (k : Int) = (mk : Int) := by omega
  have hwr : IntKind.i64.wrap (mk : Int) = (mk : Int) := by rw [IntKind.wrap_i64]; omega
  have HMK : Hid (m = k + mk) := hmk
  clear hmk
  have HLL : Hid (l.length ≤ 100) := hll
  clear hkn hcap hll hA
  go_enter Tryd.func22, Tryd.ntmps22
  go_wp2_with fail
  refine (QS.out _).mono ?_
  rintro e w1 ⟨rfl, h1⟩
  have NW1 : Hid (Nw w w1) := by rw [h1]; exact nwr w
  clear h1
  go_wp2_with fail
  have nb : Nw w1 w1.drew := (Fr.refl _ _).drew
  refine wp_region_held_drew (S := fun _ => True) (by kernel_rfl) trivial ?_
  intro hS0
  refine wpAnyH_take (i := 0) (v := .int .i64 (m : Int)) rfl (by kernel_rfl) (by kernel_rfl) (by kernel_rfl) (fun _ _ _ h => h) (Or.inl ⟨by rfl, by intro w hw; go_simp⟩) hS0 ?_
  try simp only [Act.put, List.setIfInBounds_toArray, List.set_cons_zero, List.set_cons_succ]
  refine wpAnyH_take (i := 1) (v := .int .i64 (k : Int)) rfl (by kernel_rfl) (by kernel_rfl) (by kernel_rfl) (fun _ _ _ h => h) (Or.inl ⟨by rfl, by intro w hw; go_simp⟩) hS0 ?_
  try simp only [Act.put, List.setIfInBounds_toArray, List.set_cons_zero, List.set_cons_succ]
  refine wpAnyH_take (i := 2) (v := .int .i64 (mk : Int)) rfl (by kernel_rfl) (by kernel_rfl) (by kernel_rfl) (fun _ _ _ h => h) (Or.inl ⟨by rfl, by intro w hw; go_simp⟩) hS0 ?_
  try simp only [Act.put, List.setIfInBounds_toArray, List.set_cons_zero, List.set_cons_succ]
  refine wpAnyH_take (i := 3) (v := .slice (some ⟨g, o, none⟩) n cap) rfl (by kernel_rfl) (by kernel_rfl) (by kernel_rfl) (fun _ _ _ h => h) (Or.inl ⟨by rfl, by intro w hw; go_simp⟩) hS0 ?_
  try simp only [Act.put, List.setIfInBounds_toArray, List.set_cons_zero, List.set_cons_succ]
  refine wpAnyH_take (i := 4) (v := .int .i64 (k : Int)) rfl (by kernel_rfl) (by kernel_rfl) (by kernel_rfl) (fun _ _ _ h => h) (Or.inl ⟨by rfl, by intro w hw; go_simp⟩) hS0 ?_
  try simp only [Act.put, List.setIfInBounds_toArray, List.set_cons_zero, List.set_cons_succ]
  refine wpAnyH_take (i := 5) (v := .slice (some ⟨g, o + k * 32, none⟩) (n - k) (cap - k)) rfl (by kernel_rfl) (by kernel_rfl) (by kernel_rfl) (fun _ _ _ h => h) (Or.inl ⟨by rfl, by intro w hw; have := hc2 w; go_simp⟩) hS0 ?_
  try simp only [Act.put, List.setIfInBounds_toArray, List.set_cons_zero, List.set_cons_succ]
  refine wpAnyH_take (i := 7) (v := .slice (some ⟨g, o, none⟩) n cap) rfl (by kernel_rfl) (by kernel_rfl) (by kernel_rfl) (fun _ _ _ h => h) (Or.inl ⟨by rfl, by intro w hw; go_simp⟩) hS0 ?_
  try simp only [Act.put, List.setIfInBounds_toArray, List.set_cons_zero, List.set_cons_succ]
  refine wpAnyH_take (i := 8) (v := .int .i64 (k : Int)) rfl (by kernel_rfl) (by kernel_rfl) (by kernel_rfl) (fun _ _ _ h => h) (Or.inl ⟨by rfl, by intro w hw; go_simp⟩) hS0 ?_
  try simp only [Act.put, List.setIfInBounds_toArray, List.set_cons_zero, List.set_cons_succ]
  refine wpAnyH_take (i := 9) (v := .slice (some ⟨g, o, none⟩) k cap) rfl (by kernel_rfl) (by kernel_rfl) (by kernel_rfl) (fun _ _ _ h => h) (Or.inl ⟨by rfl, by intro w hw; have := hc1 w; go_simp⟩) hS0 ?_
  try simp only [Act.put, List.setIfInBounds_toArray, List.set_cons_zero, List.set_cons_succ]
  refine wpAnyH_ready (rs := [6]) (by kernel_rfl) (by simp) ?_
  refine AllReadyH.cons rfl (fun K' hK => ?_) AllReadyH.nil
  go_simp
  go_wp2_with (go_at_call 22; refine (QA'.out _ (NW1.out.tr nb)).mono ?_; rintro e2 w2 ⟨v2, rfl, o2, n2⟩)
  have m2 : Nw w1 w2 := Nw.tr nb n2
  have O2 : Hid (w2.ownsRow w.heap.size 24 32 v2 l.length (hsc l)) := ownsRow_base o2 (Nat.le_trans NW1.out.size nb.size)
  obtain ⟨va, vc, rfl⟩ := ownsRow_form o2
  refine hK.out _ _ trivial (fun hS0 => ?_)
  try simp only [Act.put, List.setIfInBounds_toArray, List.set_cons_zero, List.set_cons_succ]
  refine wpAnyH_ready (rs := [10]) (by kernel_rfl) (by simp) ?_
  refine AllReadyH.cons rfl (fun K' hK => ?_) AllReadyH.nil
  go_simp
  go_wp2_with (go_at_call 19; refine (QB'.out _ (NW1.out.tr m2)).mono ?_; rintro e3 w3 ⟨rfl, n3⟩)
  have m3 : Nw w1 w3 := Nw.tr m2 n3
  have O3 : Hid (w3.ownsRow w.heap.size 24 32 (.slice va l.length vc) l.length (hsc l)) := ownsRow_keep O2.out (fun g hg => n3.block g (O2.out.lt g hg).2 (fun f => f))
  refine hK.out _ _ trivial (fun hS0 => ?_)
  try simp only [Act.put, List.setIfInBounds_toArray, List.set_cons_zero, List.set_cons_succ]
  refine wpAnyH_ready (rs := [11]) (by kernel_rfl) (by simp) ?_
  refine AllReadyH.cons rfl (fun K' hK => ?_) AllReadyH.nil
  refine step_build1 rfl (.tmp 44) rfl (hbs A) rfl hRl ?_
  refine hK.out _ _ trivial (fun hS0 => ?_)
  try simp only [Act.put, List.setIfInBounds_toArray, List.set_cons_zero, List.set_cons_succ]
  refine wpAnyH_ready (rs := [12]) (by kernel_rfl) (by simp) ?_
  refine AllReadyH.cons rfl (fun K' hK => ?_) AllReadyH.nil
  refine step_two rfl (.tmp 40) (.tmp 45) 25 rfl w.heap.size 24 i0 (.agg z32) 32 32 Tryd.underlying25 hi hz0 hz1 hz2 z32_size (by decide) (.slice va l.length vc) l.length (hsc l) rfl (O3.out.alloc _) ⟨w3.heap.size, 0, none⟩ 1 1 (hbs A).toList rfl (by simp [hRl]) (hash_new _ _ _) (hbs_one _) (by have := HLL.out; unfold maxLen; omega) (by have := HLL.out; omega) (by have := NW1.out.size; have := m3.size; simp; omega) ?_
  intro v' w5 o5 t5
  have n5 : Nw w w5 := ((NW1.out.tr m3).alloc _).trans t5.fr (fun j hj q => by have := (O3.out.lt j q).1; omega)
  obtain ⟨xa, xc, rfl⟩ := ownsRow_form o5
  refine hK.out _ _ trivial (fun hS0 => ?_)
  try simp only [Act.put, List.setIfInBounds_toArray, List.set_cons_zero, List.set_cons_succ]
  refine wpAnyH_ready (rs := [13]) (by kernel_rfl) (by simp) ?_
  refine AllReadyH.cons rfl (fun K' hK => ?_) AllReadyH.nil
  go_simp
  refine hK.out _ _ trivial (fun hS0 => ?_)
  try simp only [Act.put, List.setIfInBounds_toArray, List.set_cons_zero, List.set_cons_succ]
  refine wpAnyH_done (by kernel_rfl) ?_ _
  go_wp2_with fail
  refine bodyPost_ret (v := .slice xa (l.length + 1) xc) (by simp [results, Tryd.results22]) rfl ⟨_, rfl, ?_, n5⟩
  rw [List.length_append, hsc_app, hsc_one]
  exact o5

theorem rpath_nil (m n cap : Nat) (p : Option Addr) (w : World) (h : n = 1) : Calls Tryd.prog 20 #[.int .i64 (m : Int), .slice p n cap] w fun r w' => Rwd w w' [] r := by
  subst h
  go_enter Tryd.func20, Tryd.ntmps20
  go_wp2
  exact bodyPost_ret (v := .slice none 0 0) (by simp [results, Tryd.results20]) rfl ⟨_, rfl, World.ownsRow_nil _ _ _ _, nwr w⟩
theorem rsub_nil (m cap : Nat) (p : Option Addr) (w : World) : Calls Tryd.prog 22 #[.int .i64 (m : Int), .slice p m cap, .bool true] w fun r w' => Rwd w w' [] r := by
  have he : ((m : Int) == (m : Int)) = true := by simp
  go_enter Tryd.func22, Tryd.ntmps22
  go_wp2
  exact bodyPost_ret (v := .slice none 0 0) (by simp [results, Tryd.results22]) rfl ⟨_, rfl, World.ownsRow_nil _ _ _ _, nwr w⟩
/-- A row of one hash that was made as a literal. -/
theorem lit_row {w : World} {B : Nat} (A : List UInt8) (hA : A.length = 32) (hB : B ≤ w.heap.size) : (w.alloc (.cells (hbs A) 24)).ownsRow B 24 32 (.slice (some ⟨w.heap.size, 0, none⟩) 1 1) [A].length (hsc [A]) := by
  refine ⟨by simp [hsc, bc_len, hA], .inr ⟨w.heap.size, 1, hbs A, rfl, hB, heap_new _ _, by simp, by decide, by simp [hbs_size, hA], ?_⟩⟩
  simp only [hsc, hbs, List.flatMap_cons, List.flatMap_nil, List.append_nil]
  rw [List.take_of_length_le (by simp [bc_len, hA])]
set_option maxHeartbeats 1000000 in
theorem rsub_one (m cap : Nat) (p : Option Addr) (w : World) (A : List UInt8) (hA : A.length = 32) (QB : ∀ W, Nw w W → Calls Tryd.prog 19 #[.slice p m cap] W fun e w' => e = .returned (.agg (hbs A)) ∧ Nw W w') :
    Calls Tryd.prog 22 #[.int .i64 (m : Int), .slice p m cap, .bool false] w fun r w' => Rwd w w' [A] r := by
  have he : ((m : Int) == (m : Int)) = true := by simp
  have QB' := show Hid (∀ W, Nw w W → Calls Tryd.prog 19 #[.slice p m cap] W fun e w' => e = .returned (.agg (hbs A)) ∧ Nw W w') from QB
  have hRl : (hbs A).size = 32 := by rw [hbs_size, hA]
  have HA : Hid (A.length = 32) := hA
  clear QB hA
  go_enter Tryd.func22, Tryd.ntmps22
  go_wp2_with fail
  refine (QB'.out _ (nwr w)).mono ?_
  rintro e w1 ⟨rfl, n1⟩
  go_wp2_with (refine wp_build1 rfl (.tmp 14) rfl (hbs A) rfl hRl ?_)
  exact bodyPost_ret (v := .slice (some ⟨w1.heap.size, 0, none⟩) 1 1) (by simp [results, Tryd.results22]) rfl ⟨_, rfl, lit_row A HA.out n1.size, n1.alloc _⟩
theorem run_append_none {P : Program} (w : World) (t ty e : TypeId) (i : TypeInfo) (ht : P.underlying t = some (.slice e)) (hi : P.info? e = some i) {base size : Nat} {v : Value} {n : Nat} {xs : List Value} (hown : w.ownsRow base e size v n xs) :
    (Builtin.append_ #[t, t] ty #[v, .slice none 0 0]).run P w = .ok v w := by
  have hsrc : Src P i.size t (.slice none 0 0) 0 [] w := Src.ofNil w ht 0
  rcases hown.2 with ⟨rfl, rfl⟩ | ⟨g, cap, cur, rfl, _, _, hnc, _⟩
  · rcases hsrc.kind with ⟨e', hk⟩ | hk <;> simp [Builtin.append_, run_underlying ht, run_underlying hk, sizeOf, typeInfo, hi, hsrc.len, hsrc.cells, storeCells]
  · have hr := run_append_room_src (P := P) w t t ty e i ht hi g 0 n cap (.slice none 0 0) 0 [] hsrc (by omega) (fun j hj => by simp at hj) (fun j hj => by simp at hj)
    simpa [World.setCells] using hr
theorem step_app_none {P : Program} {w : World} {ops : Array Oper} {o : Oper} {a : Act} {K : Act → World → Prop} {Q : Exit → Act → World → Prop} {E : Prop} (hg : o.guard = none) (s x : Operand) (t : TypeId)
    (ho : o.op = .call { callee := .builtin .append, args := #[s, x], argTypes := #[t, t] }) (e : TypeId) (i : TypeInfo) (ht : P.underlying t = some (.slice e)) (hi : P.info? e = some i)
    {base size : Nat} (v : Value) {n : Nat} {xs : List Value} (hs : a.eval s = v) (hown : w.ownsRow base e size v n xs) (hx : a.eval x = .slice none 0 0)
    (h : K (a.put o.dst v) w) : if Region.wanted o (yielded ops a.tmps) = true then Oper.wp P o a w K Q else E := by
  have hw : Region.wanted o (yielded ops a.tmps) = true := by simp [Region.wanted, hg]
  rw [if_pos hw]
  have hr := run_append_none (P := P) w t o.type e i ht hi hown
  unfold Oper.wp execOp
  simp only [ho, resolve, invoke, builtin, Sem.run_bind, Sem.run_pure, Result.andThen_ok, List.map_toArray, List.map_cons, List.map_nil, hs, hx, hr]
  exact h
theorem Rwd.cast {w w' : World} {l m : List (List UInt8)} {r : Ending} (h : Rwd w w' l r) (e : l = m) : Rwd w w' m r := e ▸ h
/-- The two parts of a stretch's leaves in memory. -/
theorem parts_at (L : List (List UInt8)) {b e : Nat} (h2 : 2 ≤ e - b) (he : e ≤ L.length) {p : Option Addr} {cap : Nat} {w : World} (hc : e - b ≤ cap) (hp : Hrs w p (sbh L b e)) : ∃ g o, p = some ⟨g, o, none⟩ ∧ Hrs w (some ⟨g, o, none⟩) (sbh L b (b + spl (e - b))) ∧ Hrs w (some ⟨g, o + spl (e - b) * 32, none⟩) (sbh L (b + spl (e - b)) e) := by
  have hl : (sbh L b e).length = e - b := by rw [sbh_len]; omega
  have hk := spl_lt h2
  have hk0 := spl_pos (e - b)
  obtain ⟨x, hx⟩ : ∃ x, (sbh L b e)[0]? = some x := ⟨_, List.getElem?_eq_getElem (by omega)⟩
  obtain ⟨g, o, rfl, _⟩ := hp 0 x hx
  obtain ⟨s1, s2⟩ := hp.halves (spl (e - b))
  rw [sbh_take (by omega)] at s1
  rw [sbh_drop] at s2
  exact ⟨g, o, rfl, s1, s2⟩
section
variable (L : List (List UInt8)) (hLl : L.length ≤ 1048576) (hLs : ∀ x ∈ L, x.length = 32)
include hLl hLs
theorem mth_at {b e : Nat} (he : e ≤ L.length) {p : Option Addr} {cap : Nat} {w : World} (hLd : Laid w) (hc : e - b ≤ cap) (hp : Hrs w p (sbh L b e)) : ∀ W, Nw w W → Calls Tryd.prog 19 #[.slice p (e - b) cap] W fun r w' => r = .returned (.agg (hbs (hshp L (b, e)))) ∧ Nw W w' := fun W hW => by
  have hl : (sbh L b e).length = e - b := by rw [sbh_len]; omega
  have q := mth15_any (sbh L b e).length (sbh L b e) p cap W (Nat.le_refl _) (by omega) (fun z hz => hLs z (sbh_mem hz)) (by omega) (hp.nw (fun z hz => hLs z (sbh_mem hz)) hW) (hLd.nw hW)
  rw [hl] at q
  exact q
theorem rpath_any : ∀ (N i b e : Nat) (p : Option Addr) (cap : Nat) (w : World), e - b ≤ N → b ≤ i → i < e → e ≤ L.length → e - b ≤ cap → Hrs w p (sbh L b e) → Laid w →
    Calls Tryd.prog 20 #[.int .i64 ((i - b : Nat) : Int), .slice p (e - b) cap] w fun r w' => Rwd w w' ((pth i b e).map (hshp L)) r := by
  intro N
  induction N with
  | zero => intro i b e p cap w h1 h2 h3; omega
  | succ N ih =>
    intro i b e p cap w hN hb he hel hc hp hLd
    by_cases h2 : 2 ≤ e - b
    · have hk := spl_lt h2
      have hk0 := spl_pos (e - b)
      obtain ⟨g, o, rfl, s1, s2⟩ := parts_at L h2 hel hc hp
      by_cases hi : i < b + spl (e - b)
      · rw [pth_left h2 hi, List.map_append]
        refine rpl g o (e - b) cap (spl (e - b)) (i - b) w _ _ (hshp_len L hLs _) (by rw [List.length_map]; have := pth_len 63 i b (b + spl (e - b)) (by rw [p63]; omega); omega) h2 (by omega) rfl hc (by omega) (by omega) (fun W hW => ?_) (fun W hW => ?_)
        · have q := ih i b (b + spl (e - b)) (some ⟨g, o, none⟩) cap W (by omega) hb hi (by omega) (by omega) (s1.nw (fun z hz => hLs z (sbh_mem hz)) hW) (hLd.nw hW)
          rw [Nat.add_sub_cancel_left] at q
          exact q
        · have q := mth_at L hLl hLs (b := b + spl (e - b)) hel hLd (cap := cap - spl (e - b)) (by omega) s2 W hW
          rw [← Nat.sub_sub] at q
          exact q
      · rw [pth_right h2 hi, List.map_append]
        refine rpr g o (e - b) cap (spl (e - b)) (i - b) (i - (b + spl (e - b))) w _ _ (hshp_len L hLs _) (by rw [List.length_map]; have := pth_len 63 i (b + spl (e - b)) e (by rw [p63]; omega); omega) h2 (by omega) rfl hc (by omega) (by omega) (fun W hW => ?_) (fun W hW => ?_)
        · have q := ih i (b + spl (e - b)) e (some ⟨g, o + spl (e - b) * 32, none⟩) (cap - spl (e - b)) W (by omega) (by omega) he hel (by omega) (s2.nw (fun z hz => hLs z (sbh_mem hz)) hW) (hLd.nw hW)
          rw [show e - (b + spl (e - b)) = e - b - spl (e - b) by omega] at q
          exact q
        · have q := mth_at L hLl hLs (b := b) (e := b + spl (e - b)) (by omega) hLd (cap := cap) (by omega) s1 W hW
          rw [Nat.add_sub_cancel_left] at q
          exact q
    · rw [pth_one h2]
      exact rpath_nil (i - b) (e - b) cap p w (by omega)
theorem rsub_any : ∀ (N o b e : Nat) (kn : Bool) (p : Option Addr) (cap : Nat) (w : World), e - b ≤ N → b < o → o ≤ e → e ≤ L.length → e - b ≤ cap → Hrs w p (sbh L b e) → Laid w →
    Calls Tryd.prog 22 #[.int .i64 ((o - b : Nat) : Int), .slice p (e - b) cap, .bool kn] w fun r w' => Rwd w w' ((prf o b e kn).map (hshp L)) r := by
  intro N
  induction N with
  | zero => intro o b e kn p cap w h1 h2 h3; omega
  | succ N ih =>
    intro o b e kn p cap w hN hb he hel hc hp hLd
    by_cases hq : o = e
    · subst hq
      cases kn with
      | true => rw [prf_known]; exact rsub_nil _ _ _ _
      | false => rw [prf_whole]; exact rsub_one _ _ _ _ _ (hshp_len L hLs _) (mth_at L hLl hLs hel hLd hc hp)
    · have h2 : 2 ≤ e - b := by omega
      have hk := spl_lt h2
      have hk0 := spl_pos (e - b)
      obtain ⟨g, of, rfl, s1, s2⟩ := parts_at L h2 hel hc hp
      by_cases hi : o ≤ b + spl (e - b)
      · rw [prf_left h2 hq hi, List.map_append]
        refine rsl g of (e - b) cap (spl (e - b)) (o - b) kn w _ _ (hshp_len L hLs _) (by rw [List.length_map]; have := prf_len 63 o b (b + spl (e - b)) kn (by rw [p63]; omega) hb hi; omega) h2 (by omega) rfl hc (by omega) (by omega) (by omega) (fun W hW => ?_) (fun W hW => ?_)
        · have q := ih o b (b + spl (e - b)) kn (some ⟨g, of, none⟩) cap W (by omega) hb hi (by omega) (by omega) (s1.nw (fun z hz => hLs z (sbh_mem hz)) hW) (hLd.nw hW)
          rw [Nat.add_sub_cancel_left] at q
          exact q
        · have q := mth_at L hLl hLs (b := b + spl (e - b)) hel hLd (cap := cap - spl (e - b)) (by omega) s2 W hW
          rw [← Nat.sub_sub] at q
          exact q
      · rw [prf_right h2 hq hi, List.map_append]
        refine rsr g of (e - b) cap (spl (e - b)) (o - b) (o - (b + spl (e - b))) kn w _ _ (hshp_len L hLs _) (by rw [List.length_map]; have := prf_len 63 o (b + spl (e - b)) e false (by rw [p63]; omega) (by omega) he; omega) h2 (by omega) rfl hc (by omega) (by omega) (by omega) (by omega) (fun W hW => ?_) (fun W hW => ?_)
        · have q := ih o (b + spl (e - b)) e false (some ⟨g, of + spl (e - b) * 32, none⟩) (cap - spl (e - b)) W (by omega) (by omega) he hel (by omega) (s2.nw (fun z hz => hLs z (sbh_mem hz)) hW) (hLd.nw hW)
          rw [show e - (b + spl (e - b)) = e - b - spl (e - b) by omega] at q
          exact q
        · have q := mth_at L hLl hLs (b := b) (e := b + spl (e - b)) (by omega) hLd (cap := cap) (by omega) s1 W hW
          rw [Nat.add_sub_cancel_left] at q
          exact q
end
end Go.Proofs.YtaeocbdphfkflaaDoor
