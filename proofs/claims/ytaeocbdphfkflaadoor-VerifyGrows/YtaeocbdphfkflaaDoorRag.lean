/- The document's words of a block. -/
import Derived.Test.YtaeocbdphfkflaaDoorPg
namespace Go.Proofs.YtaeocbdphfkflaaDoor.Rf
open Go.RowKit
set_option linter.unusedVariables false
set_option linter.unusedSimpArgs false

set_option maxRecDepth 100000 in
set_option maxHeartbeats 1000000 in
theorem schedule_any (g o c : Nat) (B : Nat → Nat) (hB : ∀ i, i < 64 → B i < 256) (w : World) (hb : ∀ i, i < 64 → w.cell? ⟨g, o + i, none⟩ = some (.int .u8 (B i : Nat))) :
    Calls Tryd.prog 72 #[.slice (some ⟨g, o, none⟩) 64 c] w fun e w' => e = .returned (.agg (wcs B 64)) ∧ Nw w w' := by
  have HB : Hid (∀ i, i < 64 → B i < 256) := hB
  have Hb : Hid (∀ i, i < 64 → w.cell? ⟨g, o + i, none⟩ = some (.int .u8 (B i : Nat))) := hb
  clear hB hb
  go_enter Tryd.func72, Tryd.ntmps72
  go_wp2
  go_loopw [4] (fun i wr => ∃ k : Nat, k ≤ 16 ∧ i = .int .i64 k ∧ Nw w wr ∧ wr.heap[w.heap.size]? = some (.cells z64 126 (0, 0)) ∧ wr.heap[w.heap.size + 1]? = some (.cells (wcs B k) 126 (0, 0))) (fun i _ => 16 - (intOf i).toNat)
  case atStart =>
    refine ⟨0, by omega, rfl, (((Fr.refl _ _).alloc _).alloc _), ?_, ?_⟩
    · exact ((Below.heap_alloc _ _ _ (by simp)).trans (heap_new w _)).trans (by kernel_rfl)
    · rw [wcs_0]
      refine (heap_next w _ _).trans (by kernel_rfl)
  case round =>
    obtain ⟨k, hk, rfl, hnw, hz, hc⟩ := hrel
    by_cases hlt : k < 16
    · have hki : (k : Int) < 16 := by omega
      have hk64 : (k : Int) < 64 := by omega
      have hWl : Hid (Wf B k = wd (B (4 * k)) (B (4 * k + 1)) (B (4 * k + 2)) (B (4 * k + 3))) := Wf_lo B k hlt
      have c0 := hnw.cellOf (Hb.out (4 * k) (by omega))
      have c1 := hnw.cellOf (Hb.out (4 * k + 1) (by omega))
      have c2 := hnw.cellOf (Hb.out (4 * k + 2) (by omega))
      have c3 := hnw.cellOf (Hb.out (4 * k + 3) (by omega))
      have l0 := HB.out (4 * k) (by omega)
      have l1 := HB.out (4 * k + 1) (by omega)
      have l2 := HB.out (4 * k + 2) (by omega)
      have l3 := HB.out (4 * k + 3) (by omega)
      generalize B (4 * k) = b0 at c0 l0 hWl
      generalize B (4 * k + 1) = b1 at c1 l1 hWl
      generalize B (4 * k + 2) = b2 at c2 l2 hWl
      generalize B (4 * k + 3) = b3 at c3 l3 hWl
      obtain ⟨q0, hq0⟩ : ∃ q, q = 4 * k := ⟨_, rfl⟩
      obtain ⟨q1, hq1⟩ : ∃ q, q = 4 * k + 1 := ⟨_, rfl⟩
      obtain ⟨q2, hq2⟩ : ∃ q, q = 4 * k + 2 := ⟨_, rfl⟩
      obtain ⟨q3, hq3⟩ : ∃ q, q = 4 * k + 3 := ⟨_, rfl⟩
      rw [← hq0] at c0
      rw [← hq1] at c1
      rw [← hq2] at c2
      rw [← hq3] at c3
      have e0 : 4 * (k : Int) = (q0 : Int) := by omega
      have e1 : (q0 : Int) + 1 = (q1 : Int) := by omega
      have e2 : (q0 : Int) + 2 = (q2 : Int) := by omega
      have e3 : (q0 : Int) + 3 = (q3 : Int) := by omega
      have m0 : (q0 : Int) < 64 := by omega
      have m1 : (q1 : Int) < 64 := by omega
      have m2 : (q2 : Int) < 64 := by omega
      have m3 : (q3 : Int) < 64 := by omega
      clear hq0 hq1 hq2 hq3
      obtain ⟨o1, o2, o3⟩ := wd_or b0 b1 b2 b3 l0 l1 l2 l3
      have o4 : Hid (bits .or .u32 (bits .or .u32 (bits .or .u32 ((b0 : Int) * 16777216) ((b1 : Int) * 65536)) ((b2 : Int) * 256)) (b3 : Int) = ((Wf B k : Nat) : Int)) := by
        rw [show (b0 : Int) * 16777216 = ((b0 * 16777216 : Nat) : Int) by omega, show (b1 : Int) * 65536 = ((b1 * 65536 : Nat) : Int) by omega, show (b2 : Int) * 256 = ((b2 * 256 : Nat) : Int) by omega]
        unfold Hid
        rw [o1, o2, o3, hWl.out]
      clear o1 o2 o3
      have hcs : wr.cell? ⟨w.heap.size + 1, k, none⟩ = some (u32v 0) := (cell_of hc k).trans (by rw [wcs, Array.getElem?_ofFn, dif_pos (by omega), if_neg (by simp)])
      have hfz : wr.frozen? ⟨w.heap.size + 1, k, none⟩ = false := frozen_of hc k
      go_wp2
      go_region
      go_wp2
      rw [o4.out]
      refine ⟨⟨k + 1, by omega, by go_num, ((hnw.setCell _ _ (fun h => absurd h (by simp))).drew), ?_, ?_⟩, by simp [intOf]; omega⟩
      · exact (heap_set_ne (by omega) _).trans hz
      · rw [← wcs_set B k (by omega)]
        exact heap_set hc _
    · have H16 : Hid (k = 16) := by unfold Hid; omega
      have hge : ¬ (k : Int) < 16 := by omega
      clear hlt
      go_wp2
      go_loopw [5] (fun i wq => ∃ k : Nat, 16 ≤ k ∧ k ≤ 64 ∧ i = .int .i64 k ∧ Nw w wq ∧ wq.heap[w.heap.size]? = some (.cells z64 126 (0, 0)) ∧ wq.heap[w.heap.size + 1]? = some (.cells (wcs B k) 126 (0, 0))) (fun i _ => 64 - (intOf i).toNat)
      case atStart => exact ⟨16, by omega, by omega, rfl, hnw, hz, by rw [← H16.out]; exact hc⟩
      case round =>
        clear hnw hz hc
        obtain ⟨k0, hk0⟩ : ∃ x, x = k := ⟨_, rfl⟩
        subst hk0
        obtain ⟨k, hk16, hk, rfl, hnw, hz, hc⟩ := hrel
        by_cases hlt : k < 64
        · have hki : (k : Int) < 64 := by omega
          have h2 := (cell_of hc (k - 2)).trans (wcs_get B k (k - 2) (by omega) hk)
          have h7 := (cell_of hc (k - 7)).trans (wcs_get B k (k - 7) (by omega) hk)
          have h15 := (cell_of hc (k - 15)).trans (wcs_get B k (k - 15) (by omega) hk)
          have h16 := (cell_of hc (k - 16)).trans (wcs_get B k (k - 16) (by omega) hk)
          have hW : Hid (Wf B k = ad (ad (ad (Wf B (k - 16)) (s0 (Wf B (k - 15)))) (Wf B (k - 7))) (s1 (Wf B (k - 2)))) := Wf_hi B k hk16 hlt
          have l2 := Wf_lt B HB.out (k - 2) (by omega)
          have l7 := Wf_lt B HB.out (k - 7) (by omega)
          have l15 := Wf_lt B HB.out (k - 15) (by omega)
          have l16 := Wf_lt B HB.out (k - 16) (by omega)
          generalize Wf B (k - 2) = y at h2 l2 hW
          generalize Wf B (k - 15) = x at h15 l15 hW
          generalize Wf B (k - 7) = u at h7 l7 hW
          generalize Wf B (k - 16) = v at h16 l16 hW
          have hcs : wr.cell? ⟨w.heap.size + 1, k, none⟩ = some (u32v 0) := (cell_of hc k).trans (by rw [wcs, Array.getElem?_ofFn, dif_pos (by omega), if_neg (by simp)])
          have hfz : wr.frozen? ⟨w.heap.size + 1, k, none⟩ = false := frozen_of hc k
          have n2 : ((k : Int) - 2).toNat = k - 2 := by omega
          have n15 : ((k : Int) - 15).toNat = k - 15 := by omega
          have i2 : (0 : Int) ≤ (k : Int) - 2 := by omega
          have i15 : (0 : Int) ≤ (k : Int) - 15 := by omega
          have j2 : (k : Int) - 2 < 64 := by omega
          have j15 : (k : Int) - 15 < 64 := by omega
          have x1 := b_xo (rr x 7) (rr x 18) (rr_lt _ _ l15) (rr_lt _ _ l15)
          have x2 : bits .xor .u32 ((xo (rr x 7) (rr x 18) : Nat) : Int) ((x : Int) / 8) = ((s0 x : Nat) : Int) := b_xo _ _ (xo_lt _ _ (rr_lt _ _ l15) (rr_lt _ _ l15)) (dv_lt _ _ l15)
          have y1 := b_xo (rr y 17) (rr y 19) (rr_lt _ _ l2) (rr_lt _ _ l2)
          have y2 : bits .xor .u32 ((xo (rr y 17) (rr y 19) : Nat) : Int) ((y : Int) / 1024) = ((s1 y : Nat) : Int) := b_xo _ _ (xo_lt _ _ (rr_lt _ _ l2) (rr_lt _ _ l2)) (dv_lt _ _ l2)
          have a1 := b_ad v (s0 x)
          have a2 := b_ad (ad v (s0 x)) u
          have a3 := b_ad (ad (ad v (s0 x)) u) (s1 y)
          have b1 := w_ad v (s0 x)
          have b2 := w_ad (ad v (s0 x)) u
          have b3 := w_ad (ad (ad v (s0 x)) u) (s1 y)
          go_wp2
          obtain ⟨q7, hq7⟩ : ∃ q, q = k - 7 := ⟨_, rfl⟩
          obtain ⟨q16, hq16⟩ : ∃ q, q = k - 16 := ⟨_, rfl⟩
          rw [← hq7] at h7
          rw [← hq16] at h16
          have w7 : IntKind.i64.wrap ((k : Int) - 7) = (q7 : Int) := by rw [IntKind.wrap_i64]; omega
          have w16 : IntKind.i64.wrap ((k : Int) - 16) = (q16 : Int) := by rw [IntKind.wrap_i64]; omega
          have j7 : (q7 : Int) < 64 := by omega
          have j16 : (q16 : Int) < 64 := by omega
          have d7 : q7 ≠ k := by omega
          have d16 : q16 ≠ k := by omega
          clear hq7 hq16
          go_region_held3 (fun w' => w'.cell? ⟨w.heap.size + 1, q16, none⟩ = some (u32v v) ∧ w'.cell? ⟨w.heap.size + 1, q7, none⟩ = some (u32v u)) (first | exact ⟨h16, h7⟩ | exact ⟨(cell_set_off d16 _).trans h16, (cell_set_off d7 _).trans h7⟩) ((go_at_call 73; refine (turn_any _ _ (by first | exact l15 | exact l2) (by decide) _).mono ?_; rintro e1 w1 ⟨rfl, kk, rfl⟩))
          go_wp2
          rw [← hW.out]
          refine ⟨⟨k + 1, by omega, by omega, by go_num, ((hnw.drewN _).setCell _ _ (fun h => absurd h (by simp))), ?_, ?_⟩, by simp [intOf]; omega⟩
          · exact (heap_set_ne (by omega) _).trans hz
          · rw [← wcs_set B k (by omega)]
            exact heap_set hc _
        · obtain rfl : k = 64 := by omega
          go_wp2_with first
            | (refine wp_load_agg rfl (.tmp 3) 126 64 rfl Tryd.isAgg126 Tryd.sizeOf126 (w.heap.size + 1) 0 rfl (wcs B 64) 126 (0, 0) hc (wcs B 64) (wcs_size _ _) (fun j _ => by rw [Nat.zero_add]) ?_)
            | (refine wp_store_agg rfl (.tmp 2) (.tmp 88) 126 64 rfl Tryd.sizeOf126 w.heap.size 0 rfl z64 126 hz (wcs B 64) rfl (wcs_size _ _) (wcs_one B 64) (by decide) (wcs B 64) (by rw [z64_drop]; simp) ?_; intro w4 j4 f4 z4)
          exact bodyPost_ret (results_cell Tryd.results72 Tryd.isAgg126 Tryd.sizeOf126 rfl j4 (wcs_size _ _)) rfl ⟨rfl, hnw.trans f4 (fun k hk q => by omega)⟩
end Go.Proofs.YtaeocbdphfkflaaDoor.Rf
namespace Go.Proofs.YtaeocbdphfkflaaDoor.Rf
open Go.RowKit
set_option linter.unusedVariables false
set_option linter.unusedSimpArgs false

def ks : Array Value := Array.ofFn (n := 64) fun i => u32v (Kc i.val)
theorem ks_size : ks.size = 64 := by simp [ks]
theorem ks_get (i : Nat) (h : i < 64) : ks[i]? = some (u32v (Kc i)) := by rw [ks, Array.getElem?_ofFn, dif_pos h]
theorem ks_one : ∀ u ∈ ks.toList, u.oneCell' = true := by
  intro u hu
  have hu2 : u ∈ ks := by simpa using hu
  obtain ⟨i, hi, rfl⟩ := Array.mem_iff_getElem.1 hu2
  simp [ks, Value.oneCell']
set_option maxRecDepth 100000 in
set_option maxHeartbeats 1000000 in
theorem table_any (w : World) : Calls Tryd.prog 64 #[] w fun e w' => e = .returned (.agg ks) ∧ Nw w w' := by
  go_enter Tryd.func64, Tryd.ntmps64
  go_wp2_with (refine wp_store_agg rfl (.tmp 0) (.tmp 1) 126 64 rfl Tryd.sizeOf126 w.heap.size 0 rfl _ 126 (heap_new _ _) ks (by kernel_rfl) ks_size ks_one (by decide) ks (by simp) ?_; intro w4 j4 f4 z4)
  exact bodyPost_ret (results_cell Tryd.results64 Tryd.isAgg126 Tryd.sizeOf126 rfl j4 ks_size) rfl ⟨rfl, ((Fr.refl _ _).alloc _).trans f4 (fun k hk q => by omega)⟩
set_option maxRecDepth 100000 in
set_option maxHeartbeats 1000000 in
theorem start_any (w : World) : Calls Tryd.prog 65 #[] w fun e w' => e = .returned (.agg (vals H0)) ∧ Nw w w' := by
  go_enter Tryd.func65, Tryd.ntmps65
  go_wp2_with (refine wp_store_agg rfl (.tmp 0) (.tmp 1) 99 8 rfl Tryd.sizeOf99 w.heap.size 0 rfl _ 99 (heap_new _ _) (vals H0) (by kernel_rfl) rfl (vals_one _) (by decide) (vals H0) (by simp) ?_; intro w4 j4 f4 z4)
  exact bodyPost_ret (results_cell Tryd.results65 Tryd.isAgg99 Tryd.sizeOf99 rfl j4 rfl) rfl ⟨rfl, ((Fr.refl _ _).alloc _).trans f4 (fun k hk q => by omega)⟩
end Go.Proofs.YtaeocbdphfkflaaDoor.Rf
namespace Go.Proofs.YtaeocbdphfkflaaDoor.Rf
open Go.RowKit
set_option linter.unusedVariables false
set_option linter.unusedSimpArgs false

/-- Eight cells written, one behind the other. -/
theorem set8 {W : World} {b : Nat} {c : Array Value} {t : TypeId} {f : Nat × Nat} (h : W.heap[b]? = some (.cells c t f)) (hc : c.size = 8) (x0 x1 x2 x3 x4 x5 x6 x7 : Value) :
    ∃ w4, w4 = (((((((W.setCell ⟨b, 0, none⟩ x0).setCell ⟨b, 1, none⟩ x1).setCell ⟨b, 2, none⟩ x2).setCell ⟨b, 3, none⟩ x3).setCell ⟨b, 4, none⟩ x4).setCell ⟨b, 5, none⟩ x5).setCell ⟨b, 6, none⟩ x6).setCell ⟨b, 7, none⟩ x7 ∧ w4.heap[b]? = some (.cells #[x0, x1, x2, x3, x4, x5, x6, x7] t f) ∧ Fr (fun k => k = b) W w4 := by
  refine ⟨_, rfl, ?_, ?_⟩
  · have e : (((((((c.setIfInBounds 0 x0).setIfInBounds 1 x1).setIfInBounds 2 x2).setIfInBounds 3 x3).setIfInBounds 4 x4).setIfInBounds 5 x5).setIfInBounds 6 x6).setIfInBounds 7 x7 = #[x0, x1, x2, x3, x4, x5, x6, x7] := by
      obtain ⟨l⟩ := c
      have hl : l.length = 8 := by simpa using hc
      match l, hl with
      | [_, _, _, _, _, _, _, _], _ => simp only [List.setIfInBounds_toArray, List.set_cons_zero, List.set_cons_succ]
    rw [← e]
    exact heap_set (heap_set (heap_set (heap_set (heap_set (heap_set (heap_set (heap_set h x0) x1) x2) x3) x4) x5) x6) x7
  · iterate 8 refine Fr.setCell ?_ _ _ (fun _ => rfl)
    exact Fr.refl _ W
/-- The words, the first j of them with what was ahead added. -/
def part8 (s T : V8) (j : Nat) : Array Value := Array.ofFn (n := 8) fun i => u32v (if i.val < j then ad ((wl T).getD i.val 0) ((wl s).getD i.val 0) else (wl T).getD i.val 0)
theorem part8_size (s T : V8) (j : Nat) : (part8 s T j).size = 8 := by simp [part8]
theorem part8_0 (s T : V8) : part8 s T 0 = vals T := by
  apply Array.ext
  · rw [part8_size]; rfl
  · intro i h1 h2
    have h := vals_at T i (by simpa [part8] using h1)
    rw [Array.getElem?_eq_getElem h2] at h
    rw [Option.some.inj h]
    simp [part8]
theorem ad_comm (x y : Nat) : ad x y = ad y x := by unfold ad; rw [Nat.add_comm]
theorem part8_8 (s T : V8) : part8 s T 8 = vals (add8 s T) := by
  apply Array.ext
  · rw [part8_size]; rfl
  · intro i h1 h2
    have hi : i < 8 := by simpa [part8] using h1
    have h := vals_at (add8 s T) i hi
    rw [Array.getElem?_eq_getElem h2] at h
    rw [Option.some.inj h]
    have e : (wl (add8 s T)).getD i 0 = ad ((wl T).getD i 0) ((wl s).getD i 0) := by
      have : i = 0 ∨ i = 1 ∨ i = 2 ∨ i = 3 ∨ i = 4 ∨ i = 5 ∨ i = 6 ∨ i = 7 := by omega
      rcases this with rfl | rfl | rfl | rfl | rfl | rfl | rfl | rfl <;> exact ad_comm _ _
    rw [e]
    simp [part8, hi]
theorem part8_at (s T : V8) (j : Nat) (h : j < 8) : (part8 s T j)[j]? = some (u32v ((wl T).getD j 0)) := by
  rw [part8, Array.getElem?_ofFn, dif_pos h, if_neg (by simp)]
theorem part8_set (s T : V8) (j : Nat) (h : j < 8) : (part8 s T j).setIfInBounds j (u32v (ad ((wl T).getD j 0) ((wl s).getD j 0))) = part8 s T (j + 1) := by
  apply Array.ext
  · simp [part8]
  · intro i h1 h2
    rw [Array.getElem_setIfInBounds (by simpa using h1)]
    simp only [part8, Array.getElem_ofFn]
    by_cases h : j = i
    · subst h; simp
    · rw [if_neg h]
      have : (i < j + 1) = (i < j) := by apply propext; omega
      simp only [this]
set_option maxRecDepth 100000 in
set_option maxHeartbeats 2000000 in
theorem block_any (s : V8) (hs : s.ok) (g o c : Nat) (B : Nat → Nat) (hB : ∀ i, i < 64 → B i < 256) (w : World) (hb : ∀ i, i < 64 → w.cell? ⟨g, o + i, none⟩ = some (.int .u8 (B i : Nat))) :
    Calls Tryd.prog 66 #[.agg (vals s), .slice (some ⟨g, o, none⟩) 64 c, .agg ks] w fun e w' => e = .returned (.agg (vals (add8 s (rounds Kc (Wf B) s 64)))) ∧ Nw w w' := by
  obtain ⟨R, hR⟩ : ∃ R, R = add8 s (rounds Kc (Wf B) s 64) := ⟨_, rfl⟩
  rw [← hR]
  have HR : Hid (R = add8 s (rounds Kc (Wf B) s 64)) := hR
  clear hR
  obtain ⟨RV, hRV⟩ : ∃ x, x = vals R := ⟨_, rfl⟩
  rw [← hRV]
  have HRV : Hid (RV = vals R) := hRV
  clear hRV
  obtain ⟨V0, hV0⟩ : ∃ x, x = vals s := ⟨_, rfl⟩
  have HV0 : Hid (V0 = vals s) := hV0
  have hv8 : V0.size = 8 := by rw [hV0]; rfl
  have hk64 := ks_size
  rw [← hV0]
  obtain ⟨KS, hKS⟩ : ∃ x, x = ks := ⟨_, rfl⟩
  have HKS : Hid (KS = ks) := hKS
  rw [← hKS] at hk64 ⊢
  clear hV0 hKS
  go_enter Tryd.func66, Tryd.ntmps66
  go_wp2_with fail
  have n0 : Nw w (((w.alloc (.cells V0 99)).alloc (.cells KS 126)).alloc (.cells z8 99)) := (((Fr.refl _ _).alloc _).alloc _).alloc _
  have hh : (((w.alloc (.cells V0 99)).alloc (.cells KS 126)).alloc (.cells z8 99)).heap[w.heap.size]? = some (.cells V0 99 (0, 0)) := (Below.heap_alloc _ _ _ (by simp; omega)).trans ((Below.heap_alloc _ _ _ (by simp)).trans (heap_new w _))
  have hk : (((w.alloc (.cells V0 99)).alloc (.cells KS 126)).alloc (.cells z8 99)).heap[w.heap.size + 1]? = some (.cells KS 126 (0, 0)) := (Below.heap_alloc _ _ _ (by simp)).trans (heap_next w _ _)
  have hr : (((w.alloc (.cells V0 99)).alloc (.cells KS 126)).alloc (.cells z8 99)).heap[w.heap.size + 1 + 1]? = some (.cells z8 99 (0, 0)) := by
    have := heap_next (w.alloc (.cells V0 99)) (.cells KS 126) (.cells z8 99)
    rw [World.size_alloc] at this
    exact this
  have q1 := schedule_any g o c B hB _ (fun i hi => n0.cellOf (hb i hi))
  refine q1.mono ?_
  rintro e1 w1 ⟨rfl, n1⟩
  have h1 := (n1.block _ (heap_lt hh) (fun f => f)).trans hh
  have k1 := (n1.block _ (heap_lt hk) (fun f => f)).trans hk
  have r1 := (n1.block _ (heap_lt hr) (fun f => f)).trans hr
  have n1 : Nw w w1 := n0.tr n1
  clear n0 hh hk hr q1 hb
  have z1 := heap_lt r1
  go_wp2_with first
    | (refine wp_store_agg rfl (.tmp 7) (.tmp 14) 126 64 rfl Tryd.sizeOf126 w1.heap.size 0 rfl _ 126 (heap_new _ _) (wcs B 64) rfl (wcs_size _ _) (wcs_one _ _) (by decide) (wcs B 64) (by simp) ?_; intro w2 j2 f2 s2; have n2 : Nw w1 w2 := ((Fr.refl _ _).alloc _).trans f2 (fun k hk q => by omega); have h2 := (n2.block _ (heap_lt h1) (fun f => f)).trans h1; clear s2)
    | (refine wp_load_agg rfl (.tmp 3) 99 8 rfl Tryd.isAgg99 Tryd.sizeOf99 w.heap.size 0 rfl V0 99 (0, 0) h2 V0 hv8 (fun j _ => by rw [Nat.zero_add]) ?_)
    | (refine wp_store_agg rfl (.tmp 8) (.tmp 15) 99 8 rfl Tryd.sizeOf99 w2.heap.size 0 rfl _ 99 (heap_new _ _) V0 rfl hv8 (by rw [HV0.out]; exact vals_one s) (by decide) V0 (by simp) ?_; intro w3 j3 f3 s3; have n3 : Nw w2 w3 := ((Fr.refl _ _).alloc _).trans f3 (fun k hk q => by omega); clear s3)
  have k2 := (n2.block _ (heap_lt k1) (fun f => f)).trans k1
  have r2 := (n2.block _ (heap_lt r1) (fun f => f)).trans r1
  have h3 := (n3.block _ (heap_lt h2) (fun f => f)).trans h2
  have k3 := (n3.block _ (heap_lt k2) (fun f => f)).trans k2
  have r3 := (n3.block _ (heap_lt r2) (fun f => f)).trans r2
  have w3' := (n3.block _ (heap_lt j2) (fun f => f)).trans j2
  have nw3 : Nw w w3 := (n1.tr n2).tr n3
  have d12 : w1.heap.size < w2.heap.size := heap_lt j2
  have nn : w.heap.size ≤ w1.heap.size := n1.size
  clear h1 h2 k1 k2 r1 r2 j2 n1 n2 n3 f2 f3
  obtain ⟨b7, hb7⟩ : ∃ b, b = w1.heap.size := ⟨_, rfl⟩
  obtain ⟨b8, hb8⟩ : ∃ b, b = w2.heap.size := ⟨_, rfl⟩
  rw [← hb7] at w3' d12 z1 nn ⊢
  rw [← hb8] at j3 d12 ⊢
  clear hb7 hb8
  have HB : Hid (∀ i, i < 64 → B i < 256) := hB
  have HS0 : Hid s.ok := hs
  clear hB hs
  have HZ : Hid (w.heap.size + 1 + 1 < b7) := z1
  have HD : Hid (b7 < b8) := d12
  clear z1 d12 nn
  go_loopw [9] (fun i wr => ∃ k : Nat, k ≤ 64 ∧ i = .int .i64 k ∧ Nw w wr ∧ wr.heap[w.heap.size]? = some (.cells V0 99 (0, 0)) ∧ wr.heap[w.heap.size + 1]? = some (.cells KS 126 (0, 0)) ∧ wr.heap[w.heap.size + 1 + 1]? = some (.cells z8 99 (0, 0)) ∧ wr.heap[b7]? = some (.cells (wcs B 64) 126 (0, 0)) ∧ wr.heap[b8]? = some (.cells (vals (rounds Kc (Wf B) s k)) 99 (0, 0))) (fun i _ => 64 - (intOf i).toNat)
  case atStart => exact ⟨0, by omega, rfl, nw3, h3, k3, r3, w3', by rw [HV0.out] at j3; exact j3⟩
  case round =>
    clear h3 k3 r3 w3' j3 nw3
    obtain ⟨k, hk, rfl, hnw, hh, hkk, hr, hw, hv⟩ := hrel
    by_cases hlt : k < 64
    · have hok := rounds_ok Kc (Wf B) s HS0.out k
      have HS : Hid (rounds Kc (Wf B) s (k + 1) = step (Kc k) (Wf B k) (rounds Kc (Wf B) s k)) := rfl
      generalize hT : rounds Kc (Wf B) s k = T at hok HS hv
      clear hT
      obtain ⟨a, b, c, d, e, f, g, p⟩ := T
      obtain ⟨ha, hb, hc, hd, he, hf, hg, hp⟩ := hok
      dsimp only at ha hb hc hd he hf hg hp
      have v0 := cell_of hv 0
      have v1 := cell_of hv 1
      have v2 := cell_of hv 2
      have v3 := cell_of hv 3
      have v4 := cell_of hv 4
      have v5 := cell_of hv 5
      have v6 := cell_of hv 6
      have v7 := cell_of hv 7
      simp [vals] at v0 v1 v2 v3 v4 v5 v6 v7
      have hcw := (cell_of hw k).trans (wcs_get B 64 k hlt (by omega))
      have hck := (cell_of hkk k).trans (show KS[k]? = some (u32v (Kc k)) by rw [HKS.out]; exact ks_get k hlt)
      have hwk : Wd (Wf B k) := Wf_lt B HB.out k hlt
      have hkl := Kc_lt k
      generalize Wf B k = wk at hcw hwk HS
      generalize Kc k = kk at hck hkl HS
      have hki : (k : Int) < 64 := by omega
      have hk0 : (0 : Int) ≤ (k : Int) := by omega
      have x1 := b_xo (rr e 6) (rr e 11) (rr_lt _ _ he) (rr_lt _ _ he)
      have x2 : bits .xor .u32 ((xo (rr e 6) (rr e 11) : Nat) : Int) ((rr e 25 : Nat) : Int) = ((S1 e : Nat) : Int) := b_xo _ _ (xo_lt _ _ (rr_lt _ _ he) (rr_lt _ _ he)) (rr_lt _ _ he)
      have x3 := b_an e f he hf
      have x4 := i_no e he
      have x4' := m_no e he
      have x5 := b_an (no e) g (no_lt _) hg
      have x6 : bits .xor .u32 ((an e f : Nat) : Int) ((an (no e) g : Nat) : Int) = ((ch e f g : Nat) : Int) := b_xo _ _ (an_lt _ _ hf) (an_lt _ _ hg)
      have a1 := b_ad p (S1 e)
      have a2 := b_ad (ad p (S1 e)) (ch e f g)
      have a3 := b_ad (ad (ad p (S1 e)) (ch e f g)) kk
      have a4 := b_ad (ad (ad (ad p (S1 e)) (ch e f g)) kk) wk
      have b1 := w_ad p (S1 e)
      have b2 := w_ad (ad p (S1 e)) (ch e f g)
      have b3 := w_ad (ad (ad p (S1 e)) (ch e f g)) kk
      have b4 := w_ad (ad (ad (ad p (S1 e)) (ch e f g)) kk) wk
      have y1 := b_xo (rr a 2) (rr a 13) (rr_lt _ _ ha) (rr_lt _ _ ha)
      have y2 : bits .xor .u32 ((xo (rr a 2) (rr a 13) : Nat) : Int) ((rr a 22 : Nat) : Int) = ((S0 a : Nat) : Int) := b_xo _ _ (xo_lt _ _ (rr_lt _ _ ha) (rr_lt _ _ ha)) (rr_lt _ _ ha)
      have y3 := b_an a b ha hb
      have y4 := b_an a c ha hc
      have y5 := b_an b c hb hc
      have y6 := b_xo (an a b) (an a c) (an_lt _ _ hb) (an_lt _ _ hc)
      have y7 : bits .xor .u32 ((xo (an a b) (an a c) : Nat) : Int) ((an b c : Nat) : Int) = ((mj a b c : Nat) : Int) := b_xo _ _ (xo_lt _ _ (an_lt _ _ hb) (an_lt _ _ hc)) (an_lt _ _ hc)
      have a5 := b_ad (S0 a) (mj a b c)
      have b5 := w_ad (S0 a) (mj a b c)
      go_wp2
      go_quiet ((go_at_call 73; refine Calls.quiet_of (turn_any _ _ he (by first | decide | simp [Rn]) _)))
      have nQ : ∀ n, Nw wr (wr.drewN n) := fun n => (Fr.refl _ wr).drewN n
      have HQ : Hid (∀ n, Nw wr (wr.drewN n)) := nQ
      clear nQ
      generalize hwq : wr.drewN _ = wq
      have nq : Nw wr wq := by rw [← hwq]; exact HQ.out _
      clear hwq HQ
      have hh := (nq.block _ (heap_lt hh) (fun f => f)).trans hh
      have hkk := (nq.block _ (heap_lt hkk) (fun f => f)).trans hkk
      have hr := (nq.block _ (heap_lt hr) (fun f => f)).trans hr
      have hw := (nq.block _ (heap_lt hw) (fun f => f)).trans hw
      have hv := (nq.block _ (heap_lt hv) (fun f => f)).trans hv
      have hnw := hnw.tr nq
      have v0 := nq.cellOf v0
      have v1 := nq.cellOf v1
      have v2 := nq.cellOf v2
      have v3 := nq.cellOf v3
      have v4 := nq.cellOf v4
      have v5 := nq.cellOf v5
      have v6 := nq.cellOf v6
      have v7 := nq.cellOf v7
      clear nq
      go_wp2
      go_quiet ((go_at_call 73; refine Calls.quiet_of (turn_any _ _ ha (by first | decide | simp [Rn]) _)))
      have HQ : Hid (∀ n, Nw wq (wq.drewN n)) := fun n => (Fr.refl _ wq).drewN n
      generalize hwz : wq.drewN _ = wz
      have nq : Nw wq wz := by rw [← hwz]; exact HQ.out _
      clear hwz HQ
      have hh := (nq.block _ (heap_lt hh) (fun f => f)).trans hh
      have hkk := (nq.block _ (heap_lt hkk) (fun f => f)).trans hkk
      have hr := (nq.block _ (heap_lt hr) (fun f => f)).trans hr
      have hw := (nq.block _ (heap_lt hw) (fun f => f)).trans hw
      have hv := (nq.block _ (heap_lt hv) (fun f => f)).trans hv
      have hnw := hnw.tr nq
      have v0 := nq.cellOf v0
      have v1 := nq.cellOf v1
      have v2 := nq.cellOf v2
      have v3 := nq.cellOf v3
      have v4 := nq.cellOf v4
      have v5 := nq.cellOf v5
      have v6 := nq.cellOf v6
      have v7 := nq.cellOf v7
      clear nq
      have a6 := b_ad (ad (ad (ad (ad p (S1 e)) (ch e f g)) kk) wk) (ad (S0 a) (mj a b c))
      have a7 := b_ad d (ad (ad (ad (ad p (S1 e)) (ch e f g)) kk) wk)
      obtain ⟨w4, hw4, j4, f4⟩ := set8 hv (vals_size _) (.int .u32 ((ad (ad (ad (ad (ad p (S1 e)) (ch e f g)) kk) wk) (ad (S0 a) (mj a b c)) : Nat) : Int)) (.int .u32 ((a : Nat) : Int)) (.int .u32 ((b : Nat) : Int)) (.int .u32 ((c : Nat) : Int)) (.int .u32 ((ad d (ad (ad (ad (ad p (S1 e)) (ch e f g)) kk) wk) : Nat) : Int)) (.int .u32 ((e : Nat) : Int)) (.int .u32 ((f : Nat) : Int)) (.int .u32 ((g : Nat) : Int))
      have F0 := frozen_of hv
      go_wp2_with fail
      rw [← hw4]
      clear hw4
      have hZ := HZ.out
      have hD := HD.out
      have hsz := hnw.size
      have n4 : Nw w w4 := hnw.trans f4 (fun j hj q => by omega)
      have hh4 : w4.heap[w.heap.size]? = some (.cells V0 99 (0, 0)) := (f4.block _ (heap_lt hh) (by omega)).trans hh
      have hk4 : w4.heap[w.heap.size + 1]? = some (.cells KS 126 (0, 0)) := (f4.block _ (heap_lt hkk) (by omega)).trans hkk
      have hr4 : w4.heap[w.heap.size + 1 + 1]? = some (.cells z8 99 (0, 0)) := (f4.block _ (heap_lt hr) (by omega)).trans hr
      have hw4 : w4.heap[b7]? = some (.cells (wcs B 64) 126 (0, 0)) := (f4.block _ (heap_lt hw) (by omega)).trans hw
      have e4 : k + 1 ≤ 64 := by omega
      clear f4 hh hkk hr hw hv v0 v1 v2 v3 v4 v5 v6 v7 a1 a2 a3 a4 a5 a6 a7 b1 b2 b3 b4 b5 x1 x2 x3 x4 x4' x5 x6 y1 y2 y3 y4 y5 y6 y7
      have hv4 : w4.heap[b8]? = some (.cells (vals (rounds Kc (Wf B) s (k + 1))) 99 (0, 0)) := by
        rw [HS.out]
        exact j4
      refine ⟨⟨k + 1, e4, by go_num, n4, hh4, hk4, hr4, hw4, hv4⟩, by simp [intOf]; omega⟩
    · obtain rfl : k = 64 := by omega
      generalize hT : rounds Kc (Wf B) s 64 = T at HR hv
      clear hT
      have hv := hv
      rw [← part8_0 s T] at hv
      have hZ := HZ.out
      have hD := HD.out
      have hsz := hnw.size
      have HV : Hid (V0 = vals s) := HV0
      have hb8 : w.heap.size + 1 + 1 < b8 := by omega
      clear hw hkk hZ hD hsz
      go_wp2
      go_loopw [12] (fun i wx => ∃ j : Nat, j ≤ 8 ∧ i = .int .i64 j ∧ Nw w wx ∧ wx.heap[w.heap.size]? = some (.cells V0 99 (0, 0)) ∧ wx.heap[w.heap.size + 1 + 1]? = some (.cells z8 99 (0, 0)) ∧ wx.heap[b8]? = some (.cells (part8 s T j) 99 (0, 0))) (fun i _ => 8 - (intOf i).toNat)
      case atStart => exact ⟨0, by omega, rfl, hnw, hh, hr, hv⟩
      case round =>
        clear hh hr hv hnw
        obtain ⟨j, hj, rfl, hnw, hh, hr, hv⟩ := hrel
        by_cases hlt : j < 8
        · have hji : (j : Int) < 8 := by omega
          have hj0 : (0 : Int) ≤ (j : Int) := by omega
          have hcv := (cell_of hv j).trans (part8_at s T j hlt)
          have hch := (cell_of hh j).trans (show V0[j]? = some (u32v ((wl s).getD j 0)) by rw [HV.out]; exact vals_at s j hlt)
          have hfz : wr.frozen? ⟨b8, j, none⟩ = false := frozen_of hv j
          have HP : Hid ((part8 s T j).setIfInBounds j (u32v (ad ((wl T).getD j 0) ((wl s).getD j 0))) = part8 s T (j + 1)) := part8_set s T j hlt
          generalize (wl T).getD j 0 = x at hcv HP
          generalize (wl s).getD j 0 = y at hch HP
          have a1 := b_ad x y
          have b1 := w_ad x y
          go_wp2
          go_region
          all_goals go_wp2
          refine ⟨⟨j + 1, by omega, by go_num, ((hnw.setCell _ _ (fun h => absurd h (by simp; omega))).drew), (heap_set_ne (by omega) _).trans hh, (heap_set_ne (by omega) _).trans hr, ?_⟩, by simp [intOf]; omega⟩
          rw [← HP.out]
          exact heap_set hv _
        · obtain rfl : j = 8 := by omega
          rw [part8_8 s T, ← HR.out, ← HRV.out] at hv
          have h8 : RV.size = 8 := by rw [HRV.out]; rfl
          have h81 : ∀ u ∈ RV.toList, u.oneCell' = true := by rw [HRV.out]; exact vals_one _
          have hzd : z8.toList.drop (0 + 8) = [] := rfl
          go_wp2_with first
            | (refine wp_load_agg rfl (.tmp 8) 99 8 rfl Tryd.isAgg99 Tryd.sizeOf99 b8 0 rfl RV 99 (0, 0) hv RV h8 (fun j _ => by rw [Nat.zero_add]) ?_)
            | (refine wp_store_agg rfl (.tmp 6) (.tmp 117) 99 8 rfl Tryd.sizeOf99 (w.heap.size + 1 + 1) 0 rfl z8 99 hr RV rfl h8 h81 (by decide) RV (by rw [hzd]; simp) ?_; intro w4 j4 f4 z4)
          exact bodyPost_ret (results_cell Tryd.results66 Tryd.isAgg99 Tryd.sizeOf99 rfl j4 h8) rfl ⟨rfl, hnw.trans f4 (fun k hk q => by omega)⟩
end Go.Proofs.YtaeocbdphfkflaaDoor.Rf
