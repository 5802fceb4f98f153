/- The document's words of a block. -/
import Derived.Test.YtlaiomgebkeldaaDoorPg
namespace Go.Proofs.YtlaiomgebkeldaaDoor.Rf
open Go.RowKit
set_option linter.unusedVariables false
set_option linter.unusedSimpArgs false

set_option maxRecDepth 100000 in
set_option maxHeartbeats 1000000 in
theorem schedule_any (g o c : Nat) (B : Nat → Nat) (hB : ∀ i, i < 64 → B i < 256) (w : World) (hb : ∀ i, i < 64 → w.cell? ⟨g, o + i, none⟩ = some (.int .u8 (B i : Nat))) :
    Calls Tryd.prog 84 #[.slice (some ⟨g, o, none⟩) 64 c] w fun e w' => e = .returned (.agg (wcs B 64)) ∧ Nw w w' := by
  have HB : Hid (∀ i, i < 64 → B i < 256) := hB
  have Hb : Hid (∀ i, i < 64 → w.cell? ⟨g, o + i, none⟩ = some (.int .u8 (B i : Nat))) := hb
  clear hB hb
  go_enter Tryd.func84, Tryd.ntmps84
  go_wp2
  go_loopw [4] (fun i wr => ∃ k : Nat, k ≤ 16 ∧ i = .int .i64 k ∧ Nw w wr ∧ wr.heap[w.heap.size]? = some (.cells z64 138 (0, 0)) ∧ wr.heap[w.heap.size + 1]? = some (.cells (wcs B k) 138 (0, 0))) (fun i _ => 16 - (intOf i).toNat)
  case atStart =>
    refine ⟨0, by omega, rfl, (((Fr.refl _ _).alloc _).alloc _), ?_, ?_⟩
    · exact ((Below.heap_alloc _ _ _ (by simp)).trans (heap_new w _)).trans (by kernel_rfl)
    · rw [wcs_0]
      refine (heap_next w _ _).trans (by kernel_rfl)
  case round =>
    obtain ⟨k, hk, rfl, hnw, hz, hc⟩ := hrel
    by_cases hlt : k < 16
    · have hki : (k : Int) < 16 := by omega
      have hk64 : (k : Int) < 64 := by omega
      have hWl : Hid (Wf B k = wd (B (4 * k)) (B (4 * k + 1)) (B (4 * k + 2)) (B (4 * k + 3))) := Wf_lo B k hlt
      have c0 := hnw.cellOf (Hb.out (4 * k) (by omega))
      have c1 := hnw.cellOf (Hb.out (4 * k + 1) (by omega))
      have c2 := hnw.cellOf (Hb.out (4 * k + 2) (by omega))
      have c3 := hnw.cellOf (Hb.out (4 * k + 3) (by omega))
      have l0 := HB.out (4 * k) (by omega)
      have l1 := HB.out (4 * k + 1) (by omega)
      have l2 := HB.out (4 * k + 2) (by omega)
      have l3 := HB.out (4 * k + 3) (by omega)
      generalize B (4 * k) = b0 at c0 l0 hWl
      generalize B (4 * k + 1) = b1 at c1 l1 hWl
      generalize B (4 * k + 2) = b2 at c2 l2 hWl
      generalize B (4 * k + 3) = b3 at c3 l3 hWl
      obtain ⟨q0, hq0⟩ : ∃ q, q = 4 * k := ⟨_, rfl⟩
      obtain ⟨q1, hq1⟩ : ∃ q, q = 4 * k + 1 := ⟨_, rfl⟩
      obtain ⟨q2, hq2⟩ : ∃ q, q = 4 * k + 2 := ⟨_, rfl⟩
      obtain ⟨q3, hq3⟩ : ∃ q, q = 4 * k + 3 := ⟨_, rfl⟩
      rw [← hq0] at c0
      rw [← hq1] at c1
      rw [← hq2] at c2
      rw [← hq3] at c3
      have e0 : 4 * (k : Int) = (q0 : Int) := by omega
      have e1 : (q0 : Int) + 1 = (q1 : Int) := by omega
      have e2 : (q0 : Int) + 2 = (q2 : Int) := by omega
      have e3 : (q0 : Int) + 3 = (q3 : Int) := by omega
      have m0 : (q0 : Int) < 64 := by omega
      have m1 : (q1 : Int) < 64 := by omega
      have m2 : (q2 : Int) < 64 := by omega
      have m3 : (q3 : Int) < 64 := by omega
      clear hq0 hq1 hq2 hq3
      obtain ⟨o1, o2, o3⟩ := wd_or b0 b1 b2 b3 l0 l1 l2 l3
      have o4 : Hid (bits .or .u32 (bits .or .u32 (bits .or .u32 ((b0 : Int) * 16777216) ((b1 : Int) * 65536)) ((b2 : Int) * 256)) (b3 : Int) = ((Wf B k : Nat) : Int)) := by
        rw [show (b0 : Int) * 16777216 = ((b0 * 16777216 : Nat) : Int) by omega, show (b1 : Int) * 65536 = ((b1 * 65536 : Nat) : Int) by omega, show (b2 : Int) * 256 = ((b2 * 256 : Nat) : Int) by omega]
        unfold Hid
        rw [o1, o2, o3, hWl.out]
      clear o1 o2 o3
      have hcs : wr.cell? ⟨w.heap.size + 1, k, none⟩ = some (u32v 0) := (cell_of hc k).trans (by rw [wcs, Array.getElem?_ofFn, dif_pos (by omega), if_neg (by simp)])
      have hfz : wr.frozen? ⟨w.heap.size + 1, k, none⟩ = false := frozen_of hc k
      go_wp2
      go_region
      go_wp2
      rw [o4.out]
      refine ⟨⟨k + 1, by omega, by go_num, ((hnw.setCell _ _ (fun h => absurd h (by simp))).drew), ?_, ?_⟩, by simp [intOf]; omega⟩
      · exact (heap_set_ne (by omega) _).trans hz
      · rw [← wcs_set B k (by omega)]
        exact heap_set hc _
    · have H16 : Hid (k = 16) := by unfold Hid; omega
      have hge : ¬ (k : Int) < 16 := by omega
      clear hlt
      go_wp2
      go_loopw [5] (fun i wq => ∃ k : Nat, 16 ≤ k ∧ k ≤ 64 ∧ i = .int .i64 k ∧ Nw w wq ∧ wq.heap[w.heap.size]? = some (.cells z64 138 (0, 0)) ∧ wq.heap[w.heap.size + 1]? = some (.cells (wcs B k) 138 (0, 0))) (fun i _ => 64 - (intOf i).toNat)
      case atStart => exact ⟨16, by omega, by omega, rfl, hnw, hz, by rw [← H16.out]; exact hc⟩
      case round =>
        clear hnw hz hc
        obtain ⟨k0, hk0⟩ : ∃ x, x = k := ⟨_, rfl⟩
        subst hk0
        obtain ⟨k, hk16, hk, rfl, hnw, hz, hc⟩ := hrel
        by_cases hlt : k < 64
        · have hki : (k : Int) < 64 := by omega
          have h2 := (cell_of hc (k - 2)).trans (wcs_get B k (k - 2) (by omega) hk)
          have h7 := (cell_of hc (k - 7)).trans (wcs_get B k (k - 7) (by omega) hk)
          have h15 := (cell_of hc (k - 15)).trans (wcs_get B k (k - 15) (by omega) hk)
          have h16 := (cell_of hc (k - 16)).trans (wcs_get B k (k - 16) (by omega) hk)
          have hW : Hid (Wf B k = ad (ad (ad (Wf B (k - 16)) (s0 (Wf B (k - 15)))) (Wf B (k - 7))) (s1 (Wf B (k - 2)))) := Wf_hi B k hk16 hlt
          have l2 := Wf_lt B HB.out (k - 2) (by omega)
          have l7 := Wf_lt B HB.out (k - 7) (by omega)
          have l15 := Wf_lt B HB.out (k - 15) (by omega)
          have l16 := Wf_lt B HB.out (k - 16) (by omega)
          generalize Wf B (k - 2) = y at h2 l2 hW
          generalize Wf B (k - 15) = x at h15 l15 hW
          generalize Wf B (k - 7) = u at h7 l7 hW
          generalize Wf B (k - 16) = v at h16 l16 hW
          have hcs : wr.cell? ⟨w.heap.size + 1, k, none⟩ = some (u32v 0) := (cell_of hc k).trans (by rw [wcs, Array.getElem?_ofFn, dif_pos (by omega), if_neg (by simp)])
          have hfz : wr.frozen? ⟨w.heap.size + 1, k, none⟩ = false := frozen_of hc k
          have n2 : ((k : Int) - 2).toNat = k - 2 := by omega
          have n15 : ((k : Int) - 15).toNat = k - 15 := by omega
          have i2 : (0 : Int) ≤ (k : Int) - 2 := by omega
          have i15 : (0 : Int) ≤ (k : Int) - 15 := by omega
          have j2 : (k : Int) - 2 < 64 := by omega
          have j15 : (k : Int) - 15 < 64 := by omega
          have x1 := b_xo (rr x 7) (rr x 18) (rr_lt _ _ l15) (rr_lt _ _ l15)
          have x2 : bits .xor .u32 ((xo (rr x 7) (rr x 18) : Nat) : Int) ((x : Int) / 8) = ((s0 x : Nat) : Int) := b_xo _ _ (xo_lt _ _ (rr_lt _ _ l15) (rr_lt _ _ l15)) (dv_lt _ _ l15)
          have y1 := b_xo (rr y 17) (rr y 19) (rr_lt _ _ l2) (rr_lt _ _ l2)
          have y2 : bits .xor .u32 ((xo (rr y 17) (rr y 19) : Nat) : Int) ((y : Int) / 1024) = ((s1 y : Nat) : Int) := b_xo _ _ (xo_lt _ _ (rr_lt _ _ l2) (rr_lt _ _ l2)) (dv_lt _ _ l2)
          have a1 := b_ad v (s0 x)
          have a2 := b_ad (ad v (s0 x)) u
          have a3 := b_ad (ad (ad v (s0 x)) u) (s1 y)
          have b1 := w_ad v (s0 x)
          have b2 := w_ad (ad v (s0 x)) u
          have b3 := w_ad (ad (ad v (s0 x)) u) (s1 y)
          go_wp2
          obtain ⟨q7, hq7⟩ : ∃ q, q = k - 7 := ⟨_, rfl⟩
          obtain ⟨q16, hq16⟩ : ∃ q, q = k - 16 := ⟨_, rfl⟩
          rw [← hq7] at h7
          rw [← hq16] at h16
          have w7 : IntKind.i64.wrap ((k : Int) - 7) = (q7 : Int) := by rw [IntKind.wrap_i64]; omega
          have w16 : IntKind.i64.wrap ((k : Int) - 16) = (q16 : Int) := by rw [IntKind.wrap_i64]; omega
          have j7 : (q7 : Int) < 64 := by omega
          have j16 : (q16 : Int) < 64 := by omega
          have d7 : q7 ≠ k := by omega
          have d16 : q16 ≠ k := by omega
          clear hq7 hq16
          go_region_held3 (fun w' => w'.cell? ⟨w.heap.size + 1, q16, none⟩ = some (u32v v) ∧ w'.cell? ⟨w.heap.size + 1, q7, none⟩ = some (u32v u)) (first | exact ⟨h16, h7⟩ | exact ⟨(cell_set_off d16 _).trans h16, (cell_set_off d7 _).trans h7⟩) ((go_at_call 85; refine (turn_any _ _ (by first | exact l15 | exact l2) (by decide) _).mono ?_; rintro e1 w1 ⟨rfl, kk, rfl⟩))
          go_wp2
          rw [← hW.out]
          refine ⟨⟨k + 1, by omega, by omega, by go_num, ((hnw.drewN _).setCell _ _ (fun h => absurd h (by simp))), ?_, ?_⟩, by simp [intOf]; omega⟩
          · exact (heap_set_ne (by omega) _).trans hz
          · rw [← wcs_set B k (by omega)]
            exact heap_set hc _
        · obtain rfl : k = 64 := by omega
          go_wp2_with first
            | (refine wp_load_agg rfl (.tmp 3) 138 64 rfl Tryd.isAgg138 Tryd.sizeOf138 (w.heap.size + 1) 0 rfl (wcs B 64) 138 (0, 0) hc (wcs B 64) (wcs_size _ _) (fun j _ => by rw [Nat.zero_add]) ?_)
            | (refine wp_store_agg rfl (.tmp 2) (.tmp 88) 138 64 rfl Tryd.sizeOf138 w.heap.size 0 rfl z64 138 hz (wcs B 64) rfl (wcs_size _ _) (wcs_one B 64) (by decide) (wcs B 64) (by rw [z64_drop]; simp) ?_; intro w4 j4 f4 z4)
          exact bodyPost_ret (results_cell Tryd.results84 Tryd.isAgg138 Tryd.sizeOf138 rfl j4 (wcs_size _ _)) rfl ⟨rfl, hnw.trans f4 (fun k hk q => by omega)⟩
end Go.Proofs.YtlaiomgebkeldaaDoor.Rf
