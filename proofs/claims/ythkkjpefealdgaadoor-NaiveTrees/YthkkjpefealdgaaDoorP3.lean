/- SHA, as a function of bytes: the words of a block; what spread answers. -/
import Derived.Test.YthkkjpefealdgaaDoorP2
import Derived.BigRegion
import Derived.Deep.RegionHeld3
namespace Go.Proofs.YthkkjpefealdgaaDoor
open Go.RowKit
set_option linter.unusedVariables false
set_option linter.unusedSimpArgs false

/-- Bytes as a word. -/
def wd (a b c d : Nat) : Nat := a * 16777216 + b * 65536 + c * 256 + d
def nxt (l : List Nat) (t : Nat) : Nat := ad (ad (ad (l.getD (t - 16) 0) (s0 (l.getD (t - 15) 0))) (l.getD (t - 7) 0)) (s1 (l.getD (t - 2) 0))
/-- The first words of a block. -/
def ws (B : Nat → Nat) : Nat → List Nat
  | 0 => []
  | t + 1 => ws B t ++ [if t < 16 then wd (B (4 * t)) (B (4 * t + 1)) (B (4 * t + 2)) (B (4 * t + 3)) else nxt (ws B t) t]
def Wf (B : Nat → Nat) (i : Nat) : Nat := (ws B 64).getD i 0
theorem ws_len (B : Nat → Nat) : ∀ t, (ws B t).length = t
  | 0 => rfl
  | t + 1 => by rw [ws, List.length_append, ws_len B t]; rfl
theorem ws_get (B : Nat → Nat) (i t : Nat) (h : i < t) : ∀ m, (ws B (t + m)).getD i 0 = (ws B t).getD i 0
  | 0 => rfl
  | m + 1 => by
    rw [← Nat.add_assoc, ws, List.getD_eq_getElem?_getD, List.getElem?_append_left (by rw [ws_len]; omega), ← List.getD_eq_getElem?_getD]
    exact ws_get B i t h m
theorem ws_at (B : Nat → Nat) (i t : Nat) (h : i < t) (ht : t ≤ 64) : (ws B t).getD i 0 = Wf B i := by
  have := ws_get B i t h (64 - t)
  rw [show t + (64 - t) = 64 by omega] at this
  exact this.symm
theorem Wf_eq (B : Nat → Nat) (t : Nat) (ht : t < 64) : Wf B t = if t < 16 then wd (B (4 * t)) (B (4 * t + 1)) (B (4 * t + 2)) (B (4 * t + 3)) else nxt (ws B t) t := by
  rw [← ws_at B t (t + 1) (by omega) (by omega), ws, List.getD_eq_getElem?_getD, List.getElem?_append_right (by rw [ws_len]; omega), ws_len, Nat.sub_self]
  rfl
theorem Wf_lo (B : Nat → Nat) (t : Nat) (ht : t < 16) : Wf B t = wd (B (4 * t)) (B (4 * t + 1)) (B (4 * t + 2)) (B (4 * t + 3)) := by
  rw [Wf_eq B t (by omega), if_pos ht]
theorem Wf_hi (B : Nat → Nat) (t : Nat) (h : 16 ≤ t) (ht : t < 64) : Wf B t = ad (ad (ad (Wf B (t - 16)) (s0 (Wf B (t - 15)))) (Wf B (t - 7))) (s1 (Wf B (t - 2))) := by
  rw [Wf_eq B t ht, if_neg (by omega), nxt, ws_at B _ t (by omega) (by omega), ws_at B _ t (by omega) (by omega), ws_at B _ t (by omega) (by omega), ws_at B _ t (by omega) (by omega)]
theorem wd_lt (a b c d : Nat) (ha : a < 256) (hb : b < 256) (hc : c < 256) (hd : d < 256) : Wd (wd a b c d) := by unfold wd Wd; omega
theorem Wf_lt (B : Nat → Nat) (hB : ∀ i, i < 64 → B i < 256) (t : Nat) (ht : t < 64) : Wd (Wf B t) := by
  rcases Nat.lt_or_ge t 16 with h | h
  · rw [Wf_lo B t h]; exact wd_lt _ _ _ _ (hB _ (by omega)) (hB _ (by omega)) (hB _ (by omega)) (hB _ (by omega))
  · rw [Wf_hi B t h ht]; exact ad_lt _ _
/-- The array of words, the first t of them made. -/
def wcs (B : Nat → Nat) (t : Nat) : Array Value := Array.ofFn (n := 64) fun i => u32v (if i.val < t then Wf B i.val else 0)
theorem wcs_size (B : Nat → Nat) (t : Nat) : (wcs B t).size = 64 := by simp [wcs]
theorem wcs_get (B : Nat → Nat) (t i : Nat) (hi : i < t) (ht : t ≤ 64) : (wcs B t)[i]? = some (u32v (Wf B i)) := by
  rw [wcs, Array.getElem?_ofFn, dif_pos (by omega), if_pos hi]
theorem wcs_set (B : Nat → Nat) (t : Nat) (ht : t < 64) : (wcs B t).setIfInBounds t (u32v (Wf B t)) = wcs B (t + 1) := by
  apply Array.ext
  · simp [wcs]
  · intro i h1 h2
    rw [Array.getElem_setIfInBounds (by simpa using h1)]
    simp only [wcs, Array.getElem_ofFn]
    by_cases h : t = i
    · subst h; simp
    · rw [if_neg h]
      have : (i < t + 1) = (i < t) := by apply propext; omega
      simp only [this]
def z64 : Array Value := Array.replicate 64 (u32v 0)
theorem wcs_0 (B : Nat → Nat) : wcs B 0 = z64 := by
  apply Array.ext
  · simp [wcs, z64]
  · intro i h1 h2
    simp [wcs, z64]

theorem wcs_one (B : Nat → Nat) (t : Nat) : ∀ u ∈ (wcs B t).toList, u.oneCell' = true := by
  intro u hu
  have hu2 : u ∈ wcs B t := by simpa using hu
  obtain ⟨i, hi, rfl⟩ := Array.mem_iff_getElem.1 hu2
  simp [wcs, Value.oneCell']
theorem z64_drop : z64.toList.drop (0 + 64) = [] := by rw [z64]; simp
theorem len64 : Tryd.prog.arrayLen 94 = 64 := by kernel_rfl
theorem elem64 : Tryd.prog.elem 94 = 5 := by kernel_rfl
theorem slice64 (bb o l : Nat) (hl : l < 64) (w : World) : (Instr.sliceAt 94 (.pointer (some ⟨bb, o, none⟩)) (some (.int .i64 (l : Int))) none none).run Tryd.prog w = .ok (.slice (some ⟨bb, o + l, none⟩) (64 - l) (64 - l)) w := by
  rw [run_sliceAt_array_l w _ _ (by rw [len64, elem64]; exact Tryd.underlying94) .i64 (l : Int) (by omega) (by rw [len64]; omega), elem64, Tryd.sizeOf5 w, len64]
  simp only [Result.andThen_ok, slicedAt]
  rw [if_neg (by omega)]
  simp [addO]
/-- Four bytes put together, as the program does. -/
theorem wd_or (a b c d : Nat) (ha : a < 256) (hb : b < 256) (hc : c < 256) (hd : d < 256) :
    bits .or .u32 ((a * 16777216 : Nat) : Int) ((b * 65536 : Nat) : Int) = ((a * 16777216 + b * 65536 : Nat) : Int) ∧
    bits .or .u32 ((a * 16777216 + b * 65536 : Nat) : Int) ((c * 256 : Nat) : Int) = ((a * 16777216 + b * 65536 + c * 256 : Nat) : Int) ∧
    bits .or .u32 ((a * 16777216 + b * 65536 + c * 256 : Nat) : Int) (d : Int) = ((wd a b c d : Nat) : Int) := by
  have or32 : ∀ (m x y : Nat), y < 2 ^ m → 2 ^ m * x + y < 4294967296 → bits .or .u32 ((2 ^ m * x : Nat) : Int) (y : Int) = ((2 ^ m * x + y : Nat) : Int) := fun m x y hy hs => by
    rw [u32_or_nat _ _ (by omega) (by omega), Nat.two_pow_add_eq_or_of_lt hy]
  refine ⟨?_, ?_, ?_⟩
  · have := or32 24 a (b * 65536) (by omega) (by omega)
    rw [show 2 ^ 24 * a = a * 16777216 by omega] at this
    exact this
  · have := or32 16 (a * 256 + b) (c * 256) (by omega) (by omega)
    rw [show 2 ^ 16 * (a * 256 + b) = a * 16777216 + b * 65536 by omega] at this
    exact this
  · have := or32 8 (a * 65536 + b * 256 + c) d (by omega) (by omega)
    rw [show 2 ^ 8 * (a * 65536 + b * 256 + c) = a * 16777216 + b * 65536 + c * 256 by omega] at this
    exact this

set_option maxRecDepth 100000 in
set_option maxHeartbeats 1000000 in
theorem spread_any (bb : Nat) (B : Nat → Nat) (hB : ∀ i, i < 64 → B i < 256) (w : World) (hb : ∀ i, i < 64 → w.cell? ⟨bb, 9 + i, none⟩ = some (.int .u8 (B i : Nat))) :
    Calls Tryd.prog 61 #[.pointer (some ⟨bb, 9, none⟩)] w fun e w' => e = .returned (.agg (wcs B 64)) ∧ Nw w w' := by
  have HB : Hid (∀ i, i < 64 → B i < 256) := hB
  have Hb : Hid (∀ i, i < 64 → w.cell? ⟨bb, 9 + i, none⟩ = some (.int .u8 (B i : Nat))) := hb
  clear hB hb
  go_enter Tryd.func61, Tryd.ntmps61
  go_wp2
  go_loopw [9] (fun i wr => ∃ k : Nat, k ≤ 16 ∧ i = .int .i64 k ∧ Nw w wr ∧ wr.heap[w.heap.size]? = some (.cells z64 136 (0, 0)) ∧ wr.heap[w.heap.size + 1]? = some (.cells (wcs B k) 136 (0, 0))) (fun i _ => 16 - (intOf i).toNat)
  case atStart =>
    refine ⟨0, by omega, rfl, (((Fr.refl _ _).alloc _).alloc _), ?_, ?_⟩
    · exact ((Below.heap_alloc _ _ _ (by simp)).trans (heap_new w _)).trans (by kernel_rfl)
    · rw [wcs_0]
      refine (heap_next w _ _).trans (by kernel_rfl)
  case round =>
    obtain ⟨k, hk, rfl, hnw, hz, hc⟩ := hrel
    by_cases hlt : k < 16
    · have hki : (k : Int) < 16 := by omega
      have hk64 : (k : Int) < 64 := by omega
      have hsl := slice64 bb 9 (4 * k) (by omega) wr
      rw [show ((4 * k : Nat) : Int) = 4 * (k : Int) by omega] at hsl
      have hWl : Hid (Wf B k = wd (B (4 * k)) (B (4 * k + 1)) (B (4 * k + 2)) (B (4 * k + 3))) := Wf_lo B k hlt
      have c0 := hnw.cellOf (Hb.out (4 * k) (by omega))
      have c1 := hnw.cellOf (Hb.out (4 * k + 1) (by omega))
      have c2 := hnw.cellOf (Hb.out (4 * k + 2) (by omega))
      have c3 := hnw.cellOf (Hb.out (4 * k + 3) (by omega))
      have l0 := HB.out (4 * k) (by omega)
      have l1 := HB.out (4 * k + 1) (by omega)
      have l2 := HB.out (4 * k + 2) (by omega)
      have l3 := HB.out (4 * k + 3) (by omega)
      generalize B (4 * k) = b0 at c0 l0 hWl
      generalize B (4 * k + 1) = b1 at c1 l1 hWl
      generalize B (4 * k + 2) = b2 at c2 l2 hWl
      generalize B (4 * k + 3) = b3 at c3 l3 hWl
      obtain ⟨m, hm⟩ : ∃ m, m = 64 - 4 * k := ⟨_, rfl⟩
      rw [← hm] at hsl
      have m0 : (0 : Int) < (m : Int) := by omega
      have m1 : (1 : Int) < (m : Int) := by omega
      have m2 : (2 : Int) < (m : Int) := by omega
      have m3 : (3 : Int) < (m : Int) := by omega
      clear hm
      simp only [← Nat.add_assoc] at c1 c2 c3
      obtain ⟨q, hq⟩ : ∃ q, q = 9 + 4 * k := ⟨_, rfl⟩
      rw [← hq] at hsl c0 c1 c2 c3
      clear hq
      obtain ⟨o1, o2, o3⟩ := wd_or b0 b1 b2 b3 l0 l1 l2 l3
      have o4 : Hid (bits .or .u32 (bits .or .u32 (bits .or .u32 ((b0 : Int) * 16777216) ((b1 : Int) * 65536)) ((b2 : Int) * 256)) (b3 : Int) = ((Wf B k : Nat) : Int)) := by
        rw [show (b0 : Int) * 16777216 = ((b0 * 16777216 : Nat) : Int) by omega, show (b1 : Int) * 65536 = ((b1 * 65536 : Nat) : Int) by omega, show (b2 : Int) * 256 = ((b2 * 256 : Nat) : Int) by omega]
        unfold Hid
        rw [o1, o2, o3, hWl.out]
      clear o1 o2 o3
      have hcs : wr.cell? ⟨w.heap.size + 1, k, none⟩ = some (u32v 0) := (cell_of hc k).trans (by rw [wcs, Array.getElem?_ofFn, dif_pos (by omega), if_neg (by simp)])
      have hfz : wr.frozen? ⟨w.heap.size + 1, k, none⟩ = false := frozen_of hc k
      go_wp2
      go_region
      go_wp2
      rw [o4.out]
      refine ⟨⟨k + 1, by omega, by go_num, ((hnw.setCell _ _ (fun h => absurd h (by simp))).drew), ?_, ?_⟩, by simp [intOf]; omega⟩
      · exact (heap_set_ne (by omega) _).trans hz
      · rw [← wcs_set B k (by omega)]
        exact heap_set hc _
    · have H16 : Hid (k = 16) := by unfold Hid; omega
      have hge : ¬ (k : Int) < 16 := by omega
      clear hlt
      go_wp2
      go_loopw [6] (fun i wq => ∃ k : Nat, 16 ≤ k ∧ k ≤ 64 ∧ i = .int .i64 k ∧ Nw w wq ∧ wq.heap[w.heap.size]? = some (.cells z64 136 (0, 0)) ∧ wq.heap[w.heap.size + 1]? = some (.cells (wcs B k) 136 (0, 0))) (fun i _ => 64 - (intOf i).toNat)
      case atStart => exact ⟨16, by omega, by omega, rfl, hnw, hz, by rw [← H16.out]; exact hc⟩
      case round =>
        clear hnw hz hc
        obtain ⟨k0, hk0⟩ : ∃ x, x = k := ⟨_, rfl⟩
        subst hk0
        obtain ⟨k, hk16, hk, rfl, hnw, hz, hc⟩ := hrel
        by_cases hlt : k < 64
        · have hki : (k : Int) < 64 := by omega
          have h2 := (cell_of hc (k - 2)).trans (wcs_get B k (k - 2) (by omega) hk)
          have h7 := (cell_of hc (k - 7)).trans (wcs_get B k (k - 7) (by omega) hk)
          have h15 := (cell_of hc (k - 15)).trans (wcs_get B k (k - 15) (by omega) hk)
          have h16 := (cell_of hc (k - 16)).trans (wcs_get B k (k - 16) (by omega) hk)
          have hW : Hid (Wf B k = ad (ad (ad (Wf B (k - 16)) (s0 (Wf B (k - 15)))) (Wf B (k - 7))) (s1 (Wf B (k - 2)))) := Wf_hi B k hk16 hlt
          have l2 := Wf_lt B HB.out (k - 2) (by omega)
          have l7 := Wf_lt B HB.out (k - 7) (by omega)
          have l15 := Wf_lt B HB.out (k - 15) (by omega)
          have l16 := Wf_lt B HB.out (k - 16) (by omega)
          generalize Wf B (k - 2) = y at h2 l2 hW
          generalize Wf B (k - 15) = x at h15 l15 hW
          generalize Wf B (k - 7) = u at h7 l7 hW
          generalize Wf B (k - 16) = v at h16 l16 hW
          have hcs : wr.cell? ⟨w.heap.size + 1, k, none⟩ = some (u32v 0) := (cell_of hc k).trans (by rw [wcs, Array.getElem?_ofFn, dif_pos (by omega), if_neg (by simp)])
          have hfz : wr.frozen? ⟨w.heap.size + 1, k, none⟩ = false := frozen_of hc k
          have n2 : ((k : Int) - 2).toNat = k - 2 := by omega
          have n15 : ((k : Int) - 15).toNat = k - 15 := by omega
          have i2 : (0 : Int) ≤ (k : Int) - 2 := by omega
          have i15 : (0 : Int) ≤ (k : Int) - 15 := by omega
          have j2 : (k : Int) - 2 < 64 := by omega
          have j15 : (k : Int) - 15 < 64 := by omega
          have x1 := b_xo (rr x 7) (rr x 18) (rr_lt _ _ l15) (rr_lt _ _ l15)
          have x2 : bits .xor .u32 ((xo (rr x 7) (rr x 18) : Nat) : Int) ((x : Int) / 8) = ((s0 x : Nat) : Int) := b_xo _ _ (xo_lt _ _ (rr_lt _ _ l15) (rr_lt _ _ l15)) (dv_lt _ _ l15)
          have y1 := b_xo (rr y 17) (rr y 19) (rr_lt _ _ l2) (rr_lt _ _ l2)
          have y2 : bits .xor .u32 ((xo (rr y 17) (rr y 19) : Nat) : Int) ((y : Int) / 1024) = ((s1 y : Nat) : Int) := b_xo _ _ (xo_lt _ _ (rr_lt _ _ l2) (rr_lt _ _ l2)) (dv_lt _ _ l2)
          have a1 := b_ad v (s0 x)
          have a2 := b_ad (ad v (s0 x)) u
          have a3 := b_ad (ad (ad v (s0 x)) u) (s1 y)
          have b1 := w_ad v (s0 x)
          have b2 := w_ad (ad v (s0 x)) u
          have b3 := w_ad (ad (ad v (s0 x)) u) (s1 y)
          go_wp2
          go_quiet (fail)
          go_wp2
          obtain ⟨q7, hq7⟩ : ∃ q, q = k - 7 := ⟨_, rfl⟩
          obtain ⟨q16, hq16⟩ : ∃ q, q = k - 16 := ⟨_, rfl⟩
          rw [← hq7] at h7
          rw [← hq16] at h16
          have w7 : IntKind.i64.wrap ((k : Int) - 7) = (q7 : Int) := by rw [IntKind.wrap_i64]; omega
          have w16 : IntKind.i64.wrap ((k : Int) - 16) = (q16 : Int) := by rw [IntKind.wrap_i64]; omega
          have j7 : (q7 : Int) < 64 := by omega
          have j16 : (q16 : Int) < 64 := by omega
          have d7 : q7 ≠ k := by omega
          have d16 : q16 ≠ k := by omega
          clear hq7 hq16
          go_region_held3 (fun w' => w'.cell? ⟨w.heap.size + 1, q16, none⟩ = some (u32v v) ∧ w'.cell? ⟨w.heap.size + 1, q7, none⟩ = some (u32v u)) (first | exact ⟨h16, h7⟩ | exact ⟨(cell_set_off d16 _).trans h16, (cell_set_off d7 _).trans h7⟩) ((go_at_call 63; refine (right_any _ _ (by first | exact l15 | exact l2) (by decide) _).mono ?_; rintro e1 w1 ⟨rfl, rfl⟩))
          go_wp2
          rw [← hW.out]
          refine ⟨⟨k + 1, by omega, by omega, by go_num, ((hnw.drewN _).setCell _ _ (fun h => absurd h (by simp))), ?_, ?_⟩, by simp [intOf]; omega⟩
          · exact (heap_set_ne (by omega) _).trans hz
          · rw [← wcs_set B k (by omega)]
            exact heap_set hc _
        · obtain rfl : k = 64 := by omega
          go_wp2_with first
            | (refine wp_load_agg rfl (.tmp 3) 136 64 rfl Tryd.isAgg136 Tryd.sizeOf136 (w.heap.size + 1) 0 rfl (wcs B 64) 136 (0, 0) hc (wcs B 64) (wcs_size _ _) (fun j _ => by rw [Nat.zero_add]) ?_)
            | (refine wp_store_agg rfl (.tmp 2) (.tmp 83) 136 64 rfl Tryd.sizeOf136 w.heap.size 0 rfl z64 136 hz (wcs B 64) rfl (wcs_size _ _) (wcs_one B 64) (by decide) (wcs B 64) (by rw [z64_drop]; simp) ?_; intro w4 j4 f4 z4)
          exact bodyPost_ret (results_cell Tryd.results61 Tryd.isAgg136 Tryd.sizeOf136 rfl j4 (wcs_size _ _)) rfl ⟨rfl, hnw.trans f4 (fun k hk q => by omega)⟩
end Go.Proofs.YthkkjpefealdgaaDoor
