/- SHA of bytes; what end answers. -/
import Derived.Test.YthkkjpefealdgaaDoorP6
namespace Go.Proofs.YthkkjpefealdgaaDoor
open Go.RowKit
set_option linter.unusedVariables false
set_option linter.unusedSimpArgs false

/-- How many noughts follow. -/
def zc (n : Nat) : Nat := (120 - (n + 1) % 64) % 64
/-- A number as eight bytes. -/
def lby (n i : Nat) : UInt8 := UInt8.ofNat (n / 2 ^ (8 * (7 - i)))
def len8 (n : Nat) : List UInt8 := [lby n 0, lby n 1, lby n 2, lby n 3, lby n 4, lby n 5, lby n 6, lby n 7]
def pad (L : List UInt8) : List UInt8 := ((L ++ [128]) ++ List.replicate (zc L.length) 0) ++ len8 (8 * L.length)
/-- The words of SHA. -/
def sha (L : List UInt8) : V8 := st (pad L) ((pad L).length / 64)
theorem sha_ok (L : List UInt8) : (sha L).ok := st_ok _ _
def lcs (n t : Nat) : Array Value := Array.ofFn (n := 8) fun i => .int .u8 ((if i.val < t then (lby n i.val).toNat else 0 : Nat) : Int)
def zb8 : Array Value := Array.replicate 8 (.int .u8 0)
theorem lcs_0 (n : Nat) : lcs n 0 = zb8 := by
  apply Array.ext
  · simp [lcs, zb8]
  · intro i h1 h2
    simp [lcs, zb8]
theorem lcs_set (n t : Nat) (ht : t < 8) : (lcs n t).setIfInBounds t (.int .u8 (((lby n t).toNat : Nat) : Int)) = lcs n (t + 1) := by
  apply Array.ext
  · simp [lcs]
  · intro i h1 h2
    rw [Array.getElem_setIfInBounds (by simpa using h1)]
    simp only [lcs, Array.getElem_ofFn]
    by_cases h : t = i
    · subst h; simp
    · rw [if_neg h]
      have : (i < t + 1) = (i < t) := by apply propext; omega
      simp only [this]
theorem lby_val (n i : Nat) : (n : Int) / 2 ^ (8 * (7 - i)) % 256 = (((lby n i).toNat : Nat) : Int) := by
  rw [lby, UInt8.toNat_ofNat']
  simp
abbrev n64 : ByteArray := ⟨#[0, 0, 0, 0, 0, 0, 0, 0, 0, 0, 0, 0, 0, 0, 0, 0, 0, 0, 0, 0, 0, 0, 0, 0, 0, 0, 0, 0, 0, 0, 0, 0, 0, 0, 0, 0, 0, 0, 0, 0, 0, 0, 0, 0, 0, 0, 0, 0, 0, 0, 0, 0, 0, 0, 0, 0, 0, 0, 0, 0, 0, 0, 0, 0]⟩
theorem n64_list : n64.data.toList = List.replicate 64 0 := by kernel_rfl
theorem n64_cut (z : Nat) (hz : z ≤ 64) : (n64.extract 0 z).data.toList = List.replicate z 0 := by
  rw [ByteArray.data_extract, Array.toList_extract, n64_list]
  simp only [List.extract_eq_take_drop, Nat.sub_zero, List.drop_zero, List.take_replicate, Nat.min_eq_left hz]
theorem n64_size (z : Nat) (hz : z ≤ 64) : (n64.extract 0 z).size = z := by
  have h1 : (n64.extract 0 z).data.toList.length = (n64.extract 0 z).size := by rw [Array.length_toList]; rfl
  rw [← h1, n64_cut z hz, List.length_replicate]
theorem len_b8 : Tryd.prog.arrayLen 116 = 8 := by kernel_rfl
theorem elem_b8 : Tryd.prog.elem 116 = 5 := by kernel_rfl
theorem slice8 (bb : Nat) (w : World) : (Instr.sliceAt 116 (.pointer (some ⟨bb, 0, none⟩)) none none none).run Tryd.prog w = .ok (.slice (some ⟨bb, 0, none⟩) 8 8) w := by
  rw [run_sliceAt_array_all w _ _ (by rw [len_b8, elem_b8]; exact Tryd.underlying116), elem_b8, Tryd.sizeOf5 w, len_b8]
  rfl
theorem conv8 (bb n : Nat) (w : World) (h : w.heap[bb]? = some (.cells (lcs n 8) 116 (0, 0))) : (convert 62 9 (.slice (some ⟨bb, 0, none⟩) 8 8)).run Tryd.prog w = .ok (.string ⟨(len8 n).toArray⟩) w := by
  refine run_convert_bytes_back w 62 9 5 ⟨bb, 0, none⟩ 8 (len8 n) Tryd.underlying62 Tryd.underlying5 Tryd.underlying9 (fun j hj => ?_)
  rw [addZ, cell_of h]
  have hj8 : j < 8 := hj
  have hx : (len8 n)[j]'hj = lby n j := by
    have : j = 0 ∨ j = 1 ∨ j = 2 ∨ j = 3 ∨ j = 4 ∨ j = 5 ∨ j = 6 ∨ j = 7 := by omega
    rcases this with rfl | rfl | rfl | rfl | rfl | rfl | rfl | rfl <;> rfl
  rw [hx, lcs, Array.getElem?_ofFn, dif_pos hj8, if_pos hj8]
theorem Dig.cell {w : World} {d : Nat} {L : List UInt8} (h : Dig w d L) : w.cell? ⟨d, 73, none⟩ = some (.int .u64 (L.length : Int)) := by
  obtain ⟨blk, h1, h2, h3⟩ := h
  exact (cell_of h3 73).trans (dcs_73 _ _ _ h1)
theorem Dig.words {w : World} {d : Nat} {L : List UInt8} (h : Dig w d L) : ∀ j, j < 8 → w.cell? ⟨d, 1 + j, none⟩ = (vals (st L (L.length / 64)))[j]? := by
  obtain ⟨blk, h1, h2, h3⟩ := h
  intro j hj
  rw [cell_of h3, dcs_w _ _ _ _ hj]
theorem Ks.fr {w w' : World} {d : Nat} (h : Ks w) (k : Fr (fun k => k = d) w w') (hn : d ≠ 18) : Ks w' := fun i hi => (k.cell (World.block_lt_of_cell? w _ (h i hi)) (fun e => hn e.symm)).trans (h i hi)
theorem sha_eq {L M : List UInt8} (h : M = pad L) : st M (M.length / 64) = sha L := by rw [h]; rfl

set_option maxRecDepth 100000 in
set_option maxHeartbeats 1000000 in
theorem end_any (d : Nat) (L : List UInt8) (w : World) (hD : Dig w d L) (hK : Ks w) (hne : d ≠ 18) (hlen : L.length < 576460752303423488) :
    Calls Tryd.prog 46 #[.pointer (some ⟨d, 0, none⟩)] w fun e w' => e = .returned (hsh (sha L)) ∧ Fr (fun k => k = d) w w' := by
  have HK : Hid (Ks w) := hK
  have HN : Hid (d ≠ 18) := hne
  clear hK hne
  obtain ⟨R, hR⟩ : ∃ R, R = hsh (sha L) := ⟨_, rfl⟩
  rw [← hR]
  have HR : Hid (R = hsh (sha L)) := hR
  clear hR
  have hcell := hD.cell
  have hdl := hD.lt
  have hdn : ¬ d = w.heap.size := by omega
  have HD : Hid (Dig w d L) := hD
  clear hD
  obtain ⟨N, hN⟩ : ∃ N, N = 8 * L.length := ⟨_, rfl⟩
  have hmul : IntKind.u64.wrap (8 * (L.length : Int)) = (N : Int) := by rw [IntKind.wrap_u64]; omega
  have hmul2 : 8 * (L.length : Int) = (N : Int) := by omega
  have hNl : (N : Int) < 4611686018427387904 := by omega
  have HNN : Hid (N = 8 * L.length) := hN
  clear hN
  go_enter Tryd.func46, Tryd.ntmps46
  go_wp2_with fail
  have z0 := (heap_new w (.cells #[.int .u8 0, .int .u8 0, .int .u8 0, .int .u8 0, .int .u8 0, .int .u8 0, .int .u8 0, .int .u8 0, .int .u8 0, .int .u8 0, .int .u8 0, .int .u8 0, .int .u8 0, .int .u8 0, .int .u8 0, .int .u8 0, .int .u8 0, .int .u8 0, .int .u8 0, .int .u8 0, .int .u8 0, .int .u8 0, .int .u8 0, .int .u8 0, .int .u8 0, .int .u8 0, .int .u8 0, .int .u8 0, .int .u8 0, .int .u8 0, .int .u8 0, .int .u8 0] 32)).trans (show _ = some (.cells z32 32 (0, 0)) by kernel_rfl)
  have n0 : Nw w (w.alloc (.cells #[.int .u8 0, .int .u8 0, .int .u8 0, .int .u8 0, .int .u8 0, .int .u8 0, .int .u8 0, .int .u8 0, .int .u8 0, .int .u8 0, .int .u8 0, .int .u8 0, .int .u8 0, .int .u8 0, .int .u8 0, .int .u8 0, .int .u8 0, .int .u8 0, .int .u8 0, .int .u8 0, .int .u8 0, .int .u8 0, .int .u8 0, .int .u8 0, .int .u8 0, .int .u8 0, .int .u8 0, .int .u8 0, .int .u8 0, .int .u8 0, .int .u8 0, .int .u8 0] 32)) := (Fr.refl _ _).alloc _
  generalize (w.alloc (.cells #[.int .u8 0, .int .u8 0, .int .u8 0, .int .u8 0, .int .u8 0, .int .u8 0, .int .u8 0, .int .u8 0, .int .u8 0, .int .u8 0, .int .u8 0, .int .u8 0, .int .u8 0, .int .u8 0, .int .u8 0, .int .u8 0, .int .u8 0, .int .u8 0, .int .u8 0, .int .u8 0, .int .u8 0, .int .u8 0, .int .u8 0, .int .u8 0, .int .u8 0, .int .u8 0, .int .u8 0, .int .u8 0, .int .u8 0, .int .u8 0, .int .u8 0, .int .u8 0] 32)) = w0 at z0 n0 ⊢
  have D0 := HD.out.keep n0 (fun f => f)
  have q1 := take_any d L ⟨#[128]⟩ w0 D0 (HK.out.nw n0) HN.out (by show L.length + 1 < _; omega)
  refine q1.mono ?_
  rintro e1 w1 ⟨rfl, D1, f1⟩
  have z1 := (f1.block w.heap.size (heap_lt z0) (fun e => hdn e.symm)).trans z0
  have g1 : Fr (fun k => k = d) w w1 := (n0.mono (fun _ _ f => f.elim)).trans f1 (fun _ _ q => q)
  clear q1 z0 f1 D0 n0
  obtain ⟨L1, hL1⟩ : ∃ L1, L1 = L ++ [128] := ⟨_, rfl⟩
  have D1' : Dig w1 d L1 := by rw [hL1]; exact D1
  have hl1 : L1.length = L.length + 1 := by rw [hL1]; simp
  have HL1 : Hid (L1 = L ++ [128]) := hL1
  have HD1 : Hid (Dig w1 d L1) := D1'
  clear D1 D1' hL1
  go_wp2_with fail
  have q2 := filled_any d L1.length (by omega) w1 HD1.out.cell
  obtain ⟨r, hr⟩ : ∃ r, r = L1.length % 64 := ⟨_, rfl⟩
  rw [← hr] at q2
  refine q2.mono ?_
  rintro e2 w2 ⟨rfl, rfl⟩
  clear q2
  have hr64 : r < 64 := by omega
  obtain ⟨z, hz⟩ : ∃ z, z = (120 - r) % 64 := ⟨_, rfl⟩
  have hz64 : z < 64 := by omega
  have HZ : Hid (z = zc L.length) := by unfold Hid zc; rw [hz, hr, hl1]
  have et : ((120 : Int) - (r : Int)) % 64 = (z : Int) := by omega
  have et2 : ((120 : Int) - (r : Int)).tmod 64 = (z : Int) := by rw [Int.tmod_eq_emod_of_nonneg (by omega)]; exact et
  have hzs : (z : Int) ≤ 64 := by omega
  clear hz hr
  go_wp2_with fail
  have q3 := take_any d L1 (n64.extract 0 z) w2 HD1.out (HK.out.fr g1 HN.out) HN.out (by rw [n64_size z (by omega)]; omega)
  rw [n64_cut z (by omega)] at q3
  refine q3.mono ?_
  rintro e3 w3 ⟨rfl, D3, f3⟩
  have z3 := (f3.block w.heap.size (heap_lt z1) (fun e => hdn e.symm)).trans z1
  have g3 : Fr (fun k => k = d) w w3 := g1.trans f3 (fun _ _ q => q)
  clear q3 z1 f3 et et2 HD1 hcell hmul hmul2
  obtain ⟨L3, hL3⟩ : ∃ L3, L3 = L1 ++ List.replicate z 0 := ⟨_, rfl⟩
  have D3' : Dig w3 d L3 := by rw [hL3]; exact D3
  have hl3 : L3.length = L1.length + z := by rw [hL3]; simp
  have HL3 : Hid (L3 = L1 ++ List.replicate z 0) := hL3
  have HD3 : Hid (Dig w3 d L3) := D3'
  clear D3 D3' hL3
  have hs3 := g3.size
  have hz3 := heap_lt z3
  go_wp2
  go_loopw [20] (fun i wr => ∃ k : Nat, k ≤ 8 ∧ i = .int .i64 k ∧ Nw w3 wr ∧ wr.heap[w3.heap.size]? = some (.cells (lcs N k) 116 (0, 0))) (fun i _ => 8 - (intOf i).toNat)
  case atStart =>
    refine ⟨0, by omega, rfl, (Fr.refl _ _).alloc _, ?_⟩
    rw [lcs_0]
    exact (heap_new w3 _).trans (by kernel_rfl)
  case round =>
    obtain ⟨k, hk, rfl, hnw, hc⟩ := hrel
    by_cases hlt : k < 8
    · have hki : (k : Int) < 8 := by omega
      have hcs : wr.cell? ⟨w3.heap.size, k, none⟩ = some (.int .u8 0) := (cell_of hc k).trans (by rw [lcs, Array.getElem?_ofFn, dif_pos (by omega), if_neg (by simp)]; rfl)
      have hfz : wr.frozen? ⟨w3.heap.size, k, none⟩ = false := frozen_of hc k
      go_wp2
      rw [lby_val]
      refine ⟨⟨k + 1, by omega, by go_num, hnw.setCell _ _ (fun h => absurd h (by simp)), ?_⟩, by simp [intOf]; omega⟩
      rw [← lcs_set N k hlt]
      exact heap_set hc _
    · obtain rfl : k = 8 := by omega
      have hsl := slice8 w3.heap.size wr
      have hcv := conv8 w3.heap.size N wr hc
      have Dr := HD3.out.keep hnw (fun f => f)
      have zr := (hnw.block w.heap.size hz3 (fun f => f)).trans z3
      have gr : Fr (fun k => k = d) w wr := g3.trans (hnw.mono (fun _ _ f => f.elim)) (fun _ _ q => q)
      have HDr : Hid (Dig wr d L3) := Dr
      clear Dr
      go_wp2_with fail
      have q5 := take_any d L3 ⟨(len8 N).toArray⟩ wr HDr.out (HK.out.fr gr HN.out) HN.out (by show L3.length + 8 < _; omega)
      refine q5.mono ?_
      rintro e5 w5 ⟨rfl, D5, f5⟩
      have z5 := (f5.block w.heap.size (heap_lt zr) (fun e => hdn e.symm)).trans zr
      have g5 : Fr (fun k => k = d) w w5 := gr.trans f5 (fun _ _ q => q)
      have D5' : Dig w5 d (L3 ++ len8 N) := D5
      have HP : Hid (L3 ++ len8 N = pad L) := by unfold Hid pad; rw [HL3.out, HL1.out, HZ.out, HNN.out]
      obtain ⟨b5, h51, h52, h53⟩ := D5'
      obtain ⟨T, hT⟩ : ∃ T, T = st (L3 ++ len8 N) ((L3 ++ len8 N).length / 64) := ⟨_, rfl⟩
      rw [← hT] at h53
      have HT : Hid (T = sha L) := by unfold Hid; rw [hT]; exact sha_eq HP.out
      have hTok : T.ok := by rw [hT]; exact st_ok _ _
      clear hT q5 f5 D5 h52 zr gr hcv hsl hc hnw z3
      generalize (L3 ++ len8 N).length = m5 at h53
      go_wp2_with first
        | (refine wp_load_agg rfl (.tmp 38) 93 8 rfl Tryd.isAgg93 Tryd.sizeOf93 d 1 rfl (dcs T b5 m5) tD (0, 0) h53 (vals T) rfl (fun j hj => dcs_w T b5 m5 j hj) ?_)
        | (go_at_call 58; refine (asHash_any T hTok w5).mono ?_; rintro e6 w6 ⟨rfl, n6⟩; have z6 := (n6.block w.heap.size (heap_lt z5) (fun f => f)).trans z5; unfold hsh)
        | (refine wp_store_agg rfl (.tmp 2) (.tmp 40) 32 32 rfl Tryd.sizeOf32 w.heap.size 0 rfl z32 32 z6 (hcs T 32) rfl (hcs_size _ _) (hcs_one T 32) (by decide) (hcs T 32) (by rw [z32_drop]; simp) ?_; intro w7 j7 f7 z7)
      exact bodyPost_ret (results_cell Tryd.results46 Tryd.isAgg32 Tryd.sizeOf32 rfl j7 (hcs_size _ _)) rfl ⟨by rw [HR.out, ← HT.out]; rfl, (g5.trans (n6.mono (fun _ _ f => f.elim)) (fun _ _ q => q)).trans f7 (fun k hk q => by omega)⟩
end Go.Proofs.YthkkjpefealdgaaDoor
