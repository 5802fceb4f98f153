/- A number in so many bytes, as the reference makes it; the form of a thing. -/
import Derived.Test.YtlkkadkdanjfoaaDoorV1
import Derived.Test.YtlkkadkdanjfoaaDoorY3
namespace Go.Proofs.YtlkkadkdanjfoaaDoor
open Go.RowKit Go.Lib
set_option linter.unusedVariables false
set_option linter.unusedSimpArgs false

theorem results_two {P : Program} {w : World} {fn : Func} {i j : Nat} {t : TypeId} {n g : Nat} {tmps : Array Value} {V : Array Value} {v0 : Value} {ty : TypeId} {f : Nat × Nat} (hr : fn.results = #[.tmp i, .cell j t]) (hagg : ∀ W : World, (isAgg t).run P W = .ok true W) (hsz : ∀ W : World, (sizeOf t).run P W = .ok n W)
    (h0 : tmps.getD i undef = v0) (hx : tmps.getD j undef = .pointer (some ⟨g, 0, none⟩)) (hg : w.heap[g]? = some (.cells V ty f)) (hV : V.size = n) : (results fn tmps).run P w = .ok (.tuple #[v0, .agg V]) w := by
  have hl : (loadCells ⟨g, 0, none⟩ n).run P w = .ok V w := by
    have := run_loadCells_list (P := P) w ⟨g, 0, none⟩ V.toList (fun j v hv => by
      rw [addZ, cell_of hg]
      simpa using hv)
    simpa [hV] using this
  have ha : ∀ W : World, (asAddr (.pointer (some ⟨g, 0, none⟩))).run P W = .ok ⟨g, 0, none⟩ W := fun W => by simp [asAddr]
  have hx2 : tmps[j]?.getD undef = .pointer (some ⟨g, 0, none⟩) := by rw [← hx]; simp [Array.getD]; split <;> simp_all
  have h02 : tmps[i]?.getD undef = v0 := by rw [← h0]; simp [Array.getD]; split <;> simp_all
  simp [results, hr, hx2, h02, ha, loadVar, hagg, hsz, hl]

theorem made8 (m : Nat) (h1 : 1 ≤ m) (h8 : m ≤ 8) : (madeCells (Value.int .u8 0).cells (m * 1)).toList = List.replicate m (Value.int .u8 0) := by
  rw [Nat.mul_one]
  exact toList_madeCells_one _ _
theorem make8 (m : Nat) (h1 : 1 ≤ m) (h8 : m ≤ 8) : ∃ Z : Array Value, Z.toList = List.replicate m (Value.int .u8 0) ∧ ∀ W : World, (Instr.makeSlice 25 (.int .i64 (m : Int)) (.int .i64 (m : Int))).run Tryd.prog W = .ok (.slice (some ⟨W.heap.size, 0, none⟩) m m) (W.alloc (.cells Z 5)) := by
  obtain ⟨i0, hi, hz0, hz1, hz2⟩ := info_parts8
  refine ⟨_, made8 m h1 h8, fun W => ?_⟩
  have := run_makeSlice (P := Tryd.prog) W 25 5 i0 (.int .u8 0) Tryd.underlying25 hi hz0 .i64 .i64 m m (by omega) (by omega) (by rw [hz1]; omega) (by rw [hz2]; omega) (by omega)
  rw [this, Int.toNat_natCast, hz1]
theorem low_byte (X : Nat) : (Value.int .u8 ((X : Int) % 256)) = .int .u8 ((UInt8.ofNat X).toNat : Nat) := by
  rw [UInt8.toNat_ofNat']
  congr 1
theorem list_set (k : Nat) (z x : Value) (r : List Value) : (List.replicate (k + 1) z ++ r).set k x = List.replicate k z ++ x :: r := by
  rw [List.replicate_succ', List.append_assoc, List.set_append_right _ _ (by simp)]
  simp

set_option maxRecDepth 100000 in
set_option maxHeartbeats 2000000 in
theorem refFixed (N m : Nat) (w : World) (hN : N < 18446744073709551616) (h1 : 1 ≤ m) (h8 : m ≤ 8) :
    Calls Tryd.prog 29 #[.int .u64 N, .int .i64 m] w fun e w' => (e = .returned (if N < 256 ^ m then .tuple #[.string ⟨(fixB m N).toArray⟩, .agg #[.int .i64 0, .int .i64 0]] else .tuple #[.string ⟨#[]⟩, .agg #[.int .i64 2, .int .i64 (-1)]])) ∧ Fr (fun _ => False) w w' := by
  obtain ⟨R, hR⟩ : ∃ R, R = (if N < 256 ^ m then Value.tuple #[.string ⟨(fixB m N).toArray⟩, .agg #[.int .i64 0, .int .i64 0]] else .tuple #[.string ⟨#[]⟩, .agg #[.int .i64 2, .int .i64 (-1)]]) := ⟨_, rfl⟩
  have HR : Hid (R = (if N < 256 ^ m then Value.tuple #[.string ⟨(fixB m N).toArray⟩, .agg #[.int .i64 0, .int .i64 0]] else .tuple #[.string ⟨#[]⟩, .agg #[.int .i64 2, .int .i64 (-1)]])) := hR
  rw [← hR]
  clear hR
  obtain ⟨Z, hZ, hmk⟩ := make8 m h1 h8
  have HZ : Hid (Z.toList = List.replicate m (Value.int .u8 0)) := hZ
  clear hZ
  have hm1 : ¬ ((m : Int) < 1) := by omega
  have hm8 : ¬ ((8 : Int) < m) := by omega
  have fa : Fr (fun _ => False) w (w.alloc (.cells #[.int .i64 0, .int .i64 0] 37)) := (Fr.refl _ _).alloc _
  obtain ⟨wb, hwb⟩ : ∃ wb, wb = (w.alloc (.cells #[.int .i64 0, .int .i64 0] 37)).alloc (.cells Z 5) := ⟨_, rfl⟩
  have hfb : Fr (fun _ => False) w wb := by rw [hwb]; exact fa.alloc _
  have hb1 : wb.heap[w.heap.size]? = some (.cells #[.int .i64 0, .int .i64 0] 37 (0, 0)) := by rw [hwb]; exact (Below.heap_alloc _ _ _ (by simp)).trans (heap_alloc_new w _)
  have hb2 : wb.heap[w.heap.size + 1]? = some (.cells Z 5 (0, 0)) := by
    rw [hwb]
    have := heap_alloc_new (w.alloc (.cells #[.int .i64 0, .int .i64 0] 37)) (.cells Z 5)
    simpa using this
  go_enter Tryd.func29, Tryd.ntmps29
  go_wp2
  rw [← hwb]
  clear hwb hmk fa
  go_loopw [0, 7] (fun n i wr => ∃ (k : Nat) (C : Array Value), i = .int .i64 ((k : Int) - 1) ∧ k ≤ m ∧ n = .int .u64 ((N / 256 ^ (m - k) : Nat) : Int) ∧ wr.heap[w.heap.size + 1]? = some (.cells C 5 (0, 0)) ∧ C.toList = List.replicate k (Value.int .u8 0) ++ bc (fixB (m - k) N) ∧ wr.heap[w.heap.size]? = some (.cells #[.int .i64 0, .int .i64 0] 37 (0, 0)) ∧ Fr (fun _ => False) w wr) (fun _ i _ => (RowKit.intOf i + 1).toNat)
  case atStart => exact ⟨m, Z, by go_num, Nat.le_refl _, by rw [Nat.sub_self]; simp, hb2, by rw [HZ.out, Nat.sub_self]; simp [fixB, bc], hb1, hfb⟩
  case round =>
    obtain ⟨k, C, rfl, hk, rfl, hg, hC, hg0, hf⟩ := hrel
    have HC : Hid (C.toList = List.replicate k (Value.int .u8 0) ++ bc (fixB (m - k) N)) := hC
    rcases k with _ | k
    · clear hC
      have hCl : C.toList = bc (fixB m N) := by rw [HC.out]; simp
      have hcv : (convert 25 9 (.slice (some ⟨w.heap.size + 1, 0, none⟩) m m)).run Tryd.prog wr = .ok (.string ⟨(fixB m N).toArray⟩) wr := by
        have := run_convert_bytes_back (P := Tryd.prog) wr 25 9 5 ⟨w.heap.size + 1, 0, none⟩ m (fixB m N) Tryd.underlying25 Tryd.underlying5 Tryd.underlying9 (fun j hj => by
          rw [addZ, cell_of hg, ← Array.getElem?_toList, hCl]
          simp [bc, hj])
        rwa [fixB_len] at this
      have HCL : Hid (C.toList = bc (fixB m N)) := hCl
      clear hCl
      have hgl := heap_lt hg0
      by_cases hb : N < 256 ^ m
      · have e0 : N / 256 ^ (m - 0) = 0 := by rw [Nat.sub_zero]; exact Nat.div_eq_of_lt hb
        rw [e0]
        go_wp2_with (refine wp_store_agg rfl (.tmp 5) (.tmp 36) 37 2 rfl Tryd.sizeOf37 w.heap.size 0 rfl #[.int .i64 0, .int .i64 0] 37 hg0 #[.int .i64 0, .int .i64 0] rfl rfl (by simp [Value.oneCell']) (by decide) #[.int .i64 0, .int .i64 0] rfl ?_; intro w5 j5 f5 z5)
        exact bodyPost_ret (results_two Tryd.results29 Tryd.isAgg37 Tryd.sizeOf37 rfl rfl j5 rfl) rfl ⟨by rw [HR.out, if_pos hb]; rfl, hf.trans f5 (fun k hk q => by omega)⟩
      · have e0 : 0 < N / 256 ^ (m - 0) := by rw [Nat.sub_zero]; exact Nat.div_pos (by omega) (Nat.pow_pos (by omega))
        obtain ⟨X, hX⟩ : ∃ X, X = N / 256 ^ (m - 0) := ⟨_, rfl⟩
        rw [← hX] at e0 ⊢
        clear hX
        have e0' : (0 : Int) < X := by omega
        go_wp2_with fail
        refine (plain_any 2 wr (by omega)).mono ?_
        rintro e w4 ⟨rfl, f4⟩
        have hg4 := (f4.block _ hgl (fun f => f)).trans hg0
        go_wp2_with (refine wp_store_agg rfl (.tmp 5) (.tmp 33) 37 2 rfl Tryd.sizeOf37 w.heap.size 0 rfl #[.int .i64 0, .int .i64 0] 37 hg4 #[.int .i64 2, .int .i64 (-1)] rfl rfl (by simp [Value.oneCell']) (by decide) #[.int .i64 2, .int .i64 (-1)] rfl ?_; intro w5 j5 f5 z5)
        exact bodyPost_ret (results_two Tryd.results29 Tryd.isAgg37 Tryd.sizeOf37 rfl rfl j5 rfl) rfl ⟨by rw [HR.out, if_neg hb]; rfl, (hf.trans f4 (fun _ _ q => q)).trans f5 (fun k hk q => by omega)⟩
    · have hCs : C.size = m := by
        have := congrArg List.length hC
        rw [Array.length_toList, List.length_append, List.length_replicate, bc_len, fixB_len] at this
        omega
      have hck : wr.cell? ⟨w.heap.size + 1, k, none⟩ = some (.int .u8 0) := by
        rw [cell_of hg, ← Array.getElem?_toList, hC, List.getElem?_append_left (by simp)]
        simp
      clear hC
      have hfz := frozen_of hg k
      have hge : (0 : Int) ≤ ((k + 1 : Nat) : Int) - 1 := by omega
      have hkm : k < m := by omega
      obtain ⟨X, hX⟩ : ∃ X, X = N / 256 ^ (m - (k + 1)) := ⟨_, rfl⟩
      have HX : Hid (X = N / 256 ^ (m - (k + 1))) := hX
      have hXb : X ≤ N := by rw [hX]; exact Nat.div_le_self _ _
      rw [← hX]
      clear hX
      rw [show ((k + 1 : Nat) : Int) - 1 = (k : Int) by omega]
      have hkm' : (k : Int) < m := by omega
      go_wp2
      go_roundw
      case rel =>
        refine ⟨k, C.setIfInBounds k (.int .u8 ((UInt8.ofNat X).toNat : Nat)), by go_num, by omega, ?_, ?_, ?_, ?_, ?_⟩
        · congr 1
          have e : N / 256 ^ (m - k) = X / 256 := by
            rw [HX.out, Nat.div_div_eq_div_mul, ← Nat.pow_succ]
            congr 2
            omega
          rw [e]
          first
            | rfl
            | omega
            | go_num
        · rw [← low_byte]
          exact heap_set hg _
        · rw [Array.toList_setIfInBounds, HC.out, list_set]
          have e : m - k = (m - (k + 1)) + 1 := by omega
          rw [e]
          show _ = _ ++ bc (UInt8.ofNat (N / 256 ^ (m - (k + 1))) :: fixB (m - (k + 1)) N)
          rw [← HX.out]
          rfl
        · exact (heap_set_ne (by omega) _).trans hg0
        · exact hf.setCell _ _ (fun h => by simp at h; omega)
      case measure => simp [RowKit.intOf]
end Go.Proofs.YtlkkadkdanjfoaaDoor
