/- took of a reader that is not there, or that nobody made. -/
import Derived.Test.YtebbgpnhkpbefaaDoorcS3
namespace Go.Proofs.YtebbgpnhkpbefaaDoor
open Go.RowKit
set_option linter.unusedVariables false
set_option linter.unusedSimpArgs false
set_option maxRecDepth 100000 in
set_option maxHeartbeats 4000000 in
theorem tookg0 (rp : Option Addr) (b : Nat) (A : Array Value) (kd wd : Int) (w : World) (PF : Int → World → Prop) (hb : b < w.heap.size) (hA : A.size = 37) (hA1 : A[1]? = some (.int .i64 kd)) (hA3 : A[3]? = some (.int .i64 wd)) (hk1 : -9223372036854775808 ≤ kd) (hk2 : kd ≤ 9223372036854775807) (hk : kd % 4 = 0)
    (hF : ∀ w1, Fr (fun _ => False) w w1 → Calls Tryd.prog 21 #[.pointer rp, .int .i64 wd] w1 fun e w' => ∃ v : Int, e = .returned (.int .u64 v) ∧ PF v w' ∧ Fr (fun j => j = b) w1 w')
    (hP : ∀ v w' w'' (S : Nat → Prop), PF v w' → Fr S w' w'' → ¬ S b → PF v w'') :
    Calls Tryd.prog 7 #[.pointer rp, .agg A] w fun e w' => ∃ v : Int, e = .returned (.agg (tZ 0 v wd ⟨#[]⟩)) ∧ PF v w' ∧ Fr (fun j => j = b) w w' := by
  have hr : ∀ W, Calls Tryd.prog 6 #[.int .i64 kd, .int .i64 4] W fun e w' => e = .returned (.int .i64 0) ∧ w' = W := fun W => by have := round_any kd W hk1 hk2; rwa [hk] at this
  have e1 := at_of hA1
  have H3 : Hid (A[3]? = some (.int .i64 wd)) := hA3
  clear hA1 hA3
  go_enter Tryd.func7, Tryd.ntmps7
  go_wp2_with fail
  refine (hr _).mono ?_
  rintro e w1 ⟨rfl, hw1⟩
  obtain ⟨g0, g1, f1, z1⟩ : w1.heap[w.heap.size]? = some (.cells A 40 (0, 0)) ∧ w1.heap[w.heap.size + 1]? = some (.cells (tZ 0 0 0 ⟨#[]⟩) 40 (0, 0)) ∧ Fr (fun _ => False) w w1 ∧ w1.heap.size = w.heap.size + 2 := by
    rw [hw1]
    refine ⟨(Below.heap_alloc _ _ _ (by simp)).trans (heap_alloc_new w _), ?_, ((Fr.refl _ _).alloc _).alloc _, by simp⟩
    have := heap_alloc_new (w.alloc (.cells A 40)) (.cells (tZ 0 0 0 ⟨#[]⟩) 40)
    simpa using this
  clear hw1 e1 hr
  have HZ : Hid (w1.heap.size = w.heap.size + 2) := z1
  clear z1
  have k0 : (w1.alloc (.cells (tZ 0 0 0 ⟨#[]⟩) 40)).heap[w1.heap.size]? = some (.cells (tZ 0 0 0 ⟨#[]⟩) 40 (0, 0)) := heap_alloc_new w1 _
  have hA37 : (tZ 0 0 0 ⟨#[]⟩).size = 37 := rfl
  go_wp2_with (first
    | (refine wp_store_agg rfl (.tmp 6) (.tmp 11) 40 37 rfl Tryd.sizeOf40 w1.heap.size 0 rfl (tZ 0 0 0 ⟨#[]⟩) 40 k0 (tZ 0 0 0 ⟨#[]⟩) rfl rfl (tZ_one _ _ _ _) (by decide) (tZ 0 0 0 ⟨#[]⟩) rfl ?_; intro w2 j2 f2 z2; obtain ⟨s2, r2, n2, g2, q2⟩ := mid (HZ.out) g0 g1 f1 f2 z2 hb; have c2 := (cell_of s2 3).trans H3.out)
    | (go_at_call 21; refine (hF w2 g2).mono ?_; rintro e w3 ⟨v, rfl, p3, f3⟩; obtain ⟨j3, s3, r3, n3⟩ := mid2 HZ.out hb j2 s2 r2 f3; have d1 := (cell_of j3 2).trans (show _ = some (Value.int .u64 0) from rfl); have d2 := frozen_of j3 2; have d3 : ∀ u, (w3.setCell ⟨w1.heap.size, 2, none⟩ u).cell? ⟨w.heap.size, 3, none⟩ = some (.int .i64 wd) := fun u => (cell_of ((heap_set_ne n3.1 u).trans s3) 3).trans H3.out; have d4 : ∀ u, (w3.setCell ⟨w1.heap.size, 2, none⟩ u).cell? ⟨w1.heap.size, 3, none⟩ = some (.int .i64 0) := fun u => (cell_of (heap_set j3 u) 3).trans rfl; have d5 : ∀ u, (w3.setCell ⟨w1.heap.size, 2, none⟩ u).frozen? ⟨w1.heap.size, 3, none⟩ = false := fun u => frozen_of (heap_set j3 u) 3; have hB : ((w3.setCell ⟨w1.heap.size, 2, none⟩ (.int .u64 v)).setCell ⟨w1.heap.size, 3, none⟩ (.int .i64 wd)).heap[w1.heap.size]? = some (.cells (tZ 0 v wd ⟨#[]⟩) 40 (0, 0)) := (heap_set (heap_set j3 _) _); have hR : ((w3.setCell ⟨w1.heap.size, 2, none⟩ (.int .u64 v)).setCell ⟨w1.heap.size, 3, none⟩ (.int .i64 wd)).heap[w.heap.size + 1]? = some (.cells (tZ 0 0 0 ⟨#[]⟩) 40 (0, 0)) := (heap_set_ne n3.2 _).trans ((heap_set_ne n3.2 _).trans r3))
    | (refine wp_load_agg rfl (.tmp 6) 40 37 rfl Tryd.isAgg40 Tryd.sizeOf40 w1.heap.size 0 rfl (tZ 0 v wd ⟨#[]⟩) 40 (0, 0) hB (tZ 0 v wd ⟨#[]⟩) rfl (fun j _ => by rw [Nat.zero_add]) ?_)
    | (refine wp_store_agg rfl (.tmp 4) (.tmp 38) 40 37 rfl Tryd.sizeOf40 (w.heap.size + 1) 0 rfl (tZ 0 0 0 ⟨#[]⟩) 40 hR (tZ 0 v wd ⟨#[]⟩) rfl rfl (tZ_one _ _ _ _) (by decide) (tZ 0 v wd ⟨#[]⟩) rfl ?_; intro w5 j5 f5 z5))
  have f4 : Fr (fun k => k = w1.heap.size) w3 ((w3.setCell ⟨w1.heap.size, 2, none⟩ (.int .u64 v)).setCell ⟨w1.heap.size, 3, none⟩ (.int .i64 wd)) := ((Fr.refl (fun k => k = w1.heap.size) w3).setCell ⟨w1.heap.size, 2, none⟩ _ (fun _ => rfl)).setCell ⟨w1.heap.size, 3, none⟩ _ (fun _ => rfl)
  have hz := HZ.out
  exact bodyPost_ret (results_cell Tryd.results7 Tryd.isAgg40 Tryd.sizeOf40 rfl j5 rfl) rfl ⟨v, rfl, hP v _ _ _ (hP v _ _ _ p3 f4 (by omega)) f5 (by omega), (((g2.mono (fun _ _ f => f.elim)).trans f3 (fun _ _ q => q)).trans f4 (fun k hk q => by omega)).trans f5 (fun k hk q => by omega)⟩
set_option maxRecDepth 100000 in
set_option maxHeartbeats 4000000 in
theorem tookg1 (rp : Option Addr) (b : Nat) (A : Array Value) (kd : Int) (w : World) (PF : Int → World → Prop) (hb : b < w.heap.size) (hA : A.size = 37) (hA1 : A[1]? = some (.int .i64 kd)) (hk1 : -9223372036854775808 ≤ kd) (hk2 : kd ≤ 9223372036854775807) (hk : kd % 4 = 1)
    (hF : ∀ w1, Fr (fun _ => False) w w1 → Calls Tryd.prog 22 #[.pointer rp] w1 fun e w' => ∃ v : Int, e = .returned (.int .u64 v) ∧ PF v w' ∧ Fr (fun j => j = b) w1 w')
    (hP : ∀ v w' w'' (S : Nat → Prop), PF v w' → Fr S w' w'' → ¬ S b → PF v w'') :
    Calls Tryd.prog 7 #[.pointer rp, .agg A] w fun e w' => ∃ v : Int, e = .returned (.agg (tZ 1 v 0 ⟨#[]⟩)) ∧ PF v w' ∧ Fr (fun j => j = b) w w' := by
  have hr : ∀ W, Calls Tryd.prog 6 #[.int .i64 kd, .int .i64 4] W fun e w' => e = .returned (.int .i64 1) ∧ w' = W := fun W => by have := round_any kd W hk1 hk2; rwa [hk] at this
  have e1 := at_of hA1
  clear hA1
  go_enter Tryd.func7, Tryd.ntmps7
  go_wp2_with fail
  refine (hr _).mono ?_
  rintro e w1 ⟨rfl, hw1⟩
  obtain ⟨g0, g1, f1, z1⟩ : w1.heap[w.heap.size]? = some (.cells A 40 (0, 0)) ∧ w1.heap[w.heap.size + 1]? = some (.cells (tZ 0 0 0 ⟨#[]⟩) 40 (0, 0)) ∧ Fr (fun _ => False) w w1 ∧ w1.heap.size = w.heap.size + 2 := by
    rw [hw1]
    refine ⟨(Below.heap_alloc _ _ _ (by simp)).trans (heap_alloc_new w _), ?_, ((Fr.refl _ _).alloc _).alloc _, by simp⟩
    have := heap_alloc_new (w.alloc (.cells A 40)) (.cells (tZ 0 0 0 ⟨#[]⟩) 40)
    simpa using this
  clear hw1 e1 hr
  have HZ : Hid (w1.heap.size = w.heap.size + 2) := z1
  clear z1
  have k0 : (w1.alloc (.cells (tZ 0 0 0 ⟨#[]⟩) 40)).heap[w1.heap.size]? = some (.cells (tZ 0 0 0 ⟨#[]⟩) 40 (0, 0)) := heap_alloc_new w1 _
  have hA37 : (tZ 0 0 0 ⟨#[]⟩).size = 37 := rfl
  go_wp2_with (first
    | (refine wp_store_agg rfl (.tmp 6) (.tmp 11) 40 37 rfl Tryd.sizeOf40 w1.heap.size 0 rfl (tZ 0 0 0 ⟨#[]⟩) 40 k0 (tZ 1 0 0 ⟨#[]⟩) rfl rfl (tZ_one _ _ _ _) (by decide) (tZ 1 0 0 ⟨#[]⟩) rfl ?_; intro w2 j2 f2 z2; obtain ⟨s2, r2, n2, g2, q2⟩ := mid (HZ.out) g0 g1 f1 f2 z2 hb)
    | (go_at_call 22; refine (hF w2 g2).mono ?_; rintro e w3 ⟨v, rfl, p3, f3⟩; obtain ⟨j3, s3, r3, n3⟩ := mid2 HZ.out hb j2 s2 r2 f3; have d1 := (cell_of j3 2).trans (show _ = some (Value.int .u64 0) from rfl); have d2 := frozen_of j3 2; have hB : ((w3.setCell ⟨w1.heap.size, 2, none⟩ (.int .u64 v))).heap[w1.heap.size]? = some (.cells (tZ 1 v 0 ⟨#[]⟩) 40 (0, 0)) := (heap_set j3 _); have hR : ((w3.setCell ⟨w1.heap.size, 2, none⟩ (.int .u64 v))).heap[w.heap.size + 1]? = some (.cells (tZ 0 0 0 ⟨#[]⟩) 40 (0, 0)) := (heap_set_ne n3.2 _).trans r3)
    | (refine wp_load_agg rfl (.tmp 6) 40 37 rfl Tryd.isAgg40 Tryd.sizeOf40 w1.heap.size 0 rfl (tZ 1 v 0 ⟨#[]⟩) 40 (0, 0) hB (tZ 1 v 0 ⟨#[]⟩) rfl (fun j _ => by rw [Nat.zero_add]) ?_)
    | (refine wp_store_agg rfl (.tmp 4) (.tmp 38) 40 37 rfl Tryd.sizeOf40 (w.heap.size + 1) 0 rfl (tZ 0 0 0 ⟨#[]⟩) 40 hR (tZ 1 v 0 ⟨#[]⟩) rfl rfl (tZ_one _ _ _ _) (by decide) (tZ 1 v 0 ⟨#[]⟩) rfl ?_; intro w5 j5 f5 z5))
  have f4 : Fr (fun k => k = w1.heap.size) w3 ((w3.setCell ⟨w1.heap.size, 2, none⟩ (.int .u64 v))) := ((Fr.refl (fun k => k = w1.heap.size) w3).setCell ⟨w1.heap.size, 2, none⟩ _ (fun _ => rfl))
  have hz := HZ.out
  exact bodyPost_ret (results_cell Tryd.results7 Tryd.isAgg40 Tryd.sizeOf40 rfl j5 rfl) rfl ⟨v, rfl, hP v _ _ _ (hP v _ _ _ p3 f4 (by omega)) f5 (by omega), (((g2.mono (fun _ _ f => f.elim)).trans f3 (fun _ _ q => q)).trans f4 (fun k hk q => by omega)).trans f5 (fun k hk q => by omega)⟩
set_option maxRecDepth 100000 in
set_option maxHeartbeats 4000000 in
theorem tookg2 (rp : Option Addr) (b : Nat) (A : Array Value) (kd wd : Int) (w : World) (PF : ByteArray → World → Prop) (hb : b < w.heap.size) (hA : A.size = 37) (hA1 : A[1]? = some (.int .i64 kd)) (hA3 : A[3]? = some (.int .i64 wd)) (hk1 : -9223372036854775808 ≤ kd) (hk2 : kd ≤ 9223372036854775807) (hk : kd % 4 = 2)
    (hF : ∀ w1, Fr (fun _ => False) w w1 → Calls Tryd.prog 23 #[.pointer rp, .int .i64 wd] w1 fun e w' => ∃ v : ByteArray, e = .returned (.string v) ∧ PF v w' ∧ Fr (fun j => j = b) w1 w')
    (hP : ∀ v w' w'' (S : Nat → Prop), PF v w' → Fr S w' w'' → ¬ S b → PF v w'') :
    Calls Tryd.prog 7 #[.pointer rp, .agg A] w fun e w' => ∃ v : ByteArray, e = .returned (.agg (tZ 2 0 0 v)) ∧ PF v w' ∧ Fr (fun j => j = b) w w' := by
  have hr : ∀ W, Calls Tryd.prog 6 #[.int .i64 kd, .int .i64 4] W fun e w' => e = .returned (.int .i64 2) ∧ w' = W := fun W => by have := round_any kd W hk1 hk2; rwa [hk] at this
  have e1 := at_of hA1
  have H3 : Hid (A[3]? = some (.int .i64 wd)) := hA3
  clear hA1 hA3
  go_enter Tryd.func7, Tryd.ntmps7
  go_wp2_with fail
  refine (hr _).mono ?_
  rintro e w1 ⟨rfl, hw1⟩
  obtain ⟨g0, g1, f1, z1⟩ : w1.heap[w.heap.size]? = some (.cells A 40 (0, 0)) ∧ w1.heap[w.heap.size + 1]? = some (.cells (tZ 0 0 0 ⟨#[]⟩) 40 (0, 0)) ∧ Fr (fun _ => False) w w1 ∧ w1.heap.size = w.heap.size + 2 := by
    rw [hw1]
    refine ⟨(Below.heap_alloc _ _ _ (by simp)).trans (heap_alloc_new w _), ?_, ((Fr.refl _ _).alloc _).alloc _, by simp⟩
    have := heap_alloc_new (w.alloc (.cells A 40)) (.cells (tZ 0 0 0 ⟨#[]⟩) 40)
    simpa using this
  clear hw1 e1 hr
  have HZ : Hid (w1.heap.size = w.heap.size + 2) := z1
  clear z1
  have k0 : (w1.alloc (.cells (tZ 0 0 0 ⟨#[]⟩) 40)).heap[w1.heap.size]? = some (.cells (tZ 0 0 0 ⟨#[]⟩) 40 (0, 0)) := heap_alloc_new w1 _
  have hA37 : (tZ 0 0 0 ⟨#[]⟩).size = 37 := rfl
  go_wp2_with (first
    | (refine wp_store_agg rfl (.tmp 6) (.tmp 11) 40 37 rfl Tryd.sizeOf40 w1.heap.size 0 rfl (tZ 0 0 0 ⟨#[]⟩) 40 k0 (tZ 2 0 0 ⟨#[]⟩) rfl rfl (tZ_one _ _ _ _) (by decide) (tZ 2 0 0 ⟨#[]⟩) rfl ?_; intro w2 j2 f2 z2; obtain ⟨s2, r2, n2, g2, q2⟩ := mid (HZ.out) g0 g1 f1 f2 z2 hb; have c2 := (cell_of s2 3).trans H3.out)
    | (go_at_call 23; refine (hF w2 g2).mono ?_; rintro e w3 ⟨v, rfl, p3, f3⟩; obtain ⟨j3, s3, r3, n3⟩ := mid2 HZ.out hb j2 s2 r2 f3; have d1 := (cell_of j3 4).trans (show _ = some (Value.string ⟨#[]⟩) from rfl); have d2 := frozen_of j3 4; have hB : ((w3.setCell ⟨w1.heap.size, 4, none⟩ (.string v))).heap[w1.heap.size]? = some (.cells (tZ 2 0 0 v) 40 (0, 0)) := (heap_set j3 _); have hR : ((w3.setCell ⟨w1.heap.size, 4, none⟩ (.string v))).heap[w.heap.size + 1]? = some (.cells (tZ 0 0 0 ⟨#[]⟩) 40 (0, 0)) := (heap_set_ne n3.2 _).trans r3)
    | (refine wp_load_agg rfl (.tmp 6) 40 37 rfl Tryd.isAgg40 Tryd.sizeOf40 w1.heap.size 0 rfl (tZ 2 0 0 v) 40 (0, 0) hB (tZ 2 0 0 v) rfl (fun j _ => by rw [Nat.zero_add]) ?_)
    | (refine wp_store_agg rfl (.tmp 4) (.tmp 38) 40 37 rfl Tryd.sizeOf40 (w.heap.size + 1) 0 rfl (tZ 0 0 0 ⟨#[]⟩) 40 hR (tZ 2 0 0 v) rfl rfl (tZ_one _ _ _ _) (by decide) (tZ 2 0 0 v) rfl ?_; intro w5 j5 f5 z5))
  have f4 : Fr (fun k => k = w1.heap.size) w3 ((w3.setCell ⟨w1.heap.size, 4, none⟩ (.string v))) := ((Fr.refl (fun k => k = w1.heap.size) w3).setCell ⟨w1.heap.size, 4, none⟩ _ (fun _ => rfl))
  have hz := HZ.out
  exact bodyPost_ret (results_cell Tryd.results7 Tryd.isAgg40 Tryd.sizeOf40 rfl j5 rfl) rfl ⟨v, rfl, hP v _ _ _ (hP v _ _ _ p3 f4 (by omega)) f5 (by omega), (((g2.mono (fun _ _ f => f.elim)).trans f3 (fun _ _ q => q)).trans f4 (fun k hk q => by omega)).trans f5 (fun k hk q => by omega)⟩
set_option maxRecDepth 100000 in
set_option maxHeartbeats 4000000 in
theorem tookg3 (rp : Option Addr) (b : Nat) (A : Array Value) (kd : Int) (w : World) (PF : List UInt8 → World → Prop) (hb : b < w.heap.size) (hA : A.size = 37) (hA1 : A[1]? = some (.int .i64 kd)) (hk1 : -9223372036854775808 ≤ kd) (hk2 : kd ≤ 9223372036854775807) (hk : kd % 4 = 3)
    (hF : ∀ w1, Fr (fun _ => False) w w1 → Calls Tryd.prog 24 #[.pointer rp] w1 fun e w' => ∃ v : List UInt8, v.length = 32 ∧ e = .returned (.agg (bc v).toArray) ∧ PF v w' ∧ Fr (fun j => j = b) w1 w')
    (hP : ∀ v w' w'' (S : Nat → Prop), PF v w' → Fr S w' w'' → ¬ S b → PF v w'') :
    Calls Tryd.prog 7 #[.pointer rp, .agg A] w fun e w' => ∃ v : List UInt8, v.length = 32 ∧ e = .returned (.agg (tH v)) ∧ PF v w' ∧ Fr (fun j => j = b) w w' := by
  have hr : ∀ W, Calls Tryd.prog 6 #[.int .i64 kd, .int .i64 4] W fun e w' => e = .returned (.int .i64 3) ∧ w' = W := fun W => by have := round_any kd W hk1 hk2; rwa [hk] at this
  have e1 := at_of hA1
  clear hA1
  go_enter Tryd.func7, Tryd.ntmps7
  go_wp2_with fail
  refine (hr _).mono ?_
  rintro e w1 ⟨rfl, hw1⟩
  obtain ⟨g0, g1, f1, z1⟩ : w1.heap[w.heap.size]? = some (.cells A 40 (0, 0)) ∧ w1.heap[w.heap.size + 1]? = some (.cells (tZ 0 0 0 ⟨#[]⟩) 40 (0, 0)) ∧ Fr (fun _ => False) w w1 ∧ w1.heap.size = w.heap.size + 2 := by
    rw [hw1]
    refine ⟨(Below.heap_alloc _ _ _ (by simp)).trans (heap_alloc_new w _), ?_, ((Fr.refl _ _).alloc _).alloc _, by simp⟩
    have := heap_alloc_new (w.alloc (.cells A 40)) (.cells (tZ 0 0 0 ⟨#[]⟩) 40)
    simpa using this
  clear hw1 e1 hr
  have HZ : Hid (w1.heap.size = w.heap.size + 2) := z1
  clear z1
  have k0 : (w1.alloc (.cells (tZ 0 0 0 ⟨#[]⟩) 40)).heap[w1.heap.size]? = some (.cells (tZ 0 0 0 ⟨#[]⟩) 40 (0, 0)) := heap_alloc_new w1 _
  have hA37 : (tZ 0 0 0 ⟨#[]⟩).size = 37 := rfl
  go_wp2_with (first
    | (refine wp_store_agg rfl (.tmp 6) (.tmp 11) 40 37 rfl Tryd.sizeOf40 w1.heap.size 0 rfl (tZ 0 0 0 ⟨#[]⟩) 40 k0 (tZ 3 0 0 ⟨#[]⟩) rfl rfl (tZ_one _ _ _ _) (by decide) (tZ 3 0 0 ⟨#[]⟩) rfl ?_; intro w2 j2 f2 z2; obtain ⟨s2, r2, n2, g2, q2⟩ := mid (HZ.out) g0 g1 f1 f2 z2 hb)
    | (go_at_call 24; refine (hF w2 g2).mono ?_; rintro e w3 ⟨v, hv32, rfl, p3, f3⟩; obtain ⟨j3, s3, r3, n3⟩ := mid2 HZ.out hb j2 s2 r2 f3; have hvs : (bc v).toArray.size = 32 := by simp [bc_len, hv32])
    | (refine wp_store_agg rfl (.tmp 15) (.tmp 14) 38 32 rfl Tryd.sizeOf38 w1.heap.size 5 rfl (tZ 3 0 0 ⟨#[]⟩) 40 j3 (bc v).toArray rfl hvs (by rw [List.toList_toArray]; exact bc_one _) (by decide) (tH v) (by simp [tH]) ?_; intro w4 hB f4 z4; have hR := (f4.block _ (heap_lt r3) n3.2).trans r3; have hts : (tH v).size = 37 := by simp [tH, bc_len, hv32])
    | (refine wp_load_agg rfl (.tmp 6) 40 37 rfl Tryd.isAgg40 Tryd.sizeOf40 w1.heap.size 0 rfl (tH v) 40 (0, 0) hB (tH v) hts (fun j _ => by rw [Nat.zero_add]) ?_)
    | (refine wp_store_agg rfl (.tmp 4) (.tmp 38) 40 37 rfl Tryd.sizeOf40 (w.heap.size + 1) 0 rfl (tZ 0 0 0 ⟨#[]⟩) 40 hR (tH v) rfl hts (tH_one v) (by decide) (tH v) (by have : (tZ 0 0 0 ⟨#[]⟩).toList.drop 37 = [] := rfl; simp [this]) ?_; intro w5 j5 f5 z5))
  have hz := HZ.out
  exact bodyPost_ret (results_cell Tryd.results7 Tryd.isAgg40 Tryd.sizeOf40 rfl j5 hts) rfl ⟨v, hv32, rfl, hP v _ _ _ (hP v _ _ _ p3 f4 (by omega)) f5 (by omega), (((g2.mono (fun _ _ f => f.elim)).trans f3 (fun _ _ q => q)).trans f4 (fun k hk q => by omega)).trans f5 (fun k hk q => by omega)⟩

def Nr (w : World) (rp : Option Addr) : Prop := ∀ w1, Fr (fun _ => False) w w1 → Calls Tryd.prog 31 #[.pointer rp] w1 fun e w' => e = .returned (.bool false) ∧ w' = w1
theorem Nr.nil (w : World) : Nr w none := fun w1 _ => ready_nil w1
theorem ready_un (b : Nat) (w : World) (h0 : w.cell? ⟨b, 0, none⟩ = some (.bool false)) : Calls Tryd.prog 31 #[.pointer (some ⟨b, 0, none⟩)] w fun e w' => e = .returned (.bool false) ∧ w' = w := by
  go_enter Tryd.func31, Tryd.ntmps31
  go_wp2
  go_ret
  exact ⟨rfl, rfl⟩
theorem Nr.un {w : World} {b : Nat} (h : w.cell? ⟨b, 0, none⟩ = some (.bool false)) : Nr w (some ⟨b, 0, none⟩) := fun w1 f1 =>
  ready_un b w1 ((f1.cell (p := ⟨b, 0, none⟩) (World.block_lt_of_cell? w ⟨b, 0, none⟩ h) (fun f => f)).trans h)
theorem Nr.fr {w w1 : World} {rp : Option Addr} (h : Nr w rp) (hf : Fr (fun _ => False) w w1) : Nr w1 rp := fun w2 f2 => h w2 (hf.trans f2 (fun _ _ q => q))
theorem nrfixed {w : World} {rp : Option Addr} (h : Nr w rp) (wd : Int) : Calls Tryd.prog 21 #[.pointer rp, .int .i64 wd] w fun e w' => e = .returned (.int .u64 0) ∧ w' = w := by
  have ht := h w (Fr.refl _ _)
  go_enter Tryd.func21, Tryd.ntmps21
  go_wp2_with (go_at_call 31; refine ht.mono ?_; rintro e w' ⟨rfl, rfl⟩)
  go_ret
  exact ⟨rfl, rfl⟩
theorem nrvar {w : World} {rp : Option Addr} (h : Nr w rp) : Calls Tryd.prog 22 #[.pointer rp] w fun e w' => e = .returned (.int .u64 0) ∧ w' = w := by
  have ht := h w (Fr.refl _ _)
  go_enter Tryd.func22, Tryd.ntmps22
  go_wp2_with (go_at_call 31; refine ht.mono ?_; rintro e w' ⟨rfl, rfl⟩)
  go_ret
  exact ⟨rfl, rfl⟩
theorem nrtext {w : World} {rp : Option Addr} (h : Nr w rp) (wd : Int) : Calls Tryd.prog 23 #[.pointer rp, .int .i64 wd] w fun e w' => e = .returned (.string ⟨#[]⟩) ∧ w' = w := by
  have ht := h w (Fr.refl _ _)
  go_enter Tryd.func23, Tryd.ntmps23
  go_wp2_with (go_at_call 31; refine ht.mono ?_; rintro e w' ⟨rfl, rfl⟩)
  go_ret
  exact ⟨rfl, rfl⟩
theorem nrleft {w : World} {rp : Option Addr} (h : Nr w rp) : Calls Tryd.prog 12 #[.pointer rp] w fun e w' => e = .returned (.int .i64 0) ∧ w' = w := by
  have ht := h w (Fr.refl _ _)
  go_enter Tryd.func12, Tryd.ntmps12
  go_wp2_with (go_at_call 31; refine ht.mono ?_; rintro e w' ⟨rfl, rfl⟩)
  go_ret
  exact ⟨rfl, rfl⟩
set_option maxRecDepth 100000 in
set_option maxHeartbeats 2000000 in
theorem nrhash {w : World} {rp : Option Addr} (h : Nr w rp) :
    Calls Tryd.prog 24 #[.pointer rp] w fun e w' => e = .returned (.agg zH) ∧ Fr (fun _ => False) w w' := by
  have h2 := h _ (two_fr w)
  go_enter Tryd.func24, Tryd.ntmps24
  go_wp2_with fail
  refine h2.mono ?_
  rintro e w2 ⟨rfl, hw2⟩
  obtain ⟨g1, g2⟩ : w2.heap[w.heap.size]? = some (.cells zH 38 (0, 0)) ∧ w2.heap[w.heap.size + 1]? = some (.cells zH 38 (0, 0)) := by rw [hw2]; exact two_at w
  have f2 : Fr (fun _ => False) w w2 := by rw [hw2]; exact two_fr w
  clear hw2
  go_wp2_with (first
    | (refine wp_load_agg rfl (.tmp 3) 38 32 rfl Tryd.isAgg38 Tryd.sizeOf38 (w.heap.size + 1) 0 rfl zH 38 (0, 0) g2 zH rfl (fun j _ => by rw [Nat.zero_add]) ?_)
    | (refine wp_store_agg rfl (.tmp 2) (.tmp 10) 38 32 rfl Tryd.sizeOf38 w.heap.size 0 rfl zH 38 g1 zH rfl rfl zH_one (by decide) zH rfl ?_; intro w3 k1 f3 z3))
  exact bodyPost_ret (results_cell Tryd.results24 Tryd.isAgg38 Tryd.sizeOf38 rfl k1 rfl) rfl ⟨rfl, f2.trans f3 (fun k hk q => by omega)⟩
/-- A zero thing of the kind that is asked for. -/
def zT (kd wd : Int) : Array Value := tZ (kd % 4) 0 (if kd % 4 = 0 then wd else 0) ⟨#[]⟩
theorem took_n {B : Nat} {rp : Option Addr} {w : World} {a : Nat → Addr} {A : Array Value} {kd wd : Int} (hS : Sent B w a) (hN : Nr w rp) (hA : Tg A kd wd) :
    Calls Tryd.prog 7 #[.pointer rp, .agg A] w fun e w' => e = .returned (.agg (zT kd wd)) ∧ Fr (fun _ => False) w w' := by
  have hb : 0 < w.heap.size := by have := hS.hB; have := hS.hsz; omega
  have fin : ∀ w', Fr (fun j => j = 0) w w' → w'.heap[0]? = w.heap[0]? → Fr (fun _ => False) w w' := fun w' hf h0 => ⟨hf.os, hf.tape, hf.output, hf.size, fun k hk _ => by
    by_cases e : k = 0
    · subst e; exact h0
    · exact hf.block k hk e⟩
  have keep : ∀ (w' w'' : World) (S : Nat → Prop), (w'.heap[0]? = w.heap[0]? ∧ 0 < w'.heap.size) → Fr S w' w'' → ¬ S 0 → (w''.heap[0]? = w.heap[0]? ∧ 0 < w''.heap.size) := fun w' w'' S h hf hS => ⟨(hf.block 0 h.2 hS).trans h.1, Nat.lt_of_lt_of_le h.2 hf.size⟩
  have st : ∀ w1 w2, Fr (fun _ => False) w w1 → Fr (fun _ => False) w1 w2 → (w2.heap[0]? = w.heap[0]? ∧ 0 < w2.heap.size) := fun w1 w2 f1 f2 => ⟨(f1.trans f2 (fun _ _ q => q)).block 0 hb (fun f => f), Nat.lt_of_lt_of_le hb (f1.trans f2 (fun _ _ q => q)).size⟩
  have h4 : kd % 4 = 0 ∨ kd % 4 = 1 ∨ kd % 4 = 2 ∨ kd % 4 = 3 := by omega
  rcases h4 with h4 | h4 | h4 | h4
  · have e : zT kd wd = tZ 0 0 wd ⟨#[]⟩ := by unfold zT; rw [h4]; rfl
    rw [e]
    refine (tookg0 rp 0 A kd wd w (fun x w' => x = 0 ∧ (w'.heap[0]? = w.heap[0]? ∧ 0 < w'.heap.size)) hb hA.size hA.k hA.w hA.k1 hA.k2 h4 (fun w1 f1 => ?_) (fun x w' w'' S hx hf hS => ⟨hx.1, keep w' w'' S hx.2 hf hS⟩)).mono ?_
    · refine (nrfixed (hN.fr f1) wd).mono ?_
      rintro e w' ⟨rfl, rfl⟩; exact ⟨_, rfl, ⟨rfl, st _ _ f1 (Fr.refl _ _)⟩, Fr.refl _ _⟩
    · rintro e w' ⟨x, rfl, ⟨rfl, hk⟩, hf⟩; exact ⟨rfl, fin w' hf hk.1⟩
  · have e : zT kd wd = tZ 1 0 0 ⟨#[]⟩ := by unfold zT; rw [h4]; rfl
    rw [e]
    refine (tookg1 rp 0 A kd w (fun x w' => x = 0 ∧ (w'.heap[0]? = w.heap[0]? ∧ 0 < w'.heap.size)) hb hA.size hA.k hA.k1 hA.k2 h4 (fun w1 f1 => ?_) (fun x w' w'' S hx hf hS => ⟨hx.1, keep w' w'' S hx.2 hf hS⟩)).mono ?_
    · refine (nrvar (hN.fr f1)).mono ?_
      rintro e w' ⟨rfl, rfl⟩; exact ⟨_, rfl, ⟨rfl, st _ _ f1 (Fr.refl _ _)⟩, Fr.refl _ _⟩
    · rintro e w' ⟨x, rfl, ⟨rfl, hk⟩, hf⟩; exact ⟨rfl, fin w' hf hk.1⟩
  · have e : zT kd wd = tZ 2 0 0 ⟨#[]⟩ := by unfold zT; rw [h4]; rfl
    rw [e]
    refine (tookg2 rp 0 A kd wd w (fun x w' => x = ⟨#[]⟩ ∧ (w'.heap[0]? = w.heap[0]? ∧ 0 < w'.heap.size)) hb hA.size hA.k hA.w hA.k1 hA.k2 h4 (fun w1 f1 => ?_) (fun x w' w'' S hx hf hS => ⟨hx.1, keep w' w'' S hx.2 hf hS⟩)).mono ?_
    · refine (nrtext (hN.fr f1) wd).mono ?_
      rintro e w' ⟨rfl, rfl⟩; exact ⟨_, rfl, ⟨rfl, st _ _ f1 (Fr.refl _ _)⟩, Fr.refl _ _⟩
    · rintro e w' ⟨x, rfl, ⟨rfl, hk⟩, hf⟩; exact ⟨rfl, fin w' hf hk.1⟩
  · have e : zT kd wd = tZ 3 0 0 ⟨#[]⟩ := by unfold zT; rw [h4]; rfl
    rw [e]
    refine (tookg3 rp 0 A kd w (fun x w' => x = List.replicate 32 0 ∧ (w'.heap[0]? = w.heap[0]? ∧ 0 < w'.heap.size)) hb hA.size hA.k hA.k1 hA.k2 h4 (fun w1 f1 => ?_) (fun x w' w'' S hx hf hS => ⟨hx.1, keep w' w'' S hx.2 hf hS⟩)).mono ?_
    · refine (nrhash (hN.fr f1)).mono ?_
      rintro e w' ⟨rfl, hf⟩; exact ⟨List.replicate 32 0, by simp, rfl, ⟨rfl, st _ _ f1 hf⟩, hf.mono (fun _ _ f => f.elim)⟩
    · rintro e w' ⟨x, _, rfl, ⟨rfl, hk⟩, hf⟩; exact ⟨rfl, fin w' hf hk.1⟩
end Go.Proofs.YtebbgpnhkpbefaaDoor
