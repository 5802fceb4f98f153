/- What took answers: the thing that was read, whatever the reader is. -/
import Derived.Test.YtebbgpnhkpbefaaDoorcS1
namespace Go.Proofs.YtebbgpnhkpbefaaDoor
open Go.RowKit
set_option linter.unusedVariables false
set_option linter.unusedSimpArgs false

theorem tmod4 (k : Int) : (k.tmod 4 < 0 → k.tmod 4 + 4 = k % 4) ∧ (¬ k.tmod 4 < 0 → k.tmod 4 = k % 4) ∧ -4 < k.tmod 4 ∧ k.tmod 4 < 4 := by
  by_cases hk : 0 ≤ k
  · rw [Int.tmod_eq_emod_of_nonneg hk]; omega
  · obtain ⟨m, rfl⟩ : ∃ m, k = -m := ⟨-k, by omega⟩
    rw [Int.neg_tmod, Int.tmod_eq_emod_of_nonneg (by omega)]; omega
theorem round_any (k : Int) (w : World) (h1 : -9223372036854775808 ≤ k) (h2 : k ≤ 9223372036854775807) : Calls Tryd.prog 6 #[.int .i64 k, .int .i64 4] w fun e w' => e = .returned (.int .i64 (k % 4)) ∧ w' = w := by
  obtain ⟨t1, t2, t3, t4⟩ := tmod4 k
  have T1 : Hid (k.tmod 4 < 0 → k.tmod 4 + 4 = k % 4) := t1
  have T2 : Hid (¬ k.tmod 4 < 0 → k.tmod 4 = k % 4) := t2
  clear t1 t2
  by_cases h : k.tmod 4 < 0
  · have e := T1.out h
    have E : Hid (k.tmod 4 + 4 = k % 4) := e
    clear e T1 T2
    go_enter Tryd.func6, Tryd.ntmps6
    go_wp2
    go_ret
    exact ⟨by rw [← E.out]; rfl, rfl⟩
  · have e := T2.out h
    have E : Hid (k.tmod 4 = k % 4) := e
    clear e T1 T2
    go_enter Tryd.func6, Tryd.ntmps6
    go_wp2
    go_ret
    exact ⟨by rw [← E.out]; rfl, rfl⟩
theorem at_of {A : Array Value} {i : Nat} {v : Value} (h : A[i]? = some v) : ∀ (hh : i < A.size), A[i]'hh = v := fun hh => by
  rw [Array.getElem?_eq_getElem hh] at h; exact Option.some.inj h
abbrev tZ (k n wd : Int) (s : ByteArray) : Array Value := #[.int .i64 0, .int .i64 k, .int .u64 n, .int .i64 wd, .string s, z8, z8, z8, z8, z8, z8, z8, z8, z8, z8, z8, z8, z8, z8, z8, z8, z8, z8, z8, z8, z8, z8, z8, z8, z8, z8, z8, z8, z8, z8, z8, z8]
theorem tZ_one (k n wd : Int) (s : ByteArray) : ∀ u ∈ (tZ k n wd s).toList, u.oneCell' = true := by
  intro u hu
  have h1 : (tZ k n wd s).toList.all (fun u => u.oneCell') = true := rfl
  exact List.all_eq_true.1 h1 u hu

theorem mid {w w1 w2 : World} {A Z : Array Value} {t : TypeId} {b : Nat} (hz : w1.heap.size = w.heap.size + 2) (g0 : w1.heap[w.heap.size]? = some (.cells A t (0, 0))) (g1 : w1.heap[w.heap.size + 1]? = some (.cells Z t (0, 0))) (f1 : Fr (fun _ => False) w w1) {o : Obj} (f2 : Fr (fun k => k = w1.heap.size) (w1.alloc o) w2) (z2 : w2.heap.size = (w1.alloc o).heap.size) (hb : b < w.heap.size) :
    w2.heap[w.heap.size]? = some (.cells A t (0, 0)) ∧ w2.heap[w.heap.size + 1]? = some (.cells Z t (0, 0)) ∧ w2.heap.size = w.heap.size + 3 ∧ Fr (fun _ => False) w w2 ∧ True := by
  have z3 : (w1.alloc o).heap.size = w.heap.size + 3 := by simp [hz]
  refine ⟨(f2.block _ (by omega) (by omega)).trans ((Below.heap_alloc _ _ _ (by omega)).trans g0), (f2.block _ (by omega) (by omega)).trans ((Below.heap_alloc _ _ _ (by omega)).trans g1), by omega, ?_, trivial⟩
  exact (f1.alloc o).trans f2 (fun k hk q => by omega)
theorem mid2 {w w1 w2 w3 : World} {A Z Y : Array Value} {t : TypeId} {b : Nat} (hz : w1.heap.size = w.heap.size + 2) (hb : b < w.heap.size) (j2 : w2.heap[w1.heap.size]? = some (.cells Y t (0, 0))) (s2 : w2.heap[w.heap.size]? = some (.cells A t (0, 0))) (r2 : w2.heap[w.heap.size + 1]? = some (.cells Z t (0, 0))) (f3 : Fr (fun j => j = b) w2 w3) :
    w3.heap[w1.heap.size]? = some (.cells Y t (0, 0)) ∧ w3.heap[w.heap.size]? = some (.cells A t (0, 0)) ∧ w3.heap[w.heap.size + 1]? = some (.cells Z t (0, 0)) ∧ (w.heap.size ≠ w1.heap.size ∧ w.heap.size + 1 ≠ w1.heap.size) :=
  ⟨(f3.block _ (heap_lt j2) (by omega)).trans j2, (f3.block _ (heap_lt s2) (by omega)).trans s2, (f3.block _ (heap_lt r2) (by omega)).trans r2, by omega, by omega⟩

/-- A thing with a hash. -/
def tH (l : List UInt8) : Array Value := (([.int .i64 0, .int .i64 3, .int .u64 0, .int .i64 0, .string ⟨#[]⟩] : List Value) ++ bc l).toArray
theorem tH_one (l : List UInt8) : ∀ u ∈ (tH l).toList, u.oneCell' = true := by
  intro u hu
  simp only [tH, List.toList_toArray, List.mem_append] at hu
  rcases hu with hu | hu
  · have h1 : ([.int .i64 0, .int .i64 3, .int .u64 0, .int .i64 0, .string ⟨#[]⟩] : List Value).all (fun u => u.oneCell') = true := rfl
    exact List.all_eq_true.1 h1 u hu
  · exact bc_one l u hu
set_option maxRecDepth 100000 in
set_option maxHeartbeats 4000000 in
theorem took0 (b : Nat) (A : Array Value) (kd wd : Int) (w : World) (PF : Int → World → Prop) (hb : b < w.heap.size) (hA : A.size = 37) (hA1 : A[1]? = some (.int .i64 kd)) (hA3 : A[3]? = some (.int .i64 wd)) (hk1 : -9223372036854775808 ≤ kd) (hk2 : kd ≤ 9223372036854775807) (hk : kd % 4 = 0)
    (hF : ∀ w1, Fr (fun _ => False) w w1 → Calls Tryd.prog 21 #[.pointer (some ⟨b, 0, none⟩), .int .i64 wd] w1 fun e w' => ∃ v : Int, e = .returned (.int .u64 v) ∧ PF v w' ∧ Fr (fun j => j = b) w1 w')
    (hP : ∀ v w' w'' (S : Nat → Prop), PF v w' → Fr S w' w'' → ¬ S b → PF v w'') :
    Calls Tryd.prog 7 #[.pointer (some ⟨b, 0, none⟩), .agg A] w fun e w' => ∃ v : Int, e = .returned (.agg (tZ 0 v wd ⟨#[]⟩)) ∧ PF v w' ∧ Fr (fun j => j = b) w w' := by
  have hr : ∀ W, Calls Tryd.prog 6 #[.int .i64 kd, .int .i64 4] W fun e w' => e = .returned (.int .i64 0) ∧ w' = W := fun W => by have := round_any kd W hk1 hk2; rwa [hk] at this
  have e1 := at_of hA1
  have H3 : Hid (A[3]? = some (.int .i64 wd)) := hA3
  clear hA1 hA3
  go_enter Tryd.func7, Tryd.ntmps7
  go_wp2_with fail
  refine (hr _).mono ?_
  rintro e w1 ⟨rfl, hw1⟩
  obtain ⟨g0, g1, f1, z1⟩ : w1.heap[w.heap.size]? = some (.cells A 40 (0, 0)) ∧ w1.heap[w.heap.size + 1]? = some (.cells (tZ 0 0 0 ⟨#[]⟩) 40 (0, 0)) ∧ Fr (fun _ => False) w w1 ∧ w1.heap.size = w.heap.size + 2 := by
    rw [hw1]
    refine ⟨(Below.heap_alloc _ _ _ (by simp)).trans (heap_alloc_new w _), ?_, ((Fr.refl _ _).alloc _).alloc _, by simp⟩
    have := heap_alloc_new (w.alloc (.cells A 40)) (.cells (tZ 0 0 0 ⟨#[]⟩) 40)
    simpa using this
  clear hw1 e1 hr
  have HZ : Hid (w1.heap.size = w.heap.size + 2) := z1
  clear z1
  have k0 : (w1.alloc (.cells (tZ 0 0 0 ⟨#[]⟩) 40)).heap[w1.heap.size]? = some (.cells (tZ 0 0 0 ⟨#[]⟩) 40 (0, 0)) := heap_alloc_new w1 _
  have hA37 : (tZ 0 0 0 ⟨#[]⟩).size = 37 := rfl
  go_wp2_with (first
    | (refine wp_store_agg rfl (.tmp 6) (.tmp 11) 40 37 rfl Tryd.sizeOf40 w1.heap.size 0 rfl (tZ 0 0 0 ⟨#[]⟩) 40 k0 (tZ 0 0 0 ⟨#[]⟩) rfl rfl (tZ_one _ _ _ _) (by decide) (tZ 0 0 0 ⟨#[]⟩) rfl ?_; intro w2 j2 f2 z2; obtain ⟨s2, r2, n2, g2, q2⟩ := mid (HZ.out) g0 g1 f1 f2 z2 hb; have c2 := (cell_of s2 3).trans H3.out)
    | (go_at_call 21; refine (hF w2 g2).mono ?_; rintro e w3 ⟨v, rfl, p3, f3⟩; obtain ⟨j3, s3, r3, n3⟩ := mid2 HZ.out hb j2 s2 r2 f3; have d1 := (cell_of j3 2).trans (show _ = some (Value.int .u64 0) from rfl); have d2 := frozen_of j3 2; have d3 : ∀ u, (w3.setCell ⟨w1.heap.size, 2, none⟩ u).cell? ⟨w.heap.size, 3, none⟩ = some (.int .i64 wd) := fun u => (cell_of ((heap_set_ne n3.1 u).trans s3) 3).trans H3.out; have d4 : ∀ u, (w3.setCell ⟨w1.heap.size, 2, none⟩ u).cell? ⟨w1.heap.size, 3, none⟩ = some (.int .i64 0) := fun u => (cell_of (heap_set j3 u) 3).trans rfl; have d5 : ∀ u, (w3.setCell ⟨w1.heap.size, 2, none⟩ u).frozen? ⟨w1.heap.size, 3, none⟩ = false := fun u => frozen_of (heap_set j3 u) 3; have hB : ((w3.setCell ⟨w1.heap.size, 2, none⟩ (.int .u64 v)).setCell ⟨w1.heap.size, 3, none⟩ (.int .i64 wd)).heap[w1.heap.size]? = some (.cells (tZ 0 v wd ⟨#[]⟩) 40 (0, 0)) := (heap_set (heap_set j3 _) _); have hR : ((w3.setCell ⟨w1.heap.size, 2, none⟩ (.int .u64 v)).setCell ⟨w1.heap.size, 3, none⟩ (.int .i64 wd)).heap[w.heap.size + 1]? = some (.cells (tZ 0 0 0 ⟨#[]⟩) 40 (0, 0)) := (heap_set_ne n3.2 _).trans ((heap_set_ne n3.2 _).trans r3))
    | (refine wp_load_agg rfl (.tmp 6) 40 37 rfl Tryd.isAgg40 Tryd.sizeOf40 w1.heap.size 0 rfl (tZ 0 v wd ⟨#[]⟩) 40 (0, 0) hB (tZ 0 v wd ⟨#[]⟩) rfl (fun j _ => by rw [Nat.zero_add]) ?_)
    | (refine wp_store_agg rfl (.tmp 4) (.tmp 38) 40 37 rfl Tryd.sizeOf40 (w.heap.size + 1) 0 rfl (tZ 0 0 0 ⟨#[]⟩) 40 hR (tZ 0 v wd ⟨#[]⟩) rfl rfl (tZ_one _ _ _ _) (by decide) (tZ 0 v wd ⟨#[]⟩) rfl ?_; intro w5 j5 f5 z5))
  have f4 : Fr (fun k => k = w1.heap.size) w3 ((w3.setCell ⟨w1.heap.size, 2, none⟩ (.int .u64 v)).setCell ⟨w1.heap.size, 3, none⟩ (.int .i64 wd)) := ((Fr.refl (fun k => k = w1.heap.size) w3).setCell ⟨w1.heap.size, 2, none⟩ _ (fun _ => rfl)).setCell ⟨w1.heap.size, 3, none⟩ _ (fun _ => rfl)
  have hz := HZ.out
  exact bodyPost_ret (results_cell Tryd.results7 Tryd.isAgg40 Tryd.sizeOf40 rfl j5 rfl) rfl ⟨v, rfl, hP v _ _ _ (hP v _ _ _ p3 f4 (by omega)) f5 (by omega), (((g2.mono (fun _ _ f => f.elim)).trans f3 (fun _ _ q => q)).trans f4 (fun k hk q => by omega)).trans f5 (fun k hk q => by omega)⟩
set_option maxRecDepth 100000 in
set_option maxHeartbeats 4000000 in
theorem took1 (b : Nat) (A : Array Value) (kd : Int) (w : World) (PF : Int → World → Prop) (hb : b < w.heap.size) (hA : A.size = 37) (hA1 : A[1]? = some (.int .i64 kd)) (hk1 : -9223372036854775808 ≤ kd) (hk2 : kd ≤ 9223372036854775807) (hk : kd % 4 = 1)
    (hF : ∀ w1, Fr (fun _ => False) w w1 → Calls Tryd.prog 22 #[.pointer (some ⟨b, 0, none⟩)] w1 fun e w' => ∃ v : Int, e = .returned (.int .u64 v) ∧ PF v w' ∧ Fr (fun j => j = b) w1 w')
    (hP : ∀ v w' w'' (S : Nat → Prop), PF v w' → Fr S w' w'' → ¬ S b → PF v w'') :
    Calls Tryd.prog 7 #[.pointer (some ⟨b, 0, none⟩), .agg A] w fun e w' => ∃ v : Int, e = .returned (.agg (tZ 1 v 0 ⟨#[]⟩)) ∧ PF v w' ∧ Fr (fun j => j = b) w w' := by
  have hr : ∀ W, Calls Tryd.prog 6 #[.int .i64 kd, .int .i64 4] W fun e w' => e = .returned (.int .i64 1) ∧ w' = W := fun W => by have := round_any kd W hk1 hk2; rwa [hk] at this
  have e1 := at_of hA1
  clear hA1
  go_enter Tryd.func7, Tryd.ntmps7
  go_wp2_with fail
  refine (hr _).mono ?_
  rintro e w1 ⟨rfl, hw1⟩
  obtain ⟨g0, g1, f1, z1⟩ : w1.heap[w.heap.size]? = some (.cells A 40 (0, 0)) ∧ w1.heap[w.heap.size + 1]? = some (.cells (tZ 0 0 0 ⟨#[]⟩) 40 (0, 0)) ∧ Fr (fun _ => False) w w1 ∧ w1.heap.size = w.heap.size + 2 := by
    rw [hw1]
    refine ⟨(Below.heap_alloc _ _ _ (by simp)).trans (heap_alloc_new w _), ?_, ((Fr.refl _ _).alloc _).alloc _, by simp⟩
    have := heap_alloc_new (w.alloc (.cells A 40)) (.cells (tZ 0 0 0 ⟨#[]⟩) 40)
    simpa using this
  clear hw1 e1 hr
  have HZ : Hid (w1.heap.size = w.heap.size + 2) := z1
  clear z1
  have k0 : (w1.alloc (.cells (tZ 0 0 0 ⟨#[]⟩) 40)).heap[w1.heap.size]? = some (.cells (tZ 0 0 0 ⟨#[]⟩) 40 (0, 0)) := heap_alloc_new w1 _
  have hA37 : (tZ 0 0 0 ⟨#[]⟩).size = 37 := rfl
  go_wp2_with (first
    | (refine wp_store_agg rfl (.tmp 6) (.tmp 11) 40 37 rfl Tryd.sizeOf40 w1.heap.size 0 rfl (tZ 0 0 0 ⟨#[]⟩) 40 k0 (tZ 1 0 0 ⟨#[]⟩) rfl rfl (tZ_one _ _ _ _) (by decide) (tZ 1 0 0 ⟨#[]⟩) rfl ?_; intro w2 j2 f2 z2; obtain ⟨s2, r2, n2, g2, q2⟩ := mid (HZ.out) g0 g1 f1 f2 z2 hb)
    | (go_at_call 22; refine (hF w2 g2).mono ?_; rintro e w3 ⟨v, rfl, p3, f3⟩; obtain ⟨j3, s3, r3, n3⟩ := mid2 HZ.out hb j2 s2 r2 f3; have d1 := (cell_of j3 2).trans (show _ = some (Value.int .u64 0) from rfl); have d2 := frozen_of j3 2; have hB : ((w3.setCell ⟨w1.heap.size, 2, none⟩ (.int .u64 v))).heap[w1.heap.size]? = some (.cells (tZ 1 v 0 ⟨#[]⟩) 40 (0, 0)) := (heap_set j3 _); have hR : ((w3.setCell ⟨w1.heap.size, 2, none⟩ (.int .u64 v))).heap[w.heap.size + 1]? = some (.cells (tZ 0 0 0 ⟨#[]⟩) 40 (0, 0)) := (heap_set_ne n3.2 _).trans r3)
    | (refine wp_load_agg rfl (.tmp 6) 40 37 rfl Tryd.isAgg40 Tryd.sizeOf40 w1.heap.size 0 rfl (tZ 1 v 0 ⟨#[]⟩) 40 (0, 0) hB (tZ 1 v 0 ⟨#[]⟩) rfl (fun j _ => by rw [Nat.zero_add]) ?_)
    | (refine wp_store_agg rfl (.tmp 4) (.tmp 38) 40 37 rfl Tryd.sizeOf40 (w.heap.size + 1) 0 rfl (tZ 0 0 0 ⟨#[]⟩) 40 hR (tZ 1 v 0 ⟨#[]⟩) rfl rfl (tZ_one _ _ _ _) (by decide) (tZ 1 v 0 ⟨#[]⟩) rfl ?_; intro w5 j5 f5 z5))
  have f4 : Fr (fun k => k = w1.heap.size) w3 ((w3.setCell ⟨w1.heap.size, 2, none⟩ (.int .u64 v))) := ((Fr.refl (fun k => k = w1.heap.size) w3).setCell ⟨w1.heap.size, 2, none⟩ _ (fun _ => rfl))
  have hz := HZ.out
  exact bodyPost_ret (results_cell Tryd.results7 Tryd.isAgg40 Tryd.sizeOf40 rfl j5 rfl) rfl ⟨v, rfl, hP v _ _ _ (hP v _ _ _ p3 f4 (by omega)) f5 (by omega), (((g2.mono (fun _ _ f => f.elim)).trans f3 (fun _ _ q => q)).trans f4 (fun k hk q => by omega)).trans f5 (fun k hk q => by omega)⟩
set_option maxRecDepth 100000 in
set_option maxHeartbeats 4000000 in
theorem took2 (b : Nat) (A : Array Value) (kd wd : Int) (w : World) (PF : ByteArray → World → Prop) (hb : b < w.heap.size) (hA : A.size = 37) (hA1 : A[1]? = some (.int .i64 kd)) (hA3 : A[3]? = some (.int .i64 wd)) (hk1 : -9223372036854775808 ≤ kd) (hk2 : kd ≤ 9223372036854775807) (hk : kd % 4 = 2)
    (hF : ∀ w1, Fr (fun _ => False) w w1 → Calls Tryd.prog 23 #[.pointer (some ⟨b, 0, none⟩), .int .i64 wd] w1 fun e w' => ∃ v : ByteArray, e = .returned (.string v) ∧ PF v w' ∧ Fr (fun j => j = b) w1 w')
    (hP : ∀ v w' w'' (S : Nat → Prop), PF v w' → Fr S w' w'' → ¬ S b → PF v w'') :
    Calls Tryd.prog 7 #[.pointer (some ⟨b, 0, none⟩), .agg A] w fun e w' => ∃ v : ByteArray, e = .returned (.agg (tZ 2 0 0 v)) ∧ PF v w' ∧ Fr (fun j => j = b) w w' := by
  have hr : ∀ W, Calls Tryd.prog 6 #[.int .i64 kd, .int .i64 4] W fun e w' => e = .returned (.int .i64 2) ∧ w' = W := fun W => by have := round_any kd W hk1 hk2; rwa [hk] at this
  have e1 := at_of hA1
  have H3 : Hid (A[3]? = some (.int .i64 wd)) := hA3
  clear hA1 hA3
  go_enter Tryd.func7, Tryd.ntmps7
  go_wp2_with fail
  refine (hr _).mono ?_
  rintro e w1 ⟨rfl, hw1⟩
  obtain ⟨g0, g1, f1, z1⟩ : w1.heap[w.heap.size]? = some (.cells A 40 (0, 0)) ∧ w1.heap[w.heap.size + 1]? = some (.cells (tZ 0 0 0 ⟨#[]⟩) 40 (0, 0)) ∧ Fr (fun _ => False) w w1 ∧ w1.heap.size = w.heap.size + 2 := by
    rw [hw1]
    refine ⟨(Below.heap_alloc _ _ _ (by simp)).trans (heap_alloc_new w _), ?_, ((Fr.refl _ _).alloc _).alloc _, by simp⟩
    have := heap_alloc_new (w.alloc (.cells A 40)) (.cells (tZ 0 0 0 ⟨#[]⟩) 40)
    simpa using this
  clear hw1 e1 hr
  have HZ : Hid (w1.heap.size = w.heap.size + 2) := z1
  clear z1
  have k0 : (w1.alloc (.cells (tZ 0 0 0 ⟨#[]⟩) 40)).heap[w1.heap.size]? = some (.cells (tZ 0 0 0 ⟨#[]⟩) 40 (0, 0)) := heap_alloc_new w1 _
  have hA37 : (tZ 0 0 0 ⟨#[]⟩).size = 37 := rfl
  go_wp2_with (first
    | (refine wp_store_agg rfl (.tmp 6) (.tmp 11) 40 37 rfl Tryd.sizeOf40 w1.heap.size 0 rfl (tZ 0 0 0 ⟨#[]⟩) 40 k0 (tZ 2 0 0 ⟨#[]⟩) rfl rfl (tZ_one _ _ _ _) (by decide) (tZ 2 0 0 ⟨#[]⟩) rfl ?_; intro w2 j2 f2 z2; obtain ⟨s2, r2, n2, g2, q2⟩ := mid (HZ.out) g0 g1 f1 f2 z2 hb; have c2 := (cell_of s2 3).trans H3.out)
    | (go_at_call 23; refine (hF w2 g2).mono ?_; rintro e w3 ⟨v, rfl, p3, f3⟩; obtain ⟨j3, s3, r3, n3⟩ := mid2 HZ.out hb j2 s2 r2 f3; have d1 := (cell_of j3 4).trans (show _ = some (Value.string ⟨#[]⟩) from rfl); have d2 := frozen_of j3 4; have hB : ((w3.setCell ⟨w1.heap.size, 4, none⟩ (.string v))).heap[w1.heap.size]? = some (.cells (tZ 2 0 0 v) 40 (0, 0)) := (heap_set j3 _); have hR : ((w3.setCell ⟨w1.heap.size, 4, none⟩ (.string v))).heap[w.heap.size + 1]? = some (.cells (tZ 0 0 0 ⟨#[]⟩) 40 (0, 0)) := (heap_set_ne n3.2 _).trans r3)
    | (refine wp_load_agg rfl (.tmp 6) 40 37 rfl Tryd.isAgg40 Tryd.sizeOf40 w1.heap.size 0 rfl (tZ 2 0 0 v) 40 (0, 0) hB (tZ 2 0 0 v) rfl (fun j _ => by rw [Nat.zero_add]) ?_)
    | (refine wp_store_agg rfl (.tmp 4) (.tmp 38) 40 37 rfl Tryd.sizeOf40 (w.heap.size + 1) 0 rfl (tZ 0 0 0 ⟨#[]⟩) 40 hR (tZ 2 0 0 v) rfl rfl (tZ_one _ _ _ _) (by decide) (tZ 2 0 0 v) rfl ?_; intro w5 j5 f5 z5))
  have f4 : Fr (fun k => k = w1.heap.size) w3 ((w3.setCell ⟨w1.heap.size, 4, none⟩ (.string v))) := ((Fr.refl (fun k => k = w1.heap.size) w3).setCell ⟨w1.heap.size, 4, none⟩ _ (fun _ => rfl))
  have hz := HZ.out
  exact bodyPost_ret (results_cell Tryd.results7 Tryd.isAgg40 Tryd.sizeOf40 rfl j5 rfl) rfl ⟨v, rfl, hP v _ _ _ (hP v _ _ _ p3 f4 (by omega)) f5 (by omega), (((g2.mono (fun _ _ f => f.elim)).trans f3 (fun _ _ q => q)).trans f4 (fun k hk q => by omega)).trans f5 (fun k hk q => by omega)⟩
set_option maxRecDepth 100000 in
set_option maxHeartbeats 4000000 in
theorem took3 (b : Nat) (A : Array Value) (kd : Int) (w : World) (PF : List UInt8 → World → Prop) (hb : b < w.heap.size) (hA : A.size = 37) (hA1 : A[1]? = some (.int .i64 kd)) (hk1 : -9223372036854775808 ≤ kd) (hk2 : kd ≤ 9223372036854775807) (hk : kd % 4 = 3)
    (hF : ∀ w1, Fr (fun _ => False) w w1 → Calls Tryd.prog 24 #[.pointer (some ⟨b, 0, none⟩)] w1 fun e w' => ∃ v : List UInt8, v.length = 32 ∧ e = .returned (.agg (bc v).toArray) ∧ PF v w' ∧ Fr (fun j => j = b) w1 w')
    (hP : ∀ v w' w'' (S : Nat → Prop), PF v w' → Fr S w' w'' → ¬ S b → PF v w'') :
    Calls Tryd.prog 7 #[.pointer (some ⟨b, 0, none⟩), .agg A] w fun e w' => ∃ v : List UInt8, v.length = 32 ∧ e = .returned (.agg (tH v)) ∧ PF v w' ∧ Fr (fun j => j = b) w w' := by
  have hr : ∀ W, Calls Tryd.prog 6 #[.int .i64 kd, .int .i64 4] W fun e w' => e = .returned (.int .i64 3) ∧ w' = W := fun W => by have := round_any kd W hk1 hk2; rwa [hk] at this
  have e1 := at_of hA1
  clear hA1
  go_enter Tryd.func7, Tryd.ntmps7
  go_wp2_with fail
  refine (hr _).mono ?_
  rintro e w1 ⟨rfl, hw1⟩
  obtain ⟨g0, g1, f1, z1⟩ : w1.heap[w.heap.size]? = some (.cells A 40 (0, 0)) ∧ w1.heap[w.heap.size + 1]? = some (.cells (tZ 0 0 0 ⟨#[]⟩) 40 (0, 0)) ∧ Fr (fun _ => False) w w1 ∧ w1.heap.size = w.heap.size + 2 := by
    rw [hw1]
    refine ⟨(Below.heap_alloc _ _ _ (by simp)).trans (heap_alloc_new w _), ?_, ((Fr.refl _ _).alloc _).alloc _, by simp⟩
    have := heap_alloc_new (w.alloc (.cells A 40)) (.cells (tZ 0 0 0 ⟨#[]⟩) 40)
    simpa using this
  clear hw1 e1 hr
  have HZ : Hid (w1.heap.size = w.heap.size + 2) := z1
  clear z1
  have k0 : (w1.alloc (.cells (tZ 0 0 0 ⟨#[]⟩) 40)).heap[w1.heap.size]? = some (.cells (tZ 0 0 0 ⟨#[]⟩) 40 (0, 0)) := heap_alloc_new w1 _
  have hA37 : (tZ 0 0 0 ⟨#[]⟩).size = 37 := rfl
  go_wp2_with (first
    | (refine wp_store_agg rfl (.tmp 6) (.tmp 11) 40 37 rfl Tryd.sizeOf40 w1.heap.size 0 rfl (tZ 0 0 0 ⟨#[]⟩) 40 k0 (tZ 3 0 0 ⟨#[]⟩) rfl rfl (tZ_one _ _ _ _) (by decide) (tZ 3 0 0 ⟨#[]⟩) rfl ?_; intro w2 j2 f2 z2; obtain ⟨s2, r2, n2, g2, q2⟩ := mid (HZ.out) g0 g1 f1 f2 z2 hb)
    | (go_at_call 24; refine (hF w2 g2).mono ?_; rintro e w3 ⟨v, hv32, rfl, p3, f3⟩; obtain ⟨j3, s3, r3, n3⟩ := mid2 HZ.out hb j2 s2 r2 f3; have hvs : (bc v).toArray.size = 32 := by simp [bc_len, hv32])
    | (refine wp_store_agg rfl (.tmp 15) (.tmp 14) 38 32 rfl Tryd.sizeOf38 w1.heap.size 5 rfl (tZ 3 0 0 ⟨#[]⟩) 40 j3 (bc v).toArray rfl hvs (by rw [List.toList_toArray]; exact bc_one _) (by decide) (tH v) (by simp [tH]) ?_; intro w4 hB f4 z4; have hR := (f4.block _ (heap_lt r3) n3.2).trans r3; have hts : (tH v).size = 37 := by simp [tH, bc_len, hv32])
    | (refine wp_load_agg rfl (.tmp 6) 40 37 rfl Tryd.isAgg40 Tryd.sizeOf40 w1.heap.size 0 rfl (tH v) 40 (0, 0) hB (tH v) hts (fun j _ => by rw [Nat.zero_add]) ?_)
    | (refine wp_store_agg rfl (.tmp 4) (.tmp 38) 40 37 rfl Tryd.sizeOf40 (w.heap.size + 1) 0 rfl (tZ 0 0 0 ⟨#[]⟩) 40 hR (tH v) rfl hts (tH_one v) (by decide) (tH v) (by have : (tZ 0 0 0 ⟨#[]⟩).toList.drop 37 = [] := rfl; simp [this]) ?_; intro w5 j5 f5 z5))
  have hz := HZ.out
  exact bodyPost_ret (results_cell Tryd.results7 Tryd.isAgg40 Tryd.sizeOf40 rfl j5 hts) rfl ⟨v, hv32, rfl, hP v _ _ _ (hP v _ _ _ p3 f4 (by omega)) f5 (by omega), (((g2.mono (fun _ _ f => f.elim)).trans f3 (fun _ _ q => q)).trans f4 (fun k hk q => by omega)).trans f5 (fun k hk q => by omega)⟩
end Go.Proofs.YtebbgpnhkpbefaaDoor
