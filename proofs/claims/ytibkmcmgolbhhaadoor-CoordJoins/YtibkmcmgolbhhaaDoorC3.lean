/- Parent, Sibling, Children of package coord. -/
import Derived.Test.YtibkmcmgolbhhaaDoorC2
namespace Go.Proofs.YtibkmcmgolbhhaaDoor
open Go.RowKit
set_option linter.unusedVariables false
set_option linter.unusedSimpArgs false

/-- The other half. -/
def sib (I : Nat) : Nat := if I % 2 = 0 then I + 1 else I - 1
theorem xor_one (I : Nat) (h : I < 18446744073709551616) : bits BinOp.xor IntKind.u64 (I : Int) 1 = ((sib I : Nat) : Int) := by
  have e1 : (1 : Int) = ((1 : Nat) : Int) := rfl
  rw [e1, bits_xor_u64_nat I 1 h (by omega)]
  congr 1
  unfold sib
  have h1 : (I ^^^ 1) / 2 = I / 2 := by
    have := Nat.xor_div_two_pow (a := I) (b := 1) (n := 1)
    simpa using this
  have h2 : (I ^^^ 1) % 2 = (I + 1) % 2 := by
    have h3 := Nat.xor_mod_two_pow (a := I) (b := 1) (n := 1)
    simp only [Nat.pow_one] at h3
    rw [h3]
    rcases Nat.mod_two_eq_zero_or_one I with h4 | h4 <;> rw [h4] <;> simp <;> omega
  split <;> omega
theorem or_one (I : Nat) (h : I < 9223372036854775808) : bits BinOp.or IntKind.u64 ((I : Int) * 2) 1 = ((2 * I + 1 : Nat) : Int) := by
  have e1 : (1 : Int) = ((1 : Nat) : Int) := rfl
  have e2 : (I : Int) * 2 = ((2 * I : Nat) : Int) := by omega
  rw [e1, e2, bits_or_u64_nat (2 * I) 1 (by omega) (by omega)]
  congr 1
  have h1 : (2 * I ||| 1) / 2 = I := by
    have := Nat.or_div_two_pow (a := 2 * I) (b := 1) (n := 1)
    simpa using this
  have h2 : (2 * I ||| 1) % 2 = 1 := by rw [Nat.or_mod_two_eq_one]; simp
  omega

set_option maxHeartbeats 1000000 in
theorem above_any (L I : Nat) (hL : L < 255) (hI : I < 18446744073709551616) (w : World) :
    Calls Tryd.prog 31 #[cd L I] w fun e w' => e = .returned (cd (L + 1) (I / 2)) ∧ Nw w w' := by
  go_enter Tryd.func31, Tryd.ntmps31
  go_wp2
  (refine bodyPost_ret (results_cell (V := #[.int .u8 ((L : Int) + 1), .int .u64 ((I : Int) / 2)]) (ty := 24) (f := (0, 0)) Tryd.results31 Tryd.isAgg24 Tryd.sizeOf24 rfl ?_ rfl) rfl ⟨rfl, (by repeat first | with_reducible exact nwr w | with_reducible refine Fr.alloc ?_ _ | with_reducible refine Fr.drew ?_ | (with_reducible refine Fr.setCell ?_ _ _ (fun h => ?_); rotate_left; focus (simp only at h; omega)))⟩; (repeat first | with_reducible exact heap_next w _ _ | with_reducible exact heap_new _ _ | with_reducible exact heap_next _ _ _ | with_reducible exact heap_third _ _ _ _ | with_reducible refine hp_dr ?_ | (with_reducible refine hp_ne ?_ ?_; focus omega) | (with_reducible refine hp_al ?_ ?_; focus (first | omega | (simp <;> omega))) | with_reducible apply hp_set) <;> rfl)

set_option maxHeartbeats 1000000 in
theorem parent_yes (L I : Nat) (h : may L I) (h63 : L < 63) (w : World) :
    Calls Tryd.prog 12 #[cd L I] w fun e w' => e = .returned (.tuple #[cd (L + 1) (I / 2), .bool true]) ∧ Nw w w' := by
  have H : Hid (may L I) := h
  have hI := may_bd h
  rw [p63] at hI
  clear h
  go_enter Tryd.func12, Tryd.ntmps12
  go_wp2_with fail
  refine (isHalf_any L I true (by simp [H.out, h63]) (by omega) (by omega) _).mono ?_
  rintro e w1 ⟨rfl, n1⟩
  obtain ⟨⟨l0, l1⟩, b0, b1, n2⟩ := two_made n1
  have c0 := cell2a b0
  have c1 := cell2b b0
  clear n1
  go_wp2_with fail
  refine (above_any L I (by omega) (by omega) _).mono ?_
  rintro e w2 ⟨rfl, n3⟩
  have b2 := (n3.block _ l1 (fun f => f)).trans b1
  have n4 : Nw w w2 := n2.tr n3
  clear c0 c1 b0 b1 n3 n2
  have d0 := cell2a b2
  have d1 := cell2b b2
  have z0 := frozen_of b2 0
  have z1 := frozen_of b2 1
  go_wp2
  (refine bodyPost_ret (results_cell_slot (V := #[.int .u8 ((L + 1 : Nat) : Int), .int .u64 ((I / 2 : Nat) : Int)]) (ty := 24) (f := (0, 0)) Tryd.results12 Tryd.isAgg24 Tryd.sizeOf24 rfl _ rfl ?_ rfl) rfl ⟨rfl, (by repeat first | with_reducible exact n4 | with_reducible refine Fr.alloc ?_ _ | with_reducible refine Fr.drew ?_ | (with_reducible refine Fr.setCell ?_ _ _ (fun h => ?_); rotate_left; focus (simp only at h; omega)))⟩; (repeat first | with_reducible exact b2 | with_reducible exact heap_new _ _ | with_reducible exact heap_next _ _ _ | with_reducible exact heap_third _ _ _ _ | with_reducible refine hp_dr ?_ | (with_reducible refine hp_ne ?_ ?_; focus omega) | (with_reducible refine hp_al ?_ ?_; focus (first | omega | (simp <;> omega))) | with_reducible apply hp_set) <;> rfl)
set_option maxHeartbeats 1000000 in
theorem parent_no (L I : Nat) (h : ¬ (L < 63 ∧ may L I)) (hL : L ≤ 255) (hI : I < 18446744073709551616) (w : World) :
    Calls Tryd.prog 12 #[cd L I] w fun e w' => e = .returned (.tuple #[cd 0 0, .bool false]) ∧ Nw w w' := by
  have H : Hid (¬ (L < 63 ∧ may L I)) := h
  clear h
  go_enter Tryd.func12, Tryd.ntmps12
  go_wp2_with fail
  refine (isHalf_any L I false (by simpa using H.out) (by omega) (by omega) _).mono ?_
  rintro e w1 ⟨rfl, n1⟩
  obtain ⟨⟨l0, l1⟩, b0, b1, n2⟩ := two_made n1
  have d0 := cell2a b1
  have d1 := cell2b b1
  have z0 := frozen_of b1 0
  have z1 := frozen_of b1 1
  clear n1 b0
  go_wp2
  (refine bodyPost_ret (results_cell_slot (V := #[.int .u8 0, .int .u64 0]) (ty := 24) (f := (0, 0)) Tryd.results12 Tryd.isAgg24 Tryd.sizeOf24 rfl _ rfl ?_ rfl) rfl ⟨rfl, (by repeat first | with_reducible exact n2 | with_reducible refine Fr.alloc ?_ _ | with_reducible refine Fr.drew ?_ | (with_reducible refine Fr.setCell ?_ _ _ (fun h => ?_); rotate_left; focus (simp only at h; omega)))⟩; (repeat first | with_reducible exact b1 | with_reducible exact heap_new _ _ | with_reducible exact heap_next _ _ _ | with_reducible exact heap_third _ _ _ _ | with_reducible refine hp_dr ?_ | (with_reducible refine hp_ne ?_ ?_; focus omega) | (with_reducible refine hp_al ?_ ?_; focus (first | omega | (simp <;> omega))) | with_reducible apply hp_set) <;> rfl)

set_option maxHeartbeats 1000000 in
theorem sibling_yes (L I : Nat) (h : may L I) (h63 : L < 63) (w : World) :
    Calls Tryd.prog 14 #[cd L I] w fun e w' => e = .returned (.tuple #[cd L (sib I), .bool true]) ∧ Nw w w' := by
  have H : Hid (may L I) := h
  have hI := may_bd h
  rw [p63] at hI
  have hx := xor_one I (by omega)
  clear h
  go_enter Tryd.func14, Tryd.ntmps14
  go_wp2_with fail
  refine (isHalf_any L I true (by simp [H.out, h63]) (by omega) (by omega) _).mono ?_
  rintro e w1 ⟨rfl, n1⟩
  obtain ⟨⟨l0, l1⟩, b0, b1, n2⟩ := two_made n1
  have c0 := cell2a b0
  have c1 := cell2b b0
  have y1 := frozen_of b0 1
  have d0 := cell2a b1
  have d1 := cell2b b1
  have z0 := frozen_of b1 0
  have z1 := frozen_of b1 1
  clear n1
  go_wp2
  (refine bodyPost_ret (results_cell_slot (V := #[.int .u8 (L : Int), .int .u64 ((sib I : Nat) : Int)]) (ty := 24) (f := (0, 0)) Tryd.results14 Tryd.isAgg24 Tryd.sizeOf24 rfl _ rfl ?_ rfl) rfl ⟨rfl, (by repeat first | with_reducible exact n2 | with_reducible refine Fr.alloc ?_ _ | with_reducible refine Fr.drew ?_ | (with_reducible refine Fr.setCell ?_ _ _ (fun h => ?_); rotate_left; focus (simp only at h; omega)))⟩; (repeat first | with_reducible exact b1 | with_reducible exact heap_new _ _ | with_reducible exact heap_next _ _ _ | with_reducible exact heap_third _ _ _ _ | with_reducible refine hp_dr ?_ | (with_reducible refine hp_ne ?_ ?_; focus omega) | (with_reducible refine hp_al ?_ ?_; focus (first | omega | (simp <;> omega))) | with_reducible apply hp_set) <;> rfl)
set_option maxHeartbeats 1000000 in
theorem sibling_no (L I : Nat) (h : ¬ (L < 63 ∧ may L I)) (hL : L ≤ 255) (hI : I < 18446744073709551616) (w : World) :
    Calls Tryd.prog 14 #[cd L I] w fun e w' => e = .returned (.tuple #[cd 0 0, .bool false]) ∧ Nw w w' := by
  have H : Hid (¬ (L < 63 ∧ may L I)) := h
  clear h
  go_enter Tryd.func14, Tryd.ntmps14
  go_wp2_with fail
  refine (isHalf_any L I false (by simpa using H.out) (by omega) (by omega) _).mono ?_
  rintro e w1 ⟨rfl, n1⟩
  obtain ⟨⟨l0, l1⟩, b0, b1, n2⟩ := two_made n1
  have d0 := cell2a b1
  have d1 := cell2b b1
  have z0 := frozen_of b1 0
  have z1 := frozen_of b1 1
  clear n1 b0
  go_wp2
  (refine bodyPost_ret (results_cell_slot (V := #[.int .u8 0, .int .u64 0]) (ty := 24) (f := (0, 0)) Tryd.results14 Tryd.isAgg24 Tryd.sizeOf24 rfl _ rfl ?_ rfl) rfl ⟨rfl, (by repeat first | with_reducible exact n2 | with_reducible refine Fr.alloc ?_ _ | with_reducible refine Fr.drew ?_ | (with_reducible refine Fr.setCell ?_ _ _ (fun h => ?_); rotate_left; focus (simp only at h; omega)))⟩; (repeat first | with_reducible exact b1 | with_reducible exact heap_new _ _ | with_reducible exact heap_next _ _ _ | with_reducible exact heap_third _ _ _ _ | with_reducible refine hp_dr ?_ | (with_reducible refine hp_ne ?_ ?_; focus omega) | (with_reducible refine hp_al ?_ ?_; focus (first | omega | (simp <;> omega))) | with_reducible apply hp_set) <;> rfl)

theorem mul2 (I : Nat) : ((I : Int) * 2) = ((2 * I : Nat) : Int) := by omega
theorem results_cells_slot {P : Program} {w : World} {fn : Func} {i j s : Nat} {t : TypeId} {n g k : Nat} {tmps : Array Value} {V U : Array Value} {ty tz : TypeId} {f f2 : Nat × Nat} (hr : fn.results = #[.cell i t, .cell j t, .tmp s]) (hagg : ∀ W : World, (isAgg t).run P W = .ok true W) (hsz : ∀ W : World, (sizeOf t).run P W = .ok n W)
    (hx : tmps.getD i undef = .pointer (some ⟨g, 0, none⟩)) (hy : tmps.getD j undef = .pointer (some ⟨k, 0, none⟩)) (v : Value) (hv : tmps.getD s undef = v) (hg : w.heap[g]? = some (.cells V ty f)) (hV : V.size = n) (hk : w.heap[k]? = some (.cells U tz f2)) (hU : U.size = n) : (results fn tmps).run P w = .ok (.tuple #[.agg V, .agg U, v]) w := by
  have hl : (loadCells ⟨g, 0, none⟩ n).run P w = .ok V w := by
    have := run_loadCells_list (P := P) w ⟨g, 0, none⟩ V.toList (fun j v hv => by
      rw [addZ, cell_of hg]
      simpa using hv)
    simpa [hV] using this
  have hl2 : (loadCells ⟨k, 0, none⟩ n).run P w = .ok U w := by
    have := run_loadCells_list (P := P) w ⟨k, 0, none⟩ U.toList (fun j v hv => by
      rw [addZ, cell_of hk]
      simpa using hv)
    simpa [hU] using this
  have ha : ∀ (g : Nat) (W : World), (asAddr (.pointer (some ⟨g, 0, none⟩))).run P W = .ok ⟨g, 0, none⟩ W := fun g W => by simp [asAddr]
  have hx2 : tmps[i]?.getD undef = .pointer (some ⟨g, 0, none⟩) := by rw [← hx]; simp [Array.getD]; split <;> simp_all
  have hy2 : tmps[j]?.getD undef = .pointer (some ⟨k, 0, none⟩) := by rw [← hy]; simp [Array.getD]; split <;> simp_all
  have hv2 : tmps[s]?.getD undef = v := by rw [← hv]; simp [Array.getD]; split <;> simp_all
  simp [results, hr, hx2, hy2, hv2, ha, loadVar, hagg, hsz, hl, hl2]
/-- Three blocks that were made ahead of a call, behind it. -/
theorem three_made {w w1 : World} {o p q : Obj} (n1 : Nw (((w.alloc o).alloc p).alloc q) w1) : (w.heap.size < w1.heap.size ∧ w.heap.size + 1 < w1.heap.size ∧ w.heap.size + 1 + 1 < w1.heap.size) ∧ w1.heap[w.heap.size]? = some o ∧ w1.heap[w.heap.size + 1]? = some p ∧ w1.heap[w.heap.size + 1 + 1]? = some q ∧ Nw w w1 := by
  have h := two_made (w := w.alloc o) n1
  simp only [World.size_alloc] at h
  obtain ⟨⟨l1, l2⟩, b1, b2, n2⟩ := h
  obtain ⟨l0, b0, n3⟩ := one_made n2
  exact ⟨⟨l0, l1, l2⟩, b0, b1, b2, n3⟩

set_option maxHeartbeats 2000000 in
theorem children_yes (L I : Nat) (h : may L I) (h0 : 0 < L) (w : World) :
    Calls Tryd.prog 16 #[cd L I] w fun e w' => e = .returned (.tuple #[cd (L - 1) (2 * I), cd (L - 1) (2 * I + 1), .bool true]) ∧ Nw w w' := by
  have H : Hid (may L I) := h
  have hL := h.1
  have hI : I < 4611686018427387904 := by
    have h1 := h.2
    have h2 : 2 ^ 1 ≤ 2 ^ L := pow_le2 h0
    have h3 : (I + 1) * 2 ^ 1 ≤ (I + 1) * 2 ^ L := Nat.mul_le_mul_left _ h2
    rw [p63] at h1
    omega
  have ho := or_one I (by omega)
  have e1 : (L : Int) - 1 = ((L - 1 : Nat) : Int) := by omega
  have hz : ((L : Int) == 0) = false := by simp; omega
  clear h
  go_enter Tryd.func16, Tryd.ntmps16
  go_wp2_with fail
  refine (tmb L I true (by simp [H.out]) (by omega) (by omega) _).mono ?_
  rintro e w1 ⟨rfl, n1⟩
  obtain ⟨⟨l0, l1, l2⟩, b0, b1, b2, n2⟩ := three_made n1
  have c0 := cell2a b0
  have c1 := cell2b b0
  have y0 := frozen_of b0 0
  have y1 := frozen_of b0 1
  have d0 := cell2a b1
  have d1 := cell2b b1
  have z0 := frozen_of b1 0
  have z1 := frozen_of b1 1
  have g0 := cell2a b2
  have g1 := cell2b b2
  have x0 := frozen_of b2 0
  have x1 := frozen_of b2 1
  clear n1
  go_wp2
  go_region
  refine gen_world (fun W => W.heap[w.heap.size + 1]? = some (.cells #[.int .u8 ((L - 1 : Nat) : Int), .int .u64 ((I : Int) * 2)] 24) ∧ W.heap[w.heap.size + 1 + 1]? = some (.cells #[.int .u8 ((L - 1 : Nat) : Int), .int .u64 ((I : Int) * 2)] 24) ∧ Nw w W ∧ w.heap.size + 1 + 1 < W.heap.size) ⟨by (repeat first | with_reducible exact b1 | with_reducible exact heap_new _ _ | with_reducible exact heap_next _ _ _ | with_reducible exact heap_third _ _ _ _ | with_reducible refine hp_dr ?_ | (with_reducible refine hp_ne ?_ ?_; focus omega) | (with_reducible refine hp_al ?_ ?_; focus (first | omega | (simp <;> omega))) | with_reducible apply hp_set) <;> rfl, by (repeat first | with_reducible exact b2 | with_reducible exact heap_new _ _ | with_reducible exact heap_next _ _ _ | with_reducible exact heap_third _ _ _ _ | with_reducible refine hp_dr ?_ | (with_reducible refine hp_ne ?_ ?_; focus omega) | (with_reducible refine hp_al ?_ ?_; focus (first | omega | (simp <;> omega))) | with_reducible apply hp_set) <;> rfl, (by repeat first | with_reducible exact n2 | with_reducible refine Fr.alloc ?_ _ | with_reducible refine Fr.drew ?_ | (with_reducible refine Fr.setCell ?_ _ _ (fun h => ?_); rotate_left; focus (simp only at h; omega))), by simpa using l2⟩ ?_
  clear b0 b1 b2 n2 c0 c1 y0 y1 d0 d1 z0 z1 g0 g1 x0 x1 l0 l1 l2
  rintro w2 ⟨b1, b2, n2, l2⟩
  have l1 : w.heap.size + 1 < w2.heap.size := by omega
  have l0 : w.heap.size < w2.heap.size := by omega
  have d0 := cell2a b1
  have d1 := cell2b b1
  have z0 := frozen_of b1 0
  have z1 := frozen_of b1 1
  have g0 := cell2a b2
  have g1 := cell2b b2
  have x0 := frozen_of b2 0
  have x1 := frozen_of b2 1
  go_wp2
  go_region
  go_wp2
  (refine bodyPost_ret (results_cells_slot (V := #[.int .u8 ((L - 1 : Nat) : Int), .int .u64 ((I : Int) * 2)]) (ty := 24) (f := (0, 0)) (U := #[.int .u8 ((L - 1 : Nat) : Int), .int .u64 ((2 * I + 1 : Nat) : Int)]) (tz := 24) (f2 := (0, 0)) Tryd.results16 Tryd.isAgg24 Tryd.sizeOf24 rfl rfl _ rfl ?hg rfl ?hk rfl) rfl ⟨by rw [mul2 I]; rfl, (by repeat first | with_reducible exact n2 | with_reducible refine Fr.alloc ?_ _ | with_reducible refine Fr.drew ?_ | (with_reducible refine Fr.setCell ?_ _ _ (fun h => ?_); rotate_left; focus (simp only at h; omega)))⟩; (case hg => ((repeat first | with_reducible exact b1 | with_reducible exact heap_new _ _ | with_reducible exact heap_next _ _ _ | with_reducible exact heap_third _ _ _ _ | with_reducible refine hp_dr ?_ | (with_reducible refine hp_ne ?_ ?_; focus omega) | (with_reducible refine hp_al ?_ ?_; focus (first | omega | (simp <;> omega))) | with_reducible apply hp_set) <;> rfl)); (case hk => ((repeat first | with_reducible exact b2 | with_reducible exact heap_new _ _ | with_reducible exact heap_next _ _ _ | with_reducible exact heap_third _ _ _ _ | with_reducible refine hp_dr ?_ | (with_reducible refine hp_ne ?_ ?_; focus omega) | (with_reducible refine hp_al ?_ ?_; focus (first | omega | (simp <;> omega))) | with_reducible apply hp_set) <;> rfl)))
set_option maxHeartbeats 1000000 in
theorem children_no (L I : Nat) (h : ¬ (0 < L ∧ may L I)) (hL : L ≤ 255) (hI : I < 18446744073709551616) (w : World) :
    Calls Tryd.prog 16 #[cd L I] w fun e w' => e = .returned (.tuple #[cd 0 0, cd 0 0, .bool false]) ∧ Nw w w' := by
  have H : Hid (¬ (0 < L ∧ may L I)) := h
  clear h
  by_cases hz : L = 0
  · subst hz
    go_enter Tryd.func16, Tryd.ntmps16
    go_wp2
    (refine bodyPost_ret (results_cells_slot (V := #[.int .u8 0, .int .u64 0]) (ty := 24) (f := (0, 0)) (U := #[.int .u8 0, .int .u64 0]) (tz := 24) (f2 := (0, 0)) Tryd.results16 Tryd.isAgg24 Tryd.sizeOf24 rfl rfl _ rfl ?hg rfl ?hk rfl) rfl ⟨rfl, (by repeat first | with_reducible exact nwr w | with_reducible refine Fr.alloc ?_ _ | with_reducible refine Fr.drew ?_ | (with_reducible refine Fr.setCell ?_ _ _ (fun h => ?_); rotate_left; focus (simp only at h; omega)))⟩; (case hg => ((repeat first | with_reducible exact heap_next w _ _ | with_reducible exact heap_new _ _ | with_reducible exact heap_next _ _ _ | with_reducible exact heap_third _ _ _ _ | with_reducible refine hp_dr ?_ | (with_reducible refine hp_ne ?_ ?_; focus omega) | (with_reducible refine hp_al ?_ ?_; focus (first | omega | (simp <;> omega))) | with_reducible apply hp_set) <;> rfl)); (case hk => ((repeat first | with_reducible exact heap_new _ _ | with_reducible exact heap_new _ _ | with_reducible exact heap_next _ _ _ | with_reducible exact heap_third _ _ _ _ | with_reducible refine hp_dr ?_ | (with_reducible refine hp_ne ?_ ?_; focus omega) | (with_reducible refine hp_al ?_ ?_; focus (first | omega | (simp <;> omega))) | with_reducible apply hp_set) <;> rfl)))
  · have hz2 : ((L : Int) == 0) = false := by simp; omega
    go_enter Tryd.func16, Tryd.ntmps16
    go_wp2_with fail
    refine (tmb L I false (by have := H.out; simp; intro k; exact this ⟨by omega, k⟩) (by omega) (by omega) _).mono ?_
    rintro e w1 ⟨rfl, n1⟩
    obtain ⟨⟨l0, l1, l2⟩, b0, b1, b2, n2⟩ := three_made n1
    have d0 := cell2a b1
    have d1 := cell2b b1
    have z0 := frozen_of b1 0
    have z1 := frozen_of b1 1
    have g0 := cell2a b2
    have g1 := cell2b b2
    have x0 := frozen_of b2 0
    have x1 := frozen_of b2 1
    clear n1 b0
    go_wp2
    (refine bodyPost_ret (results_cells_slot (V := #[.int .u8 0, .int .u64 0]) (ty := 24) (f := (0, 0)) (U := #[.int .u8 0, .int .u64 0]) (tz := 24) (f2 := (0, 0)) Tryd.results16 Tryd.isAgg24 Tryd.sizeOf24 rfl rfl _ rfl ?hg rfl ?hk rfl) rfl ⟨rfl, (by repeat first | with_reducible exact n2 | with_reducible refine Fr.alloc ?_ _ | with_reducible refine Fr.drew ?_ | (with_reducible refine Fr.setCell ?_ _ _ (fun h => ?_); rotate_left; focus (simp only at h; omega)))⟩; (case hg => ((repeat first | with_reducible exact b1 | with_reducible exact heap_new _ _ | with_reducible exact heap_next _ _ _ | with_reducible exact heap_third _ _ _ _ | with_reducible refine hp_dr ?_ | (with_reducible refine hp_ne ?_ ?_; focus omega) | (with_reducible refine hp_al ?_ ?_; focus (first | omega | (simp <;> omega))) | with_reducible apply hp_set) <;> rfl)); (case hk => ((repeat first | with_reducible exact b2 | with_reducible exact heap_new _ _ | with_reducible exact heap_next _ _ _ | with_reducible exact heap_third _ _ _ _ | with_reducible refine hp_dr ?_ | (with_reducible refine hp_ne ?_ ?_; focus omega) | (with_reducible refine hp_al ?_ ?_; focus (first | omega | (simp <;> omega))) | with_reducible apply hp_set) <;> rfl)))
end Go.Proofs.YtibkmcmgolbhhaaDoor
