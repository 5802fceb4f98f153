/- The document's faults; its Path, refused and answered. -/
import Derived.Test.YtigbjpphmbmbiaaGreatDoorR1
import Derived.Test.YtigbjpphmbmbiaaGreatDoorE6
namespace Go.Proofs.YtigbjpphmbmbiaaGreatDoor
open Go.RowKit
set_option linter.unusedVariables false
set_option linter.unusedSimpArgs false

theorem results_slot_cell {P : Program} {w : World} {fn : Func} {i j : Nat} {t : TypeId} {n g : Nat} {tmps : Array Value} {V : Array Value} {ty : TypeId} {f : Nat × Nat} (hr : fn.results = #[.tmp j, .cell i t]) (hagg : ∀ W : World, (isAgg t).run P W = .ok true W) (hsz : ∀ W : World, (sizeOf t).run P W = .ok n W)
    (hx : tmps.getD i undef = .pointer (some ⟨g, 0, none⟩)) (v : Value) (hj : tmps.getD j undef = v) (hg : w.heap[g]? = some (.cells V ty f)) (hV : V.size = n) : (results fn tmps).run P w = .ok (.tuple #[v, .agg V]) w := by
  have hl : (loadCells ⟨g, 0, none⟩ n).run P w = .ok V w := by
    have := run_loadCells_list (P := P) w ⟨g, 0, none⟩ V.toList (fun j v hv => by
      rw [addZ, cell_of hg]
      simpa using hv)
    simpa [hV] using this
  have ha : ∀ W : World, (asAddr (.pointer (some ⟨g, 0, none⟩))).run P W = .ok ⟨g, 0, none⟩ W := fun W => by simp [asAddr]
  have hx2 : tmps[i]?.getD undef = .pointer (some ⟨g, 0, none⟩) := by rw [← hx]; simp [Array.getD]; split <;> simp_all
  have hj2 : tmps[j]?.getD undef = v := by rw [← hj]; simp [Array.getD]; split <;> simp_all
  simp [results, hr, hx2, hj2, ha, loadVar, hagg, hsz, hl]
abbrev cF (c p : Int) : Obj := .cells #[.int .i64 c, .int .i64 p] 31

set_option maxHeartbeats 1000000 in
theorem rfault_f (w : World) : Calls Tryz.prog 26 #[.bool false] w fun x w' => x = .returned (.agg #[.int .i64 0, .int .i64 0]) ∧ Nw w w' := by
  go_enter Tryz.func26, Tryz.ntmps26
  go_wp2
  (refine bodyPost_ret (results_cell (V := #[.int .i64 0, .int .i64 0]) (ty := 31) (f := (0, 0)) Tryz.results26 Tryz.isAgg31 Tryz.sizeOf31 rfl ?_ rfl) rfl ⟨rfl, (by repeat first | with_reducible exact nwr w | with_reducible refine Fr.alloc ?_ _ | with_reducible refine Fr.drew ?_ | (with_reducible refine Fr.setCell ?_ _ _ (fun h => ?_); rotate_left; focus (simp only at h; omega)))⟩; (repeat first | with_reducible exact heap_new _ _ | with_reducible exact heap_new _ _ | with_reducible exact heap_next _ _ _ | with_reducible exact heap_third _ _ _ _ | with_reducible refine hp_dr ?_ | (with_reducible refine hp_ne ?_ ?_; focus omega) | (with_reducible refine hp_al ?_ ?_; focus (first | omega | (simp <;> omega))) | with_reducible apply hp_set) <;> rfl)
set_option maxHeartbeats 1000000 in
theorem rfault_t (w : World) : Calls Tryz.prog 26 #[.bool true] w fun x w' => x = .returned (.agg #[.int .i64 5, .int .i64 (-1)]) ∧ Nw w w' := by
  go_enter Tryz.func26, Tryz.ntmps26
  go_wp2_with fail
  refine (plain_any 5 _ (by decide)).mono ?_
  rintro x w1 ⟨rfl, n1⟩
  have b1 : w1.heap[w.heap.size]? = some (cF 0 0) := (n1.block _ (by simp) (fun f => f)).trans (heap_new w _)
  have n2 : Nw w w1 := Nw.tr (nwa w _) n1
  have c0 := cell2a b1
  have c1 := cell2b b1
  have z0 := frozen_of b1 0
  have z1 := frozen_of b1 1
  have B1 := show Hid _ from b1
  clear n1 b1
  go_wp2
  (refine bodyPost_ret (results_cell (V := #[.int .i64 5, .int .i64 (-1)]) (ty := 31) (f := (0, 0)) Tryz.results26 Tryz.isAgg31 Tryz.sizeOf31 rfl ?_ rfl) rfl ⟨rfl, (by repeat first | with_reducible exact n2 | with_reducible refine Fr.alloc ?_ _ | with_reducible refine Fr.drew ?_ | (with_reducible refine Fr.setCell ?_ _ _ (fun h => ?_); rotate_left; focus (simp only at h; omega)))⟩; (repeat first | with_reducible exact B1.out | with_reducible exact heap_new _ _ | with_reducible exact heap_next _ _ _ | with_reducible exact heap_third _ _ _ _ | with_reducible refine hp_dr ?_ | (with_reducible refine hp_ne ?_ ?_; focus omega) | (with_reducible refine hp_al ?_ ?_; focus (first | omega | (simp <;> omega))) | with_reducible apply hp_set) <;> rfl)

set_option maxHeartbeats 1000000 in
theorem rPath_no (i n : Nat) (h : ¬ (i < n ∧ n ≤ 9223372036854775808)) (w : World) :
    Calls Tryz.prog 10 #[.int .u64 (i : Int), .int .u64 (n : Int)] w fun x w' => x = .returned (.tuple #[.slice none 0 0, .agg #[.int .i64 5, .int .i64 (-1)]]) ∧ Nw w w' := by
  have hn : (9223372036854775808 : Int) < (n : Int) ∨ (¬ (9223372036854775808 : Int) < (n : Int) ∧ (n : Int) ≤ (i : Int)) := by first | omega | (simp; omega)
  clear h
  go_enter Tryz.func10, Tryz.ntmps10
  rcases hn with hn | ⟨hn, hn2⟩
  all_goals
    go_wp2_with fail
    refine (rfault_t _).mono ?_
    rintro x w1 ⟨rfl, n1⟩
    have b1 : w1.heap[w.heap.size]? = some (cF 0 0) := (n1.block _ (by simp) (fun f => f)).trans (heap_new w _)
    have n2 : Nw w w1 := Nw.tr (nwa w _) n1
    have c0 := cell2a b1
    have c1 := cell2b b1
    have z0 := frozen_of b1 0
    have z1 := frozen_of b1 1
    have B1 := show Hid _ from b1
    clear n1 b1
    go_wp2
    refine bodyPost_ret (results_slot_cell (V := #[.int .i64 5, .int .i64 (-1)]) (ty := 31) (f := (0, 0)) Tryz.results10 Tryz.isAgg31 Tryz.sizeOf31 rfl _ rfl ?_ rfl) rfl ⟨rfl, (by repeat first | with_reducible exact n2 | with_reducible refine Fr.alloc ?_ _ | with_reducible refine Fr.drew ?_ | (with_reducible refine Fr.setCell ?_ _ _ (fun h => ?_); rotate_left; focus (simp only at h; omega)))⟩
    (repeat first | with_reducible exact B1.out | with_reducible exact heap_new _ _ | with_reducible exact heap_next _ _ _ | with_reducible exact heap_third _ _ _ _ | with_reducible refine hp_dr ?_ | (with_reducible refine hp_ne ?_ ?_; focus omega) | (with_reducible refine hp_al ?_ ?_; focus (first | omega | (simp <;> omega))) | with_reducible apply hp_set) <;> rfl
set_option maxHeartbeats 1000000 in
theorem rPath_yes (i n : Nat) (h : i < n) (hn : n ≤ 9223372036854775808) (w : World) :
    Calls Tryz.prog 10 #[.int .u64 (i : Int), .int .u64 (n : Int)] w fun x w' => ∃ v, x = .returned (.tuple #[v, .agg #[.int .i64 0, .int .i64 0]]) ∧ w'.ownsRow w.heap.size 74 2 v (pth i 0 n).length (fs (pth i 0 n)) ∧ Nw w w' := by
  have hin : (i : Int) < (n : Int) := by omega
  have hl := pth_len 63 i 0 n (by rw [p63]; omega)
  have HL : Hid ((pth i 0 n).length ≤ 200) := by show _ ≤ _; omega
  clear hl
  go_enter Tryz.func10, Tryz.ntmps10
  go_wp2_with fail
  refine (rpath_any i n 0 n _ (by omega) (by omega) h hn HL.out).mono ?_
  rintro x w1 ⟨v, rfl, o1, n1⟩
  obtain ⟨va, vc, rfl⟩ := ownsRow_form o1
  have b1 : w1.heap[w.heap.size]? = some (cF 0 0) := (n1.block _ (by simp) (fun f => f)).trans (heap_new w _)
  have n2 : Nw w w1 := Nw.tr (nwa w _) n1
  have O1 : Hid (w1.ownsRow (w.heap.size + 1) 74 2 (.slice va (pth i 0 n).length vc) (pth i 0 n).length (fs (pth i 0 n))) := by
    have := o1
    rw [World.size_alloc] at this
    exact this
  have B1 := show Hid _ from b1
  have N2 : Hid (Nw w w1) := n2
  clear n1 b1 n2 o1
  go_wp2_with fail
  refine (rfault_f _).mono ?_
  rintro x w2 ⟨rfl, n3⟩
  have b2 := (n3.block _ (heap_lt B1.out) (fun f => f)).trans B1.out
  have N3 : Hid (Nw w w2) := N2.out.tr n3
  have O2 : Hid (w2.ownsRow (w.heap.size + 1) 74 2 (.slice va (pth i 0 n).length vc) (pth i 0 n).length (fs (pth i 0 n))) := ownsRow_keep O1.out (fun g hg => n3.block g (O1.out.lt g hg).2 (fun f => f))
  have c0 := cell2a b2
  have c1 := cell2b b2
  have z0 := frozen_of b2 0
  have z1 := frozen_of b2 1
  have B2 := show Hid _ from b2
  clear n3 b2
  go_wp2
  refine bodyPost_ret (results_slot_cell (V := #[.int .i64 0, .int .i64 0]) (ty := 31) (f := (0, 0)) Tryz.results10 Tryz.isAgg31 Tryz.sizeOf31 rfl _ rfl ?_ rfl) rfl ⟨_, rfl, ?_, (by repeat first | with_reducible exact N3.out | with_reducible refine Fr.alloc ?_ _ | with_reducible refine Fr.drew ?_ | (with_reducible refine Fr.setCell ?_ _ _ (fun h => ?_); rotate_left; focus (simp only at h; omega)))⟩
  · (repeat first | with_reducible exact B2.out | with_reducible exact heap_new _ _ | with_reducible exact heap_next _ _ _ | with_reducible exact heap_third _ _ _ _ | with_reducible refine hp_dr ?_ | (with_reducible refine hp_ne ?_ ?_; focus omega) | (with_reducible refine hp_al ?_ ?_; focus (first | omega | (simp <;> omega))) | with_reducible apply hp_set) <;> rfl
  · refine ownsRow_keep (ownsRow_base O2.out (by omega)) (fun q hq => ?_)
    have := (O2.out.lt q hq).1
    rw [heap_set_ne (by omega), heap_set_ne (by omega)]
end Go.Proofs.YtigbjpphmbmbiaaGreatDoor
