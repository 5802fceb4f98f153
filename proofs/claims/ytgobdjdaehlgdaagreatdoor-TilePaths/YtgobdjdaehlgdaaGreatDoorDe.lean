/- tile: the document's Path, Parse. -/
import Derived.Test.YtgobdjdaehlgdaaGreatDoorDd
namespace Go.Proofs.YtgobdjdaehlgdaaGreatDoor
open Go.RowKit
open Go.Lib (decDigits nDigits)
set_option linter.unusedVariables false
set_option linter.unusedSimpArgs false
theorem res_slot_cell {P : Program} {w : World} {fn : Func} {i j : Nat} {t : TypeId} {n g : Nat} {tmps : Array Value} {V : Array Value} {ty : TypeId} {f : Nat × Nat} (hr : fn.results = #[.tmp j, .cell i t]) (hagg : ∀ W : World, (isAgg t).run P W = .ok true W) (hsz : ∀ W : World, (sizeOf t).run P W = .ok n W)
    (hx : tmps.getD i undef = .pointer (some ⟨g, 0, none⟩)) (v : Value) (hj : tmps.getD j undef = v) (hg : w.heap[g]? = some (.cells V ty f)) (hV : V.size = n) : (results fn tmps).run P w = .ok (.tuple #[v, .agg V]) w := by
  have hl : (loadCells ⟨g, 0, none⟩ n).run P w = .ok V w := by
    have := run_loadCells_list (P := P) w ⟨g, 0, none⟩ V.toList (fun j v hv => by
      rw [addZ, cell_of hg]
      simpa using hv)
    simpa [hV] using this
  have ha : ∀ W : World, (asAddr (.pointer (some ⟨g, 0, none⟩))).run P W = .ok ⟨g, 0, none⟩ W := fun W => by simp [asAddr]
  have hx2 : tmps[i]?.getD undef = .pointer (some ⟨g, 0, none⟩) := by rw [← hx]; simp [Array.getD]; split <;> simp_all
  have hj2 : tmps[j]?.getD undef = v := by rw [← hj]; simp [Array.getD]; split <;> simp_all
  simp [results, hr, hx2, hj2, ha, loadVar, hagg, hsz, hl]
theorem res_cells {P : Program} {w : World} {fn : Func} {i j : Nat} {t u : TypeId} {n m g k : Nat} {tmps : Array Value} {V U : Array Value} {ty tz : TypeId} {f f2 : Nat × Nat} (hr : fn.results = #[.cell i t, .cell j u]) (hagg : ∀ W : World, (isAgg t).run P W = .ok true W) (hsz : ∀ W : World, (sizeOf t).run P W = .ok n W)
    (hagg2 : ∀ W : World, (isAgg u).run P W = .ok true W) (hsz2 : ∀ W : World, (sizeOf u).run P W = .ok m W)
    (hx : tmps.getD i undef = .pointer (some ⟨g, 0, none⟩)) (hy : tmps.getD j undef = .pointer (some ⟨k, 0, none⟩)) (hg : w.heap[g]? = some (.cells V ty f)) (hV : V.size = n) (hk : w.heap[k]? = some (.cells U tz f2)) (hU : U.size = m) : (results fn tmps).run P w = .ok (.tuple #[.agg V, .agg U]) w := by
  have hl : (loadCells ⟨g, 0, none⟩ n).run P w = .ok V w := by
    have := run_loadCells_list (P := P) w ⟨g, 0, none⟩ V.toList (fun j v hv => by
      rw [addZ, cell_of hg]
      simpa using hv)
    simpa [hV] using this
  have hl2 : (loadCells ⟨k, 0, none⟩ m).run P w = .ok U w := by
    have := run_loadCells_list (P := P) w ⟨k, 0, none⟩ U.toList (fun j v hv => by
      rw [addZ, cell_of hk]
      simpa using hv)
    simpa [hU] using this
  have ha : ∀ (W : World) (q : Nat), (asAddr (.pointer (some ⟨q, 0, none⟩))).run P W = .ok ⟨q, 0, none⟩ W := fun W q => by simp [asAddr]
  have hx2 : tmps[i]?.getD undef = .pointer (some ⟨g, 0, none⟩) := by rw [← hx]; simp [Array.getD]; split <;> simp_all
  have hy2 : tmps[j]?.getD undef = .pointer (some ⟨k, 0, none⟩) := by rw [← hy]; simp [Array.getD]; split <;> simp_all
  simp [results, hr, hx2, hy2, ha, loadVar, hagg, hsz, hl, hagg2, hsz2, hl2]
abbrev flt (c p : Int) : Value := .agg #[.int .i64 c, .int .i64 p]
set_option maxHeartbeats 1000000 in
theorem rpath_yes (L I W : Nat) (h : mayT L I (W : Int)) (w : World) :
    Calls Tryz.prog 14 #[tl L I W] w fun e w' => e = .returned (.tuple #[.string ⟨(nm L I W).toArray⟩, flt 0 0]) ∧ Nw w w' := by
  obtain ⟨_, hL, hI, hW1, hW⟩ := nm_len h
  have QM : Hid (∀ V, Calls Tryz.prog 83 #[tl L I W] V fun e w' => e = .returned (.bool true) ∧ Nw V w') := fun V => rmay_any L I W (by omega) (by omega) true (by simp [h]) V
  have QN : Hid (∀ V, Calls Tryz.prog 84 #[tl L I W] V fun e w' => e = .returned (.string ⟨(nm L I W).toArray⟩) ∧ Nw V w') := fun V => rname_any L I W (by omega) (by omega) hW V
  obtain ⟨s, hs⟩ : ∃ s, s = (⟨(nm L I W).toArray⟩ : ByteArray) := ⟨_, rfl⟩
  rw [← hs] at QN ⊢
  clear hs h
  go_enter Tryz.func14, Tryz.ntmps14
  go_wp2_with fail
  refine (QM.out _).mono ?_
  rintro e w1 ⟨rfl, n1⟩
  obtain ⟨⟨l0, l1⟩, b0, b1, n2⟩ := two_made n1
  obtain ⟨d0, d1, d2⟩ := cell3 b0
  have N2 : Hid (Nw w w1) := n2
  have B1 : Hid (w1.heap[w.heap.size + 1]? = some (.cells #[.int .i64 0, .int .i64 0] 29)) := b1
  clear n1 n2 b0 b1
  go_wp2_with fail
  refine (QN.out _).mono ?_
  rintro e w2 ⟨rfl, n3⟩
  have b1 := (n3.block _ (heap_lt B1.out) (fun f => f)).trans B1.out
  have n4 := N2.out.tr n3
  obtain ⟨z0, z1⟩ : _ ∧ _ := ⟨frozen_of b1 0, frozen_of b1 1⟩
  have y0 := (cell_of b1 0)
  have y1 := (cell_of b1 1)
  clear n3
  go_wp2
  refine bodyPost_ret (res_slot_cell (V := #[.int .i64 0, .int .i64 0]) (ty := 29) (f := (0, 0)) Tryz.results14 Tryz.isAgg29 Tryz.sizeOf29 rfl _ rfl ?_ rfl) rfl ⟨rfl, (by repeat first | with_reducible exact n4 | with_reducible refine Fr.alloc ?_ _ | with_reducible refine Fr.drew ?_ | (with_reducible refine Fr.setCell ?_ _ _ (fun h => ?_); rotate_left; focus (simp only at h; omega)))⟩
  (repeat first | with_reducible exact b1 | with_reducible exact heap_new _ _ | with_reducible exact heap_next _ _ _ | with_reducible exact heap_third _ _ _ _ | with_reducible refine hp_dr ?_ | (with_reducible refine hp_ne ?_ ?_; focus omega) | (with_reducible refine hp_al ?_ ?_; focus (first | omega | (simp <;> omega))) | with_reducible apply hp_set) <;> rfl
set_option maxHeartbeats 1000000 in
theorem rpath_no (L I : Nat) (W : Int) (hL : L ≤ 255) (hI : I < 18446744073709551616) (h : ¬ mayT L I W) (w : World) :
    Calls Tryz.prog 14 #[.agg #[.int .u8 (L : Int), .int .u64 (I : Int), .int .i64 W]] w fun e w' => e = .returned (.tuple #[.string ⟨#[]⟩, flt 2 (-1)]) ∧ Nw w w' := by
  have QM : Hid (∀ V, Calls Tryz.prog 83 #[.agg #[.int .u8 (L : Int), .int .u64 (I : Int), .int .i64 W]] V fun e w' => e = .returned (.bool false) ∧ Nw V w') := fun V => rmay_any L I W hL hI false (by simp [h]) V
  have QP : Hid (∀ V, Calls Tryz.prog 27 #[.int .i64 2] V fun e w' => e = .returned (.agg #[.int .i64 2, .int .i64 (-1)]) ∧ Nw V w') := fun V => plain_any 2 V (by decide)
  clear h
  go_enter Tryz.func14, Tryz.ntmps14
  go_wp2_with fail
  refine (QM.out _).mono ?_
  rintro e w1 ⟨rfl, n1⟩
  obtain ⟨⟨l0, l1⟩, b0, b1, n2⟩ := two_made n1
  have N2 : Hid (Nw w w1) := n2
  have B1 : Hid (w1.heap[w.heap.size + 1]? = some (.cells #[.int .i64 0, .int .i64 0] 29)) := b1
  clear n1 n2 b0 b1
  go_wp2_with fail
  refine (QP.out _).mono ?_
  rintro e w2 ⟨rfl, n3⟩
  have b1 := (n3.block _ (heap_lt B1.out) (fun f => f)).trans B1.out
  have n4 := N2.out.tr n3
  obtain ⟨z0, z1⟩ : _ ∧ _ := ⟨frozen_of b1 0, frozen_of b1 1⟩
  have y0 := (cell_of b1 0)
  have y1 := (cell_of b1 1)
  clear n3
  go_wp2
  refine bodyPost_ret (res_slot_cell (V := #[.int .i64 2, .int .i64 (-1)]) (ty := 29) (f := (0, 0)) Tryz.results14 Tryz.isAgg29 Tryz.sizeOf29 rfl _ rfl ?_ rfl) rfl ⟨rfl, (by repeat first | with_reducible exact n4 | with_reducible refine Fr.alloc ?_ _ | with_reducible refine Fr.drew ?_ | (with_reducible refine Fr.setCell ?_ _ _ (fun h => ?_); rotate_left; focus (simp only at h; omega)))⟩
  (repeat first | with_reducible exact b1 | with_reducible exact heap_new _ _ | with_reducible exact heap_next _ _ _ | with_reducible exact heap_third _ _ _ _ | with_reducible refine hp_dr ?_ | (with_reducible refine hp_ne ?_ ?_; focus omega) | (with_reducible refine hp_al ?_ ?_; focus (first | omega | (simp <;> omega))) | with_reducible apply hp_set) <;> rfl
theorem ro_stop {R : List UInt8} {k : Nat} (h1 : (112 : UInt8) ∉ R.take k) (h2 : ∃ r, R.drop k = 112 :: r) : R.takeWhile (fun c => c != 112) = R.take k ∧ R.dropWhile (fun c => c != 112) = R.drop k := by
  obtain ⟨r, hr⟩ := h2
  have := dw_skip (R.take k) (R.drop k) h1
  rw [List.take_append_drop, hr] at this
  rw [this.1, this.2, hr]
  exact ⟨by simp, rfl⟩
theorem ro_none {R : List UInt8} (h1 : (112 : UInt8) ∉ R) : R.takeWhile (fun c => c != 112) = R ∧ R.dropWhile (fun c => c != 112) = [] := by
  have := dw_skip R [] h1
  rw [List.append_nil] at this
  exact ⟨by rw [this.1]; simp, this.2⟩
set_option maxHeartbeats 1000000 in
theorem rparse_short (s : ByteArray) (h : s.size < 8) (w : World) :
    Calls Tryz.prog 16 #[.string s] w fun e w' => e = .returned (.tuple #[tl 0 0 0, flt 3 (-1)]) ∧ Nw w w' := by
  have hi : (s.size : Int) < 8 := by omega
  have QP : Hid (∀ V, Calls Tryz.prog 27 #[.int .i64 3] V fun e w' => e = .returned (.agg #[.int .i64 3, .int .i64 (-1)]) ∧ Nw V w') := fun V => plain_any 3 V (by decide)
  go_enter Tryz.func16, Tryz.ntmps16
  go_wp2_with fail
  refine (QP.out _).mono ?_
  rintro e w1 ⟨rfl, n1⟩
  obtain ⟨⟨l0, l1⟩, b0, b1, n2⟩ := two_made n1
  obtain ⟨d0, d1, d2⟩ := cell3 b0
  obtain ⟨z0, z1, z2⟩ : _ ∧ _ ∧ _ := ⟨frozen_of b0 0, frozen_of b0 1, frozen_of b0 2⟩
  obtain ⟨y0, y1⟩ : _ ∧ _ := ⟨frozen_of b1 0, frozen_of b1 1⟩
  have x0 := (cell_of b1 0)
  have x1 := (cell_of b1 1)
  clear n1
  go_wp2
  go_region
  all_goals
    go_wp2
    refine bodyPost_ret (res_cells (V := #[.int .u8 0, .int .u64 0, .int .i64 0]) (ty := 56) (f := (0, 0)) (U := #[.int .i64 3, .int .i64 (-1)]) (tz := 29) (f2 := (0, 0)) Tryz.results16 Tryz.isAgg56 Tryz.sizeOf56 Tryz.isAgg29 Tryz.sizeOf29 rfl rfl ?hg rfl ?hk rfl) rfl ⟨rfl, (by repeat first | with_reducible exact n2 | with_reducible refine Fr.alloc ?_ _ | with_reducible refine Fr.drew ?_ | (with_reducible refine Fr.setCell ?_ _ _ (fun h => ?_); rotate_left; focus (simp only at h; omega)))⟩
    case hg => (repeat first | with_reducible exact b0 | with_reducible exact heap_new _ _ | with_reducible exact heap_next _ _ _ | with_reducible exact heap_third _ _ _ _ | with_reducible refine hp_dr ?_ | (with_reducible refine hp_ne ?_ ?_; focus omega) | (with_reducible refine hp_al ?_ ?_; focus (first | omega | (simp <;> omega))) | with_reducible apply hp_set) <;> rfl
    case hk => (repeat first | with_reducible exact b1 | with_reducible exact heap_new _ _ | with_reducible exact heap_next _ _ _ | with_reducible exact heap_third _ _ _ _ | with_reducible refine hp_dr ?_ | (with_reducible refine hp_ne ?_ ?_; focus omega) | (with_reducible refine hp_al ?_ ?_; focus (first | omega | (simp <;> omega))) | with_reducible apply hp_set) <;> rfl
end Go.Proofs.YtgobdjdaehlgdaaGreatDoor
