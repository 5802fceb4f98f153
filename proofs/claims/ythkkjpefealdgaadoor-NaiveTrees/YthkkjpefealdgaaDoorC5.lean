/- Common: the least tree that has both. -/
import Derived.Test.YthkkjpefealdgaaDoorC4
namespace Go.Proofs.YthkkjpefealdgaaDoor
open Go.RowKit
set_option linter.unusedVariables false
set_option linter.unusedSimpArgs false

/-- The level that lies in a block. -/
def lvl (W : World) (b : Nat) : Nat := match W.cell? ⟨b, 0, none⟩ with
  | some v => (intOf v).toNat
  | none => 0
theorem lvl_of {W : World} {b L : Nat} {y : Value} {t : TypeId} {f : Nat × Nat} (h : W.heap[b]? = some (.cells #[.int .u8 (L : Int), y] t f)) : lvl W b = L := by
  unfold lvl
  rw [cell2a h]
  simp [intOf]

set_option maxHeartbeats 2000000 in
theorem common_no (La Ia Lb Ib : Nat) (h : ¬ (may La Ia ∧ may Lb Ib)) (hLa : La ≤ 255) (hIa : Ia < 18446744073709551616) (hLb : Lb ≤ 255) (hIb : Ib < 18446744073709551616) (w : World) :
    Calls Tryd.prog 37 #[cd La Ia, cd Lb Ib] w fun x w' => x = .returned (.tuple #[cd 0 0, .bool false]) ∧ Nw w w' := by
  by_cases ha : may La Ia
  · have hb : ¬ may Lb Ib := fun k => h ⟨ha, k⟩
    clear h
    have HA : Hid (may La Ia) := ha
    have HB : Hid (¬ may Lb Ib) := hb
    clear ha hb
    go_enter Tryd.func37, Tryd.ntmps37
    go_wp2_with fail
    refine (tmb La Ia true (by simp [HA.out]) (by omega) (by omega) _).mono ?_
    rintro x w1 ⟨rfl, n1⟩
    obtain ⟨⟨l0, l1, l2⟩, b0, b1, b2, n2⟩ := three_made n1
    have c0 := cell2a b1
    have c1 := cell2b b1
    clear n1
    go_wp2_with fail
    refine (tmb Lb Ib false (by simp [HB.out]) (by omega) (by omega) _).mono ?_
    rintro x w2 ⟨rfl, n3⟩
    have b3 := (n3.block _ l2 (fun f => f)).trans b2
    have n4 : Nw w w2 := n2.tr n3
    clear c0 c1 b0 b1 b2 n3 n2
    have d0 := cell2a b3
    have d1 := cell2b b3
    have z0 := frozen_of b3 0
    have z1 := frozen_of b3 1
    go_wp2
    (refine bodyPost_ret (results_cell_slot (V := #[.int .u8 0, .int .u64 0]) (ty := 76) (f := (0, 0)) Tryd.results37 Tryd.isAgg76 Tryd.sizeOf76 rfl _ rfl ?_ rfl) rfl ⟨rfl, (by repeat first | with_reducible exact n4 | with_reducible refine Fr.alloc ?_ _ | with_reducible refine Fr.drew ?_ | (with_reducible refine Fr.setCell ?_ _ _ (fun h => ?_); rotate_left; focus (simp only at h; omega)))⟩; (repeat first | with_reducible exact b3 | with_reducible exact heap_new _ _ | with_reducible exact heap_next _ _ _ | with_reducible exact heap_third _ _ _ _ | with_reducible refine hp_dr ?_ | (with_reducible refine hp_ne ?_ ?_; focus omega) | (with_reducible refine hp_al ?_ ?_; focus (first | omega | (simp <;> omega))) | with_reducible apply hp_set) <;> rfl)
  · clear h
    have HA : Hid (¬ may La Ia) := ha
    clear ha
    go_enter Tryd.func37, Tryd.ntmps37
    go_wp2_with fail
    refine (tmb La Ia false (by simp [HA.out]) (by omega) (by omega) _).mono ?_
    rintro x w1 ⟨rfl, n1⟩
    obtain ⟨⟨l0, l1, l2⟩, b0, b1, b2, n2⟩ := three_made n1
    clear n1 b0 b1
    have d0 := cell2a b2
    have d1 := cell2b b2
    have z0 := frozen_of b2 0
    have z1 := frozen_of b2 1
    go_wp2
    (refine bodyPost_ret (results_cell_slot (V := #[.int .u8 0, .int .u64 0]) (ty := 76) (f := (0, 0)) Tryd.results37 Tryd.isAgg76 Tryd.sizeOf76 rfl _ rfl ?_ rfl) rfl ⟨rfl, (by repeat first | with_reducible exact n2 | with_reducible refine Fr.alloc ?_ _ | with_reducible refine Fr.drew ?_ | (with_reducible refine Fr.setCell ?_ _ _ (fun h => ?_); rotate_left; focus (simp only at h; omega)))⟩; (repeat first | with_reducible exact b2 | with_reducible exact heap_new _ _ | with_reducible exact heap_next _ _ _ | with_reducible exact heap_third _ _ _ _ | with_reducible refine hp_dr ?_ | (with_reducible refine hp_ne ?_ ?_; focus omega) | (with_reducible refine hp_al ?_ ?_; focus (first | omega | (simp <;> omega))) | with_reducible apply hp_set) <;> rfl)

/-- Both on their way upward, either way round. -/
def Up (La Ia Lb Ib m x y X Y : Nat) : Prop := x ≤ m ∧ y ≤ m ∧ ((La ≤ x ∧ Lb ≤ y ∧ X = Ia / 2 ^ (x - La) ∧ Y = Ib / 2 ^ (y - Lb)) ∨ (Lb ≤ x ∧ La ≤ y ∧ X = Ib / 2 ^ (x - Lb) ∧ Y = Ia / 2 ^ (y - La)))
theorem Up.symm {La Ia Lb Ib m x y X Y : Nat} (h : Up La Ia Lb Ib m x y X Y) : Up La Ia Lb Ib m y x Y X := by
  obtain ⟨h1, h2, h3⟩ := h
  refine ⟨h2, h1, ?_⟩
  rcases h3 with ⟨a, b, c, d⟩ | ⟨a, b, c, d⟩
  · exact .inr ⟨b, a, d, c⟩
  · exact .inl ⟨b, a, d, c⟩
theorem Up.meet {La Ia Lb Ib m x y X Y : Nat} (hC : IsC La Ia Lb Ib m) (h : Up La Ia Lb Ib m x y X Y) (e : x = y) (e2 : X = Y) : x = m ∧ X = Ia / 2 ^ (m - La) := by
  obtain ⟨h1, h2, h3⟩ := h
  rcases h3 with ⟨a, b, c, d⟩ | ⟨a, b, c, d⟩
  · have := hC.meets a b h1 h2 e (by rw [← c, ← d]; exact e2)
    subst this
    exact ⟨rfl, c⟩
  · have := hC.meets b a h2 h1 e.symm (by rw [← c, ← d]; exact e2.symm)
    subst this
    exact ⟨e, by rw [e2]; exact d⟩
theorem Up.up {La Ia Lb Ib m x y X Y : Nat} (hC : IsC La Ia Lb Ib m) (h : Up La Ia Lb Ib m x y X Y) (hne : ¬ (x = y ∧ X = Y)) (hle : x ≤ y) : x < m ∧ Up La Ia Lb Ib m (x + 1) y (X / 2) Y := by
  have hlt : x < m := by
    rcases Nat.lt_or_ge x m with k | k
    · exact k
    · exfalso
      obtain ⟨h1, h2, h3⟩ := h
      have e1 : x = m := by omega
      have e2 : y = m := by omega
      subst e1 e2
      rcases h3 with ⟨a, b, c, d⟩ | ⟨a, b, c, d⟩
      · exact hne ⟨rfl, by rw [c, d]; exact hC.eq⟩
      · exact hne ⟨rfl, by rw [c, d]; exact hC.eq.symm⟩
  refine ⟨hlt, ?_⟩
  obtain ⟨h1, h2, h3⟩ := h
  refine ⟨hlt, h2, ?_⟩
  rcases h3 with ⟨a, b, c, d⟩ | ⟨a, b, c, d⟩
  · exact .inl ⟨by omega, b, by rw [c, anc_up a], d⟩
  · exact .inr ⟨by omega, b, by rw [c, anc_up a], d⟩
theorem Up.bd {La Ia Lb Ib m x y X Y : Nat} (ha : may La Ia) (hb : may Lb Ib) (hm : m ≤ 63) (h : Up La Ia Lb Ib m x y X Y) : X < 9223372036854775808 ∧ Y < 9223372036854775808 := by
  have h1 := may_bd ha
  have h2 := may_bd hb
  rw [p63] at h1 h2
  obtain ⟨_, _, h3⟩ := h
  have d1 : ∀ k, Ia / k ≤ Ia := fun k => Nat.div_le_self _ _
  have d2 : ∀ k, Ib / k ≤ Ib := fun k => Nat.div_le_self _ _
  rcases h3 with ⟨_, _, c, d⟩ | ⟨_, _, c, d⟩
  · have := d1 (2 ^ (x - La)); have := d2 (2 ^ (y - Lb)); omega
  · have := d2 (2 ^ (x - Lb)); have := d1 (2 ^ (y - La)); omega

set_option maxHeartbeats 2000000 in
theorem common_yes (La Ia Lb Ib m : Nat) (ha : may La Ia) (hb : may Lb Ib) (hC : IsC La Ia Lb Ib m) (w : World) :
    Calls Tryd.prog 37 #[cd La Ia, cd Lb Ib] w fun x w' => x = .returned (.tuple #[cd m (Ia / 2 ^ (m - La)), .bool true]) ∧ Nw w w' := by
  have HA : Hid (may La Ia) := ha
  have HB : Hid (may Lb Ib) := hb
  have HC : Hid (IsC La Ia Lb Ib m) := hC
  have hm := hC.le63 ha hb
  have hLa := ha.1
  have hLb := hb.1
  have hIa := may_bd ha
  have hIb := may_bd hb
  rw [p63] at hIa hIb
  clear ha hb hC
  go_enter Tryd.func37, Tryd.ntmps37
  go_wp2_with fail
  refine (tmb La Ia true (by simp [HA.out]) (by omega) (by omega) _).mono ?_
  rintro x w1 ⟨rfl, n1⟩
  obtain ⟨⟨l0, l1, l2⟩, b0, b1, b2, n2⟩ := three_made n1
  have c0 := cell2a b1
  have c1 := cell2b b1
  clear n1
  go_wp2_with fail
  refine (tmb Lb Ib true (by simp [HB.out]) (by omega) (by omega) _).mono ?_
  rintro x w2 ⟨rfl, n3⟩
  have b0' := (n3.block _ l0 (fun f => f)).trans b0
  have b1' := (n3.block _ l1 (fun f => f)).trans b1
  have b2' := (n3.block _ l2 (fun f => f)).trans b2
  have n4 : Nw w w2 := n2.tr n3
  clear c0 c1 b0 b1 b2 n3 n2
  go_wp2
  go_loopw [] (fun wr => ∃ x y X Y : Nat, Up La Ia Lb Ib m x y X Y ∧ Nw w wr ∧ wr.heap[w.heap.size]? = some (.cells #[.int .u8 (x : Int), .int .u64 (X : Int)] 76) ∧ wr.heap[w.heap.size + 1]? = some (.cells #[.int .u8 (y : Int), .int .u64 (Y : Int)] 76) ∧ wr.heap[w.heap.size + 1 + 1]? = some (.cells #[.int .u8 0, .int .u64 0] 76)) (fun wr => 2 * m - (lvl wr w.heap.size + lvl wr (w.heap.size + 1)))
  case atStart => exact ⟨La, Lb, Ia, Ib, ⟨HC.out.la, HC.out.lb, .inl ⟨Nat.le_refl _, Nat.le_refl _, by simp, by simp⟩⟩, n4, b0', b1', b2'⟩
  case round =>
    obtain ⟨x, y, X, Y, hU, hnw, j0, j1, j2⟩ := hrel
    clear b0' b1' b2' n4 l0 l1 l2
    have l0 := heap_lt j0
    have l1 := heap_lt j1
    have l2 := heap_lt j2
    have hbd := hU.bd HA.out HB.out hm
    have hxm := hU.1
    have hym := hU.2.1
    have hv0 := lvl_of j0
    have hv1 := lvl_of j1
    have HU : Hid (Up La Ia Lb Ib m x y X Y) := hU
    have HV : Hid (lvl wr w.heap.size = x ∧ lvl wr (w.heap.size + 1) = y) := ⟨hv0, hv1⟩
    clear hU hv0 hv1
    have c0 := cell2a j0
    have c1 := cell2b j0
    have d0 := cell2a j1
    have d1 := cell2b j1
    by_cases e1 : x = y ∧ X = Y
    · obtain ⟨e2, e3⟩ := HU.out.meet HC.out e1.1 e1.2
      have E2 : Hid (x = m) := e2
      have E3 : Hid (X = Ia / 2 ^ (m - La)) := e3
      obtain ⟨rfl, rfl⟩ := e1
      clear e2 e3
      have g0 := cell2a j2
      have g1 := cell2b j2
      have z0 := frozen_of j2 0
      have z1 := frozen_of j2 1
      go_wp2
      (refine bodyPost_ret (results_cell_slot (V := #[.int .u8 (x : Int), .int .u64 (X : Int)]) (ty := 76) (f := (0, 0)) Tryd.results37 Tryd.isAgg76 Tryd.sizeOf76 rfl _ rfl ?_ rfl) rfl ⟨by rw [← E3.out, ← E2.out]; rfl, (by repeat first | with_reducible exact hnw | with_reducible refine Fr.alloc ?_ _ | with_reducible refine Fr.drew ?_ | (with_reducible refine Fr.setCell ?_ _ _ (fun h => ?_); rotate_left; focus (simp only at h; omega)))⟩; (repeat first | with_reducible exact j2 | with_reducible exact heap_new _ _ | with_reducible exact heap_next _ _ _ | with_reducible exact heap_third _ _ _ _ | with_reducible refine hp_dr ?_ | (with_reducible refine hp_ne ?_ ?_; focus omega) | (with_reducible refine hp_al ?_ ?_; focus (first | omega | (simp <;> omega))) | with_reducible apply hp_set) <;> rfl)
    · have hne : ((x : Int) == (y : Int) && (X : Int) == (Y : Int)) = false := sp_ne (by omega)
      by_cases hgt : y < x
      · have hne2 : ((x : Int) == (y : Int)) = false := by simp; omega
        have hi : (x : Int) > (y : Int) := by omega
        have y0 := frozen_of j0 0
        have y1 := frozen_of j0 1
        have z0 := frozen_of j1 0
        have z1 := frozen_of j1 1
        go_wp2_with fail
        refine (above_any y Y (by omega) (by omega) _).mono ?_
        rintro v w5 ⟨rfl, n5⟩
        have k0 : w5.heap[w.heap.size]? = some (.cells #[.int .u8 (y : Int), .int .u64 (Y : Int)] 76) := (n5.block _ (by simpa using l0) (fun f => f)).trans (by (repeat first | with_reducible exact j0 | with_reducible exact heap_new _ _ | with_reducible exact heap_next _ _ _ | with_reducible exact heap_third _ _ _ _ | with_reducible refine hp_dr ?_ | (with_reducible refine hp_ne ?_ ?_; focus omega) | (with_reducible refine hp_al ?_ ?_; focus (first | omega | (simp <;> omega))) | with_reducible apply hp_set) <;> rfl)
        have k1 : w5.heap[w.heap.size + 1]? = some (.cells #[.int .u8 (x : Int), .int .u64 (X : Int)] 76) := (n5.block _ (by simpa using l1) (fun f => f)).trans (by (repeat first | with_reducible exact j1 | with_reducible exact heap_new _ _ | with_reducible exact heap_next _ _ _ | with_reducible exact heap_third _ _ _ _ | with_reducible refine hp_dr ?_ | (with_reducible refine hp_ne ?_ ?_; focus omega) | (with_reducible refine hp_al ?_ ?_; focus (first | omega | (simp <;> omega))) | with_reducible apply hp_set) <;> rfl)
        have k2 : w5.heap[w.heap.size + 1 + 1]? = some (.cells #[.int .u8 0, .int .u64 0] 76) := (n5.block _ (by simpa using l2) (fun f => f)).trans (by (repeat first | with_reducible exact j2 | with_reducible exact heap_new _ _ | with_reducible exact heap_next _ _ _ | with_reducible exact heap_third _ _ _ _ | with_reducible refine hp_dr ?_ | (with_reducible refine hp_ne ?_ ?_; focus omega) | (with_reducible refine hp_al ?_ ?_; focus (first | omega | (simp <;> omega))) | with_reducible apply hp_set) <;> rfl)
        have n6 : Nw w w5 := Nw.tr (by repeat first | with_reducible exact hnw | with_reducible refine Fr.alloc ?_ _ | with_reducible refine Fr.drew ?_ | (with_reducible refine Fr.setCell ?_ _ _ (fun h => ?_); rotate_left; focus (simp only at h; omega))) n5
        clear n5 c0 c1 d0 d1 hnw j0 j1 j2
        obtain ⟨u1, u2⟩ := HU.out.symm.up HC.out (by omega) (by omega)
        have HU2 : Hid (Up La Ia Lb Ib m (y + 1) x (Y / 2) X) := u2
        clear u2
        have c0 := cell2a k0
        have c1 := cell2b k0
        have y0 := frozen_of k0 0
        have y1 := frozen_of k0 1
        go_wp2
        refine ⟨⟨y + 1, x, Y / 2, X, HU2.out, (by repeat first | with_reducible exact n6 | with_reducible refine Fr.alloc ?_ _ | with_reducible refine Fr.drew ?_ | (with_reducible refine Fr.setCell ?_ _ _ (fun h => ?_); rotate_left; focus (simp only at h; omega))), by (repeat first | with_reducible exact k0 | with_reducible exact heap_new _ _ | with_reducible exact heap_next _ _ _ | with_reducible exact heap_third _ _ _ _ | with_reducible refine hp_dr ?_ | (with_reducible refine hp_ne ?_ ?_; focus omega) | (with_reducible refine hp_al ?_ ?_; focus (first | omega | (simp <;> omega))) | with_reducible apply hp_set) <;> rfl, by (repeat first | with_reducible exact k1 | with_reducible exact heap_new _ _ | with_reducible exact heap_next _ _ _ | with_reducible exact heap_third _ _ _ _ | with_reducible refine hp_dr ?_ | (with_reducible refine hp_ne ?_ ?_; focus omega) | (with_reducible refine hp_al ?_ ?_; focus (first | omega | (simp <;> omega))) | with_reducible apply hp_set) <;> rfl, by (repeat first | with_reducible exact k2 | with_reducible exact heap_new _ _ | with_reducible exact heap_next _ _ _ | with_reducible exact heap_third _ _ _ _ | with_reducible refine hp_dr ?_ | (with_reducible refine hp_ne ?_ ?_; focus omega) | (with_reducible refine hp_al ?_ ?_; focus (first | omega | (simp <;> omega))) | with_reducible apply hp_set) <;> rfl⟩, ?_⟩
        rw [HV.out.1, HV.out.2, lvl_of (L := y + 1) (y := .int .u64 ((Y / 2 : Nat) : Int)) (t := 76) (f := (0, 0)) (by (repeat first | with_reducible exact k0 | with_reducible exact heap_new _ _ | with_reducible exact heap_next _ _ _ | with_reducible exact heap_third _ _ _ _ | with_reducible refine hp_dr ?_ | (with_reducible refine hp_ne ?_ ?_; focus omega) | (with_reducible refine hp_al ?_ ?_; focus (first | omega | (simp <;> omega))) | with_reducible apply hp_set) <;> rfl), lvl_of (L := x) (y := .int .u64 (X : Int)) (t := 76) (f := (0, 0)) (by (repeat first | with_reducible exact k1 | with_reducible exact heap_new _ _ | with_reducible exact heap_next _ _ _ | with_reducible exact heap_third _ _ _ _ | with_reducible refine hp_dr ?_ | (with_reducible refine hp_ne ?_ ?_; focus omega) | (with_reducible refine hp_al ?_ ?_; focus (first | omega | (simp <;> omega))) | with_reducible apply hp_set) <;> rfl)]
        omega
      · have hi : ¬ (x : Int) > (y : Int) := by omega
        have y0 := frozen_of j0 0
        have y1 := frozen_of j0 1
        by_cases hxy : x = y
        · subst hxy
          have hXY : Hid (¬ X = Y) := fun k => e1 ⟨rfl, k⟩
          have hq2 : ((X : Int) == (Y : Int)) = false := by simp; omega
          go_wp2_with fail
          refine (above_any x X (by omega) (by omega) _).mono ?_
          rintro v w5 ⟨rfl, n5⟩
          have k0 : w5.heap[w.heap.size]? = some (.cells #[.int .u8 (x : Int), .int .u64 (X : Int)] 76) := (n5.block _ (by simpa using l0) (fun f => f)).trans (by (repeat first | with_reducible exact j0 | with_reducible exact heap_new _ _ | with_reducible exact heap_next _ _ _ | with_reducible exact heap_third _ _ _ _ | with_reducible refine hp_dr ?_ | (with_reducible refine hp_ne ?_ ?_; focus omega) | (with_reducible refine hp_al ?_ ?_; focus (first | omega | (simp <;> omega))) | with_reducible apply hp_set) <;> rfl)
          have k1 : w5.heap[w.heap.size + 1]? = some (.cells #[.int .u8 (x : Int), .int .u64 (Y : Int)] 76) := (n5.block _ (by simpa using l1) (fun f => f)).trans (by (repeat first | with_reducible exact j1 | with_reducible exact heap_new _ _ | with_reducible exact heap_next _ _ _ | with_reducible exact heap_third _ _ _ _ | with_reducible refine hp_dr ?_ | (with_reducible refine hp_ne ?_ ?_; focus omega) | (with_reducible refine hp_al ?_ ?_; focus (first | omega | (simp <;> omega))) | with_reducible apply hp_set) <;> rfl)
          have k2 : w5.heap[w.heap.size + 1 + 1]? = some (.cells #[.int .u8 0, .int .u64 0] 76) := (n5.block _ (by simpa using l2) (fun f => f)).trans (by (repeat first | with_reducible exact j2 | with_reducible exact heap_new _ _ | with_reducible exact heap_next _ _ _ | with_reducible exact heap_third _ _ _ _ | with_reducible refine hp_dr ?_ | (with_reducible refine hp_ne ?_ ?_; focus omega) | (with_reducible refine hp_al ?_ ?_; focus (first | omega | (simp <;> omega))) | with_reducible apply hp_set) <;> rfl)
          have n6 : Nw w w5 := Nw.tr (by repeat first | with_reducible exact hnw | with_reducible refine Fr.alloc ?_ _ | with_reducible refine Fr.drew ?_ | (with_reducible refine Fr.setCell ?_ _ _ (fun h => ?_); rotate_left; focus (simp only at h; omega))) n5
          clear n5 c0 c1 d0 d1 hnw j0 j1 j2
          obtain ⟨u1, u2⟩ := HU.out.up HC.out (fun k => hXY.out k.2) (Nat.le_refl _)
          have HU2 : Hid (Up La Ia Lb Ib m (x + 1) x (X / 2) Y) := u2
          clear u2
          have c0 := cell2a k0
          have c1 := cell2b k0
          have y0 := frozen_of k0 0
          have y1 := frozen_of k0 1
          go_wp2
          refine ⟨⟨x + 1, x, X / 2, Y, HU2.out, (by repeat first | with_reducible exact n6 | with_reducible refine Fr.alloc ?_ _ | with_reducible refine Fr.drew ?_ | (with_reducible refine Fr.setCell ?_ _ _ (fun h => ?_); rotate_left; focus (simp only at h; omega))), by (repeat first | with_reducible exact k0 | with_reducible exact heap_new _ _ | with_reducible exact heap_next _ _ _ | with_reducible exact heap_third _ _ _ _ | with_reducible refine hp_dr ?_ | (with_reducible refine hp_ne ?_ ?_; focus omega) | (with_reducible refine hp_al ?_ ?_; focus (first | omega | (simp <;> omega))) | with_reducible apply hp_set) <;> rfl, by (repeat first | with_reducible exact k1 | with_reducible exact heap_new _ _ | with_reducible exact heap_next _ _ _ | with_reducible exact heap_third _ _ _ _ | with_reducible refine hp_dr ?_ | (with_reducible refine hp_ne ?_ ?_; focus omega) | (with_reducible refine hp_al ?_ ?_; focus (first | omega | (simp <;> omega))) | with_reducible apply hp_set) <;> rfl, by (repeat first | with_reducible exact k2 | with_reducible exact heap_new _ _ | with_reducible exact heap_next _ _ _ | with_reducible exact heap_third _ _ _ _ | with_reducible refine hp_dr ?_ | (with_reducible refine hp_ne ?_ ?_; focus omega) | (with_reducible refine hp_al ?_ ?_; focus (first | omega | (simp <;> omega))) | with_reducible apply hp_set) <;> rfl⟩, ?_⟩
          rw [HV.out.1, HV.out.2, lvl_of (L := x + 1) (y := .int .u64 ((X / 2 : Nat) : Int)) (t := 76) (f := (0, 0)) (by (repeat first | with_reducible exact k0 | with_reducible exact heap_new _ _ | with_reducible exact heap_next _ _ _ | with_reducible exact heap_third _ _ _ _ | with_reducible refine hp_dr ?_ | (with_reducible refine hp_ne ?_ ?_; focus omega) | (with_reducible refine hp_al ?_ ?_; focus (first | omega | (simp <;> omega))) | with_reducible apply hp_set) <;> rfl), lvl_of (L := x) (y := .int .u64 (Y : Int)) (t := 76) (f := (0, 0)) (by (repeat first | with_reducible exact k1 | with_reducible exact heap_new _ _ | with_reducible exact heap_next _ _ _ | with_reducible exact heap_third _ _ _ _ | with_reducible refine hp_dr ?_ | (with_reducible refine hp_ne ?_ ?_; focus omega) | (with_reducible refine hp_al ?_ ?_; focus (first | omega | (simp <;> omega))) | with_reducible apply hp_set) <;> rfl)]
          omega
        · have hq : ((x : Int) == (y : Int)) = false := by simp; omega
          go_wp2_with fail
          refine (above_any x X (by omega) (by omega) _).mono ?_
          rintro v w5 ⟨rfl, n5⟩
          have k0 : w5.heap[w.heap.size]? = some (.cells #[.int .u8 (x : Int), .int .u64 (X : Int)] 76) := (n5.block _ (by simpa using l0) (fun f => f)).trans (by (repeat first | with_reducible exact j0 | with_reducible exact heap_new _ _ | with_reducible exact heap_next _ _ _ | with_reducible exact heap_third _ _ _ _ | with_reducible refine hp_dr ?_ | (with_reducible refine hp_ne ?_ ?_; focus omega) | (with_reducible refine hp_al ?_ ?_; focus (first | omega | (simp <;> omega))) | with_reducible apply hp_set) <;> rfl)
          have k1 : w5.heap[w.heap.size + 1]? = some (.cells #[.int .u8 (y : Int), .int .u64 (Y : Int)] 76) := (n5.block _ (by simpa using l1) (fun f => f)).trans (by (repeat first | with_reducible exact j1 | with_reducible exact heap_new _ _ | with_reducible exact heap_next _ _ _ | with_reducible exact heap_third _ _ _ _ | with_reducible refine hp_dr ?_ | (with_reducible refine hp_ne ?_ ?_; focus omega) | (with_reducible refine hp_al ?_ ?_; focus (first | omega | (simp <;> omega))) | with_reducible apply hp_set) <;> rfl)
          have k2 : w5.heap[w.heap.size + 1 + 1]? = some (.cells #[.int .u8 0, .int .u64 0] 76) := (n5.block _ (by simpa using l2) (fun f => f)).trans (by (repeat first | with_reducible exact j2 | with_reducible exact heap_new _ _ | with_reducible exact heap_next _ _ _ | with_reducible exact heap_third _ _ _ _ | with_reducible refine hp_dr ?_ | (with_reducible refine hp_ne ?_ ?_; focus omega) | (with_reducible refine hp_al ?_ ?_; focus (first | omega | (simp <;> omega))) | with_reducible apply hp_set) <;> rfl)
          have n6 : Nw w w5 := Nw.tr (by repeat first | with_reducible exact hnw | with_reducible refine Fr.alloc ?_ _ | with_reducible refine Fr.drew ?_ | (with_reducible refine Fr.setCell ?_ _ _ (fun h => ?_); rotate_left; focus (simp only at h; omega))) n5
          clear n5 c0 c1 d0 d1 hnw j0 j1 j2
          obtain ⟨u1, u2⟩ := HU.out.up HC.out (by omega) (by omega)
          have HU2 : Hid (Up La Ia Lb Ib m (x + 1) y (X / 2) Y) := u2
          clear u2
          have c0 := cell2a k0
          have c1 := cell2b k0
          have y0 := frozen_of k0 0
          have y1 := frozen_of k0 1
          go_wp2
          refine ⟨⟨x + 1, y, X / 2, Y, HU2.out, (by repeat first | with_reducible exact n6 | with_reducible refine Fr.alloc ?_ _ | with_reducible refine Fr.drew ?_ | (with_reducible refine Fr.setCell ?_ _ _ (fun h => ?_); rotate_left; focus (simp only at h; omega))), by (repeat first | with_reducible exact k0 | with_reducible exact heap_new _ _ | with_reducible exact heap_next _ _ _ | with_reducible exact heap_third _ _ _ _ | with_reducible refine hp_dr ?_ | (with_reducible refine hp_ne ?_ ?_; focus omega) | (with_reducible refine hp_al ?_ ?_; focus (first | omega | (simp <;> omega))) | with_reducible apply hp_set) <;> rfl, by (repeat first | with_reducible exact k1 | with_reducible exact heap_new _ _ | with_reducible exact heap_next _ _ _ | with_reducible exact heap_third _ _ _ _ | with_reducible refine hp_dr ?_ | (with_reducible refine hp_ne ?_ ?_; focus omega) | (with_reducible refine hp_al ?_ ?_; focus (first | omega | (simp <;> omega))) | with_reducible apply hp_set) <;> rfl, by (repeat first | with_reducible exact k2 | with_reducible exact heap_new _ _ | with_reducible exact heap_next _ _ _ | with_reducible exact heap_third _ _ _ _ | with_reducible refine hp_dr ?_ | (with_reducible refine hp_ne ?_ ?_; focus omega) | (with_reducible refine hp_al ?_ ?_; focus (first | omega | (simp <;> omega))) | with_reducible apply hp_set) <;> rfl⟩, ?_⟩
          rw [HV.out.1, HV.out.2, lvl_of (L := x + 1) (y := .int .u64 ((X / 2 : Nat) : Int)) (t := 76) (f := (0, 0)) (by (repeat first | with_reducible exact k0 | with_reducible exact heap_new _ _ | with_reducible exact heap_next _ _ _ | with_reducible exact heap_third _ _ _ _ | with_reducible refine hp_dr ?_ | (with_reducible refine hp_ne ?_ ?_; focus omega) | (with_reducible refine hp_al ?_ ?_; focus (first | omega | (simp <;> omega))) | with_reducible apply hp_set) <;> rfl), lvl_of (L := y) (y := .int .u64 (Y : Int)) (t := 76) (f := (0, 0)) (by (repeat first | with_reducible exact k1 | with_reducible exact heap_new _ _ | with_reducible exact heap_next _ _ _ | with_reducible exact heap_third _ _ _ _ | with_reducible refine hp_dr ?_ | (with_reducible refine hp_ne ?_ ?_; focus omega) | (with_reducible refine hp_al ?_ ?_; focus (first | omega | (simp <;> omega))) | with_reducible apply hp_set) <;> rfl)]
          omega
end Go.Proofs.YthkkjpefealdgaaDoor
