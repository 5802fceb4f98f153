/- tile: the document's All; tiles compared. -/
import Derived.Test.YtgobdjdaehlgdaaGreatDoorDg
import Derived.Test.YtgobdjdaehlgdaaGreatDoorUo
namespace Go.Proofs.YtgobdjdaehlgdaaGreatDoor
open Go.RowKit
set_option linter.unusedVariables false
set_option linter.unusedSimpArgs false
/-- The cells of a row of tiles. -/
theorem tic_cells {w : World} {base : Nat} {ad : Option Addr} {c : Nat} {l : List Ti} (h : w.ownsRow base 56 3 (.slice ad l.length c) l.length (tic l)) (k : Nat) (t : Ti) (ht : l[k]? = some t) :
    ∃ g, ad = some ⟨g, 0, none⟩ ∧ w.cell? ⟨g, k * 3, none⟩ = some (.int .u8 (t.L : Int)) ∧ w.cell? ⟨g, k * 3 + 1, none⟩ = some (.int .u64 (t.I : Int)) ∧ w.cell? ⟨g, k * 3 + 2, none⟩ = some (.int .i64 (t.W : Int)) := by
  rcases h.2 with ⟨e, h0⟩ | ⟨g, cap, cur, e, _⟩
  · have := (List.getElem?_eq_some_iff.1 ht).1; omega
  · injection e with e1 e2 e3
    subst e1
    obtain ⟨q1, q2, q3⟩ := tic_at l k t ht
    have a := h.cells (g := g) rfl _ _ q1
    have b := h.cells (g := g) rfl _ _ q2
    have c := h.cells (g := g) rfl _ _ q3
    rw [addZ] at a b c
    exact ⟨g, rfl, a, b, c⟩
set_option maxHeartbeats 2000000 in
theorem samet_yes (l : List Ti) (ad bd : Option Addr) (ca cb b1 b2 : Nat) (w : World) (hu : w.ownsRow b1 56 3 (.slice ad l.length ca) l.length (tic l)) (hv : w.ownsRow b2 56 3 (.slice bd l.length cb) l.length (tic l)) (hl : l.length < 4611686018427387904) :
    Calls Tryz.prog 8 #[.slice ad l.length ca, .slice bd l.length cb] w fun e w' => e = .returned (.bool true) ∧ Nw w w' := by
  have HU : Hid (w.ownsRow b1 56 3 (.slice ad l.length ca) l.length (tic l)) := hu
  have HV : Hid (w.ownsRow b2 56 3 (.slice bd l.length cb) l.length (tic l)) := hv
  clear hu hv
  obtain ⟨n, hn⟩ : ∃ n, n = l.length := ⟨_, rfl⟩
  have HN : Hid (n = l.length) := hn
  rw [← hn] at hl ⊢
  clear hn
  go_enter Tryz.func8, Tryz.ntmps8
  go_wp2
  go_loopw [5] (fun i wr => ∃ k : Nat, k ≤ n ∧ i = .int .i64 k ∧ Nw w wr) (fun i _ => n - (intOf i).toNat)
  case atStart => exact ⟨0, by omega, rfl, nwr w⟩
  case round =>
    obtain ⟨k, hk, rfl, hnw⟩ := hrel
    by_cases hlt : k < n
    · obtain ⟨t, ht⟩ : ∃ t, l[k]? = some t := ⟨_, List.getElem?_eq_getElem (by rw [← HN.out]; exact hlt)⟩
      obtain ⟨g, rfl, g1, g2, g3⟩ := tic_cells HU.out k t ht
      obtain ⟨p, rfl, p1, p2, p3⟩ := tic_cells HV.out k t ht
      have g1' := hnw.cellOf g1
      have g2' := hnw.cellOf g2
      have g3' := hnw.cellOf g3
      have p1' := hnw.cellOf p1
      have p2' := hnw.cellOf p2
      have p3' := hnw.cellOf p3
      clear g1 g2 g3 p1 p2 p3 ht
      have hki : (k : Int) < (n : Int) := by omega
      go_wp2
      go_quiet (fail)
      go_wp2
      exact ⟨⟨k + 1, by omega, by go_num, hnw.drewN nq⟩, by simp [intOf]; omega⟩
    · obtain rfl : k = n := by omega
      go_wp2
      go_ret
      exact ⟨rfl, hnw⟩
set_option maxHeartbeats 1000000 in
theorem rall_no (S : Nat) (h : 1048576 < S) (w : World) :
    Calls Tryz.prog 7 #[.int .u64 (S : Int)] w fun e w' => e = .returned (.tuple #[.slice none 0 0, flt 5 (-1)]) ∧ Nw w w' := by
  have QP : Hid (∀ V, Calls Tryz.prog 27 #[.int .i64 5] V fun e w' => e = .returned (.agg #[.int .i64 5, .int .i64 (-1)]) ∧ Nw V w') := fun V => plain_any 5 V (by decide)
  have h1 : (1048576 : Int) < (S : Int) := by omega
  go_enter Tryz.func7, Tryz.ntmps7
  go_wp2_with fail
  refine (QP.out _).mono ?_
  rintro e w1 ⟨rfl, n1⟩
  obtain ⟨l0, b1, n4⟩ := one_made n1
  obtain ⟨z0, z1⟩ : _ ∧ _ := ⟨frozen_of b1 0, frozen_of b1 1⟩
  have y0 := (cell_of b1 0)
  have y1 := (cell_of b1 1)
  clear n1
  go_wp2
  refine bodyPost_ret (res_slot_cell (V := #[.int .i64 5, .int .i64 (-1)]) (ty := 29) (f := (0, 0)) Tryz.results7 Tryz.isAgg29 Tryz.sizeOf29 rfl _ rfl ?_ rfl) rfl ⟨rfl, (by repeat first | with_reducible exact n4 | with_reducible refine Fr.alloc ?_ _ | with_reducible refine Fr.drew ?_ | (with_reducible refine Fr.setCell ?_ _ _ (fun h => ?_); rotate_left; focus (simp only at h; omega)))⟩
  (repeat first | with_reducible exact b1 | with_reducible exact heap_new _ _ | with_reducible exact heap_next _ _ _ | with_reducible exact heap_third _ _ _ _ | with_reducible refine hp_dr ?_ | (with_reducible refine hp_ne ?_ ?_; focus omega) | (with_reducible refine hp_al ?_ ?_; focus (first | omega | (simp <;> omega))) | with_reducible apply hp_set) <;> rfl
/-- What the document's All has made so far. -/
structure Al (w wr : World) (va : Option Addr) (vc : Nat) (l : List Ti) : Prop where
  blk : wr.heap[w.heap.size]? = some (.cells #[.int .i64 0, .int .i64 0] 29)
  own : wr.ownsRow (w.heap.size + 1) 56 3 (.slice va l.length vc) l.length (tic l)
  nw : Nw w wr
set_option maxRecDepth 100000 in
set_option maxHeartbeats 2000000 in
theorem rall_yes (S : Nat) (hS : S ≤ 1048576) (w : World) :
    Calls Tryz.prog 7 #[.int .u64 (S : Int)] w fun e w' => ∃ va vc, e = .returned (.tuple #[.slice va (allT S 8).length vc, flt 0 0]) ∧ w'.ownsRow w.heap.size 56 3 (.slice va (allT S 8).length vc) (allT S 8).length (tic (allT S 8)) ∧ Nw w w' := by
  have h1 : ¬ (1048576 : Int) < (S : Int) := by omega
  obtain ⟨i0, hi0, hie⟩ := Option.map_eq_some_iff.1 infoTi
  simp only [Prod.mk.injEq] at hie
  obtain ⟨hz0, hz1, hz2⟩ := hie
  have HI0 : Hid (Tryz.prog.info? 56 = some i0 ∧ i0.zero = some (.agg #[.int .u8 0, .int .u64 0, .int .i64 0]) ∧ i0.size = 3 ∧ i0.bytes = 24) := ⟨hi0, hz0, hz1, hz2⟩
  clear hi0 hz0 hz1 hz2
  go_enter Tryz.func7, Tryz.ntmps7
  go_wp2
  go_loopw [4, 5] (fun u v wr => ∃ (j : Nat) (va : Option Addr) (vc : Nat), j ≤ 8 ∧ v = .int .u8 j ∧ u = .slice va (allT S j).length vc ∧ Al w wr va vc (allT S j)) (fun _ v _ => 8 - (intOf v).toNat)
  case atStart => exact ⟨0, none, 0, by omega, rfl, rfl, heap_new _ _, World.ownsRow_nil _ _ _ _, nwa w _⟩
  case round =>
    obtain ⟨j, va, vc, hj, rfl, rfl, hal⟩ := hrel
    have HAL : Hid (Al w wr va vc (allT S j)) := hal
    have hle := allT_le S hS j
    clear hal
    by_cases hj8 : j < 8
    · have hj2 : (j : Int) < 8 := by omega
      have q := nodes_any S (8 * j) (by omega) (by omega) wr
      obtain ⟨D, hD⟩ : ∃ D, D = S / 2 ^ (8 * j) := ⟨_, rfl⟩
      rw [← hD] at q
      have HD : Hid (D = nod8 j S) := hD
      have hDb : D ≤ 1048576 := by rw [hD]; exact Nat.le_trans (Nat.div_le_self _ _) hS
      rw [show ((8 * j : Nat) : Int) = 8 * (j : Int) by omega] at q
      clear hD
      go_wp2_with fail
      refine q.mono ?_
      rintro e w2 ⟨rfl, rfl⟩
      clear q
      go_wp2
      obtain ⟨wy, hwy⟩ : ∃ q, q = w2 := ⟨_, rfl⟩
      rw [← hwy] at HAL ⊢
      clear hwy
      go_loopw [4, 7] (fun u v wx => ∃ (k : Nat) (xa : Option Addr) (xc : Nat), k ≤ cntT S j ∧ v = .int .u64 k ∧ u = .slice xa ((allT S j).length + k) xc ∧ Al w wx xa xc (allT S j ++ lvT S j k)) (fun _ v _ => cntT S j + 1 - (intOf v).toNat)
      case atStart => exact ⟨0, va, vc, by omega, rfl, rfl, by simpa [lvT] using HAL.out⟩
      case round =>
        obtain ⟨k, xa, xc, hk, rfl, rfl, hal⟩ := hrel
        have hcl := cntT_le S j hS
        obtain ⟨A, hA⟩ : ∃ A, A = (allT S j).length + k := ⟨_, rfl⟩
        have HA : Hid (A = (allT S j).length + k) := hA
        have hlA : (allT S j ++ lvT S j k).length = A := by rw [List.length_append, lvT_len, hA]
        have HOX : Hid (wr.ownsRow (w.heap.size + 1) 56 3 (.slice xa A xc) A (tic (allT S j ++ lvT S j k))) := by have := hal.own; rw [hlA] at this; exact this
        have HBX : Hid (wr.heap[w.heap.size]? = some (.cells #[.int .i64 0, .int .i64 0] 29)) := hal.blk
        have HNX : Hid (Nw w wr) := hal.nw
        rw [← hA]
        have hAb : A ≤ 40000 := by omega
        have hkb : k ≤ 4096 := by omega
        clear hA hal hlA
        by_cases hkc : k < cntT S j
        · have hW := (wid_pos S j k hS (by omega)).2 hkc
          have hWs := wid_small S j k hS (by omega)
          rw [← HD.out] at hWs
          obtain ⟨W, hWe⟩ : ∃ W, W = wid j k S := ⟨_, rfl⟩
          rw [← hWe] at hW hWs
          have HW : Hid (W = wid j k S) := hWe
          have hlt : (k : Int) * 256 < (D : Int) := by omega
          obtain ⟨E, hE⟩ : ∃ E, E = D - k * 256 := ⟨_, rfl⟩
          have eE : (D : Int) - (k : Int) * 256 = (E : Int) := by omega
          have hmin : min (256 : Int) (E : Int) = (W : Int) := by omega
          have hEb : E ≤ 1048576 := by omega
          clear hE
          have hWb : W ≤ 256 := by omega
          clear hWe hWs
          have OWN : Hid ((wr.alloc (.cells #[.int .u8 (j : Int), .int .u64 (k : Int), .int .i64 (W : Int)] 56)).ownsRow (w.heap.size + 1) 56 3 (.slice xa A xc) A (tic (allT S j ++ lvT S j k))) := HOX.out.alloc _
          have HNew : Hid (∀ t u, [Value.int .u8 (j : Int), .int .u64 (k : Int), .int .i64 (W : Int)][t]? = some u → (wr.alloc (.cells #[.int .u8 (j : Int), .int .u64 (k : Int), .int .i64 (W : Int)] 56)).cell? ((⟨wr.heap.size, 0, none⟩ : Addr).add t) = some u) := ti_new wr _ _ _ _
          have hsz : w.heap.size + 1 ≤ wr.heap.size := heap_lt HBX.out
          have HB5 : Hid (w.heap.size + 1 ≤ (wr.alloc (.cells #[.int .u8 (j : Int), .int .u64 (k : Int), .int .i64 (W : Int)] 56)).heap.size) := by show _ ≤ _; rw [World.size_alloc]; omega
          go_wp2_with (at_builtin; refine wpList_append_own _ rfl (.tmp 26) (.tmp 36) 23 rfl (w.heap.size + 1) 56 i0 (.agg #[.int .u8 0, .int .u64 0, .int .i64 0]) 3 24 Tryz.underlying23 HI0.out.1 HI0.out.2.1 HI0.out.2.2.1 HI0.out.2.2.2 rfl (by decide) (.slice xa A xc) A (tic (allT S j ++ lvT S j k)) rfl OWN.out ⟨wr.heap.size, 0, none⟩ 1 1 [.int .u8 (j : Int), .int .u64 (k : Int), .int .i64 (W : Int)] rfl rfl HNew.out (by simp [Value.oneCell']) (by unfold maxLen; omega) (by omega) HB5.out ?_; intro v6 w6 o6 g6 zz; clear zz)
          have O6 : Hid (w6.ownsRow (w.heap.size + 1) 56 3 v6 (A + 1) (tic (allT S j ++ lvT S j k) ++ [.int .u8 (j : Int), .int .u64 (k : Int), .int .i64 (W : Int)])) := o6
          have N6 : Hid (Nw w w6) := (HNX.out.alloc _).grown g6 (fun q hq hlt => by have := (HOX.out.lt q hq).1; omega)
          have B6 : Hid (w6.heap[w.heap.size]? = some (.cells #[.int .i64 0, .int .i64 0] 29)) := (g6.block _ (by rw [World.size_alloc]; omega) (fun e => by have := (HOX.out.lt _ e.symm).1; omega)).trans ((hp_al (heap_lt HBX.out) HBX.out))
          obtain ⟨ya, yc, rfl⟩ := ownsRow_form o6
          clear o6 g6 OWN HNew HOX HNX HBX HB5
          go_wp2
          have e1 : A + 1 = (allT S j ++ lvT S j (k + 1)).length := by rw [List.length_append, lvT_len, HA.out]; omega
          have e2 : tic (allT S j ++ lvT S j k) ++ [.int .u8 (j : Int), .int .u64 (k : Int), .int .i64 (W : Int)] = tic (allT S j ++ lvT S j (k + 1)) := by
            rw [lvT_succ, ← List.append_assoc, tic_app (allT S j ++ lvT S j k), tic_one, HW.out]
            rfl
          have h6 := O6.out
          rw [e2, e1] at h6
          exact ⟨⟨k + 1, ya, yc, by omega, by go_num, by rw [HA.out]; rfl, B6.out, h6, N6.out⟩, by simp [intOf]; omega⟩
        · have hW : wid j k S = 0 := by
            have := (wid_pos S j k hS (by omega))
            omega
          have hWs := wid_small S j k hS (by omega)
          rw [← HD.out, hW] at hWs
          have hnl : ¬ (k : Int) * 256 < (D : Int) := by omega
          have hkk : Hid (k = cntT S j) := by show _ = _; omega
          clear hWs hW
          have e2 : allT S j ++ lvT S j k = allT S (j + 1) := by simp only [allT]; rw [hkk.out]
          have hfin : Hid (Al w wr xa xc (allT S (j + 1)) ∧ A = (allT S (j + 1)).length) := by
            have hlA : (allT S (j + 1)).length = A := by rw [← e2, List.length_append, lvT_len, HA.out]
            refine ⟨⟨HBX.out, ?_, HNX.out⟩, hlA.symm⟩
            rw [hlA, ← e2]
            exact HOX.out
          clear e2
          go_wp2
          exact ⟨⟨j + 1, xa, xc, by omega, by go_num, by rw [hfin.out.2], hfin.out.1⟩, by simp [intOf]; omega⟩
    · obtain rfl : j = 8 := by omega
      have b1 := HAL.out.blk
      have n1 := HAL.out.nw
      obtain ⟨z0, z1⟩ : _ ∧ _ := ⟨frozen_of b1 0, frozen_of b1 1⟩
      have y0 := (cell_of b1 0)
      have y1 := (cell_of b1 1)
      obtain ⟨m, hm⟩ : ∃ m, m = (allT S 8).length := ⟨_, rfl⟩
      have HO : Hid (wr.ownsRow (w.heap.size + 1) 56 3 (.slice va m vc) m (tic (allT S 8))) := by rw [hm]; exact HAL.out.own
      have HMM : Hid (m = (allT S 8).length) := hm
      rw [← hm]
      clear hm HAL
      go_wp2
      refine bodyPost_ret (res_slot_cell (V := #[.int .i64 0, .int .i64 0]) (ty := 29) (f := (0, 0)) Tryz.results7 Tryz.isAgg29 Tryz.sizeOf29 rfl _ rfl ?_ rfl) rfl ⟨va, vc, by rw [← HMM.out]; rfl, ?_, (by repeat first | with_reducible exact n1 | with_reducible refine Fr.alloc ?_ _ | with_reducible refine Fr.drew ?_ | (with_reducible refine Fr.setCell ?_ _ _ (fun h => ?_); rotate_left; focus (simp only at h; omega)))⟩
      · (repeat first | with_reducible exact b1 | with_reducible exact heap_new _ _ | with_reducible exact heap_next _ _ _ | with_reducible exact heap_third _ _ _ _ | with_reducible refine hp_dr ?_ | (with_reducible refine hp_ne ?_ ?_; focus omega) | (with_reducible refine hp_al ?_ ?_; focus (first | omega | (simp <;> omega))) | with_reducible apply hp_set) <;> rfl
      · rw [← HMM.out]
        refine ownsRow_keep (ownsRow_base HO.out (by omega)) (fun g hg => ?_)
        have := (HO.out.lt g hg).1
        (repeat first | with_reducible exact rfl | with_reducible exact heap_new _ _ | with_reducible exact heap_next _ _ _ | with_reducible exact heap_third _ _ _ _ | with_reducible refine hp_dr ?_ | (with_reducible refine hp_ne ?_ ?_; focus omega) | (with_reducible refine hp_al ?_ ?_; focus (first | omega | (simp <;> omega))) | with_reducible apply hp_set) <;> rfl
end Go.Proofs.YtgobdjdaehlgdaaGreatDoor
