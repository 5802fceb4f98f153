/- TileCounts: the walk. -/
import Derived.Test.YtkjonddlmiedcaaGreatDoorUp
import Derived.Test.YtkjonddlmiedcaaGreatDoorGq
import Derived.Test.YtkjonddlmiedcaaGreatDoorHq
import Derived.Deep.RegionHeld3
import Derived.Deep.DeepCutAuto
namespace Go.Proofs.YtkjonddlmiedcaaGreatDoor
open Go.RowKit
set_option linter.unusedVariables false
set_option linter.unusedSimpArgs false
theorem evsU {w : World} {a : Nat → Addr} (i : Nat) (hi : i < 16) : EV w a (sen (a i)) (i + 1) none := .inr (.inl ⟨i, hi, rfl, rfl, rfl⟩)
theorem is_senU {B : Nat} {w : World} {a : Nat → Addr} (hS : Sent B w a) (i : Nat) (hi : i < 16) {c : Int} (hc : c = (i + 1 : Nat)) :
    Calls Tryz.prog 20 #[sen (a i), .int .i64 c] w fun e w' => e = .returned (.bool true) ∧ Nw w w' := by
  have := isE_any hS (evsU (w := w) (a := a) i hi) c
  have e : sameB (i + 1) none c (-1) = true := by simp [sameB, hc]
  rw [e] at this
  exact this
/-- The tile of that level and index, or none. -/
def inT (L I S : Nat) : Ti := if 0 < wid L I S then ⟨L, I, wid L I S⟩ else ⟨0, 0, 0⟩
theorem in_anyT (L I S : Nat) (hL : L ≤ 255) (hI : I < 18446744073709551616) (hS : S < 18446744073709551616) (w : World) :
    Calls Tryz.prog 19 #[.int .u8 (L : Int), .int .u64 (I : Int), .int .u64 (S : Int)] w fun e w' => e = .returned (.tuple #[tl (inT L I S).L (inT L I S).I (inT L I S).W, .bool (decide (0 < wid L I S))]) ∧ Nw w w' := by
  unfold inT
  by_cases h : 0 < wid L I S
  · rw [if_pos h, decide_eq_true h]
    exact in_yes L I S _ hI rfl h w
  · rw [if_neg h, decide_eq_false h]
    exact in_no L I S hL hI hS (by omega) w
theorem inT_all {L I S : Nat} (hS : S ≤ 1048576) : mtT (allT S 8) (inT L I S) (allT S 8).length = decide (0 < wid L I S) := by
  by_cases h : 0 < wid L I S
  · rw [decide_eq_true h, mtT_all]
    unfold inT
    rw [if_pos h]
    have h7 := (wid_full h).1
    exact allT_has (by omega) ((wid_pos S L I hS h7).1 h)
  · rw [decide_eq_false h]
    cases hb : mtT (allT S 8) (inT L I S) (allT S 8).length
    · rfl
    · rw [mtT_all] at hb
      unfold inT at hb
      rw [if_neg h] at hb
      obtain ⟨h1, h2, h3⟩ := allT_mem hb
      have := (wid_pos S 0 0 hS (by omega)).2 h2
      simp only at h3
      omega
set_option maxRecDepth 100000 in
set_option maxHeartbeats 4000000 in
theorem counts_core (S L I : Nat) (hS : S < 18446744073709551616) (hL : L ≤ 255) (hI : I < 18446744073709551616) (w : World) (QV : ∀ V, Nw w V → Calls Tryz.prog 12 #[] V fun e w' => e = .returned (.bool true) ∧ Nw V w') {B : Nat} {a : Nat → Addr} (hE : Sent B w a) :
    Calls Tryz.prog 5 #[.int .u64 (S : Int), .int .u8 (L : Int), .int .u64 (I : Int)] w fun e w' => e = .returned (.bool true) ∧ Nw w w' := by
  have HV : Hid (∀ V, Nw w V → Calls Tryz.prog 12 #[] V fun e w' => e = .returned (.bool true) ∧ Nw V w') := QV
  have HE : Hid (∀ V, Nw w V → Sent B V a) := fun V nV => hE.fr nV (fun _ _ f => f)
  have HIN : Hid (∀ V, Calls Tryz.prog 19 #[.int .u8 (L : Int), .int .u64 (I : Int), .int .u64 (S : Int)] V fun e w' => e = .returned (.tuple #[tl (inT L I S).L (inT L I S).I (inT L I S).W, .bool (decide (0 < wid L I S))]) ∧ Nw V w') := fun V => in_anyT L I S hL hI hS V
  obtain ⟨X, hX⟩ : ∃ X, X = inT L I S := ⟨_, rfl⟩
  obtain ⟨ok, hok⟩ : ∃ x, x = decide (0 < wid L I S) := ⟨_, rfl⟩
  have HX : Hid (X = inT L I S ∧ ok = decide (0 < wid L I S)) := ⟨hX, hok⟩
  rw [← hX, ← hok] at HIN
  clear QV hX hok
  by_cases hbig : 1048576 < S
  · have q1 := all_no S hS hbig w hE
    have hb : (1048576 : Int) < (S : Int) := by omega
    clear hE
    go_enter Tryz.func5, Tryz.ntmps5
    go_wp2_with fail
    refine q1.mono ?_
    rintro e w1 ⟨rfl, n1⟩
    have N1 : Hid (Nw w w1) := n1
    clear q1 n1
    go_wp2_with fail
    refine (HIN.out _).mono ?_
    rintro e w2 ⟨rfl, n2⟩
    have N2 : Hid (Nw w w2) := N1.out.tr n2
    have hs2 := N2.out.size
    clear n2 N1
    go_wp2_with fail
    refine (is_senU (HE.out _ (by repeat first | with_reducible exact N2.out | with_reducible refine Fr.alloc ?_ _ | with_reducible refine Fr.drew ?_ | (with_reducible refine Fr.setCell ?_ _ _ (fun h => ?_); rotate_left; focus (simp only at h; omega)))) 4 (by decide) (by decide)).mono ?_
    rintro e w3 ⟨rfl, n3⟩
    have N3 : Hid (Nw w w3) := Nw.tr (by repeat first | with_reducible exact N2.out | with_reducible refine Fr.alloc ?_ _ | with_reducible refine Fr.drew ?_ | (with_reducible refine Fr.setCell ?_ _ _ (fun h => ?_); rotate_left; focus (simp only at h; omega))) n3
    clear n3
    go_wp2_with fail
    refine (HV.out _ N3.out).mono ?_
    rintro e w4 ⟨rfl, n4⟩
    have N4 : Hid (Nw w w4) := N3.out.tr n4
    clear n4
    go_wp2
    go_ret
    exact ⟨rfl, N4.out⟩
  · have hS2 : S ≤ 1048576 := by omega
    have hb : ¬ (1048576 : Int) < (S : Int) := by omega
    have q1 := all_yes S hS2 w
    have hlen := allT_le S hS2 8
    obtain ⟨l, hl⟩ : ∃ l, l = allT S 8 := ⟨_, rfl⟩
    rw [← hl] at q1 hlen
    obtain ⟨n, hn⟩ : ∃ n, n = l.length := ⟨_, rfl⟩
    rw [← hn] at q1 hlen
    have Hl : Hid (l = allT S 8 ∧ n = l.length) := ⟨hl, hn⟩
    clear hl hn hE hbig
    go_enter Tryz.func5, Tryz.ntmps5
    go_wp2_with fail
    refine q1.mono ?_
    rintro e w1 ⟨va, vc, rfl, o1, n1⟩
    have N1 : Hid (Nw w w1) := n1
    have O1 : Hid (w1.ownsRow w.heap.size 41 3 (.slice va n vc) n (tic l)) := o1
    clear q1 n1 o1
    go_wp2_with fail
    refine (HIN.out _).mono ?_
    rintro e w2 ⟨rfl, n2⟩
    have N2 : Hid (Nw w1 w2) := n2
    clear n2
    go_wp2
    obtain ⟨w4, hw4⟩ : ∃ q, ((w2.alloc (.cells #[.int .u8 (X.L : Int), .int .u64 (X.I : Int), .int .i64 (X.W : Int)] 41)).alloc (.cells #[.int .u64 0, .int .u64 0, .int .u64 0, .int .u64 0, .int .u64 0, .int .u64 0, .int .u64 0, .int .u64 0] 56)) = q := ⟨_, rfl⟩
    have N4 : Hid (Nw w2 w4) := by show Nw w2 w4; rw [← hw4]; exact (nwa w2 _).alloc _
    have BT : Hid (w4.heap[w2.heap.size]? = some (.cells #[.int .u8 (X.L : Int), .int .u64 (X.I : Int), .int .i64 (X.W : Int)] 41)) := by
      show _ = _
      rw [← hw4]
      exact ((nwa _ _).block _ (by simp) (fun f => f)).trans (heap_new _ _)
    have BS : Hid (w4.heap[w2.heap.size + 1]? = some (.cells (smc (l.take 0)) 56)) := by
      show _ = _
      rw [← hw4]
      exact heap_next _ _ _
    rw [hw4]
    clear hw4
    obtain ⟨tb, htb⟩ : ∃ x, x = w2.heap.size := ⟨_, rfl⟩
    rw [← htb] at BT BS ⊢
    obtain ⟨sb, hsb⟩ : ∃ x, x = tb + 1 := ⟨_, rfl⟩
    rw [← hsb] at BS ⊢
    have HT : Hid (tb = w2.heap.size ∧ sb = tb + 1) := ⟨htb, hsb⟩
    clear htb hsb
    go_loopw [12, 13] (fun u v wr => ∃ k : Nat, k ≤ n ∧ v = .int .i64 k ∧ u = .bool (mtT l X k) ∧ wr.heap[sb]? = some (.cells (smc (l.take k)) 56) ∧ Fr (fun j => j = sb) w4 wr) (fun _ v _ => n - (intOf v).toNat)
    case atStart => exact ⟨0, by omega, rfl, by rw [mtT_zero], BS.out, Fr.refl _ _⟩
    case round =>
      obtain ⟨k, hk, rfl, rfl, hbs1, hfr⟩ := hrel
      have FR : Hid (Fr (fun j => j = sb) w4 wr) := hfr
      have BW : Hid (wr.heap[sb]? = some (.cells (smc (l.take k)) 56)) := hbs1
      have NW0 : Hid (Nw w wr) := (N1.out.tr (N2.out.tr N4.out)).trans hfr (fun j hj e => by have := HT.out; have := (N1.out.tr N2.out).size; omega)
      clear hfr hbs1 BS
      by_cases hkn : k < n
      · have hki : (k : Int) < (n : Int) := by omega
        obtain ⟨t, ht⟩ : ∃ t, l[k]? = some t := ⟨_, List.getElem?_eq_getElem (by rw [← Hl.out.2]; exact hkn)⟩
        have hmem := List.mem_of_getElem? ht
        rw [Hl.out.1] at hmem
        obtain ⟨m1, m2, m3⟩ := allT_mem hmem
        have hw0 := (wid_pos S t.L t.I hS2 (by omega)).2 m2
        have hw1 := (wid_full hw0).2
        rw [← m3] at hw0 hw1
        have hcn := cntT_le S t.L hS2
        have hti : t.I ≤ 4096 := by omega
        have htl : t.L ≤ 7 := by omega
        -- the row's cells
        obtain ⟨g, hg⟩ : ∃ g, va = some ⟨g, 0, none⟩ := by
          rcases O1.out.2 with ⟨_, h0⟩ | ⟨g, cap, cur, hv, _⟩
          · omega
          · cases hv; exact ⟨g, rfl⟩
        subst hg
        have hgl := O1.out.lt g rfl
        have hgw : g < w4.heap.size := by have := N2.out.size; have := N4.out.size; omega
        have hgs : g ≠ sb := by have := HT.out; have := N2.out.size; omega
        have CELL : Hid (∀ (i : Nat) (x : Ti), l[i]? = some x → wr.cell? ⟨g, i * 3, none⟩ = some (.int .u8 (x.L : Int)) ∧ wr.cell? ⟨g, i * 3 + 1, none⟩ = some (.int .u64 (x.I : Int)) ∧ wr.cell? ⟨g, i * 3 + 2, none⟩ = some (.int .i64 (x.W : Int))) := fun i x hx => by
          obtain ⟨c0, c1, c2⟩ := tic_at l i x hx
          have hh := O1.out.cells (g := g) rfl
          have e0 := hh _ _ c0
          have e1 := hh _ _ c1
          have e2 := hh _ _ c2
          rw [addZ] at e0 e1 e2
          exact ⟨(FR.out.cell hgw hgs).trans ((N2.out.tr N4.out).cellOf e0), (FR.out.cell hgw hgs).trans ((N2.out.tr N4.out).cellOf e1), (FR.out.cell hgw hgs).trans ((N2.out.tr N4.out).cellOf e2)⟩
        have CX : Hid (wr.cell? ⟨tb, 0, none⟩ = some (.int .u8 (X.L : Int)) ∧ wr.cell? ⟨tb, 1, none⟩ = some (.int .u64 (X.I : Int)) ∧ wr.cell? ⟨tb, 2, none⟩ = some (.int .i64 (X.W : Int))) := by
          have hb0 := (FR.out.block tb (heap_lt BT.out) (by have := HT.out; omega)).trans BT.out
          exact ⟨(cell_of hb0 0).trans rfl, (cell_of hb0 1).trans rfl, (cell_of hb0 2).trans rfl⟩
        obtain ⟨d0, d1, d2⟩ := CELL.out k t ht
        obtain ⟨tL, htL⟩ : ∃ x, x = t.L := ⟨_, rfl⟩
        obtain ⟨tI, htI⟩ : ∃ x, x = t.I := ⟨_, rfl⟩
        obtain ⟨tW, htW⟩ : ∃ x, x = t.W := ⟨_, rfl⟩
        have HTT : Hid (l[k]? = some ⟨tL, tI, tW⟩) := by show _ = _; rw [ht, htL, htI, htW]
        have qi : Hid (∀ V, Calls Tryz.prog 19 #[.int .u8 (tL : Int), .int .u64 (tI : Int), .int .u64 (S : Int)] V fun e w' => e = .returned (.tuple #[tl tL tI tW, .bool true]) ∧ Nw V w') := fun V => by rw [htL, htI, htW]; exact in_yes t.L t.I S t.W (by omega) m3.symm (by omega) V
        rw [← htL] at d0 htl
        rw [← htI] at d1 hti
        rw [← htW] at d2 hw0 hw1
        have HTL : Hid (t.L = tL ∧ t.I = tI ∧ t.W = tW) := ⟨htL.symm, htI.symm, htW.symm⟩
        clear ht hmem m1 m2 m3 hcn htL htI htW
        have D0 : Hid (wr.cell? ⟨g, k * 3, none⟩ = some (.int .u8 (tL : Int)) ∧ wr.cell? ⟨g, k * 3 + 1, none⟩ = some (.int .u64 (tI : Int)) ∧ wr.cell? ⟨g, k * 3 + 2, none⟩ = some (.int .i64 (tW : Int))) := ⟨d0, d1, d2⟩
        go_upto_region 12 with fail
        go_cut [14, 15] (fun u v wx => ∃ ub : Nat, u = .pointer (some ⟨ub, 0, none⟩) ∧ v = .bool true ∧ wx.heap[ub]? = some (.cells #[.int .u8 (tL : Int), .int .u64 (tI : Int), .int .i64 (tW : Int)] 41) ∧ Nw wr wx)
        case first =>
          go_region_held3 (fun w' => w'.cell? ⟨g, k * 3, none⟩ = some (.int .u8 (tL : Int)) ∧ w'.cell? ⟨g, k * 3 + 1, none⟩ = some (.int .u64 (tI : Int))) (first | exact ⟨d0, d1⟩ | (refine ⟨Nw.cellOf (w := wr) ?_ D0.out.1, Nw.cellOf (w := wr) ?_ D0.out.2.1⟩ <;> (repeat first | with_reducible exact Fr.refl _ _ | with_reducible exact N5.out | with_reducible refine Fr.alloc ?_ _ | with_reducible refine Fr.drew ?_ | (with_reducible refine Fr.setCell ?_ _ _ (fun h => ?_); rotate_left; focus (simp only at h; omega))))) ((go_at_call 19; refine (qi.out _).mono ?_; rintro e w5 ⟨rfl, n5⟩; have N5 : Hid (Nw wr w5) := Nw.tr (by (repeat first | with_reducible exact Fr.refl _ _ | with_reducible exact N5.out | with_reducible refine Fr.alloc ?_ _ | with_reducible refine Fr.drew ?_ | (with_reducible refine Fr.setCell ?_ _ _ (fun h => ?_); rotate_left; focus (simp only at h; omega)))) n5; have hs5 := N5.out.size; (try (have bz : w5.heap[wr.heap.size]? = some (.cells #[.int .u8 0, .int .u64 0, .int .i64 0] 41) := (n5.block wr.heap.size (by simp) (fun f => f)).trans (by first | exact heap_new _ _ | exact hp_dr (heap_new _ _)); have c0 := (cell_of bz 0).trans rfl; have c1 := (cell_of bz 1).trans rfl; have c2 := (cell_of bz 2).trans rfl; have f0 := frozen_of bz 0; have f1 := frozen_of bz 1; have f2 := frozen_of bz 2; have lz := heap_lt bz)); clear n5))
          · go_wp2_with fail
            go_meet
            exact ⟨w5.heap.size, rfl, rfl, heap_new _ _, N5.out.alloc _⟩
          · go_wp2_with fail
            go_meet
            exact ⟨wr.heap.size, rfl, rfl, (heap_set (heap_set (heap_set bz _) _) _).trans rfl, Fr.setCell (Fr.setCell (Fr.setCell N5.out _ _ (fun h => by simp only at h; omega)) _ _ (fun h => by simp only at h; omega)) _ _ (fun h => by simp only at h; omega)⟩
        case rest =>
        obtain ⟨ub, rfl, rfl, bu, nx⟩ := hcut
        have NX : Hid (Nw wr wc) := nx
        have BU : Hid (wc.heap[ub]? = some (.cells #[.int .u8 (tL : Int), .int .u64 (tI : Int), .int .i64 (tW : Int)] 41)) := bu
        obtain ⟨u0, u1, u2⟩ := cell3 bu
        have y0 := nx.cellOf D0.out.1
        have y1 := nx.cellOf D0.out.2.1
        have y2 := nx.cellOf D0.out.2.2
        have lu := heap_lt bu
        have b1 : decide ((7 : Int) < (tL : Int)) = false := decide_eq_false (by omega)
        have b2 : decide ((tW : Int) < 1) = false := decide_eq_false (by omega)
        have b3 : decide ((256 : Int) < (tW : Int)) = false := decide_eq_false (by omega)
        have b4 : decide (7 < tL) = false := decide_eq_false (by omega)
        have b5 : decide (256 < tW) = false := decide_eq_false (by omega)
        have b6 : decide (tW < 1) = false := decide_eq_false (by omega)
        clear bu nx d0 d1 d2 qi
        go_wp2_with fail
        go_quiet (fail)
        obtain ⟨w6, hw6⟩ : ∃ q, q = wc.drewN nq := ⟨_, rfl⟩
        have n6 : Nw wc w6 := by rw [hw6]; exact (Fr.refl _ _).drewN _
        rw [← hw6]
        have N6 : Hid (Nw wr w6) := NX.out.tr n6
        clear hw6 n6 NX BU u0 u1 u2 y0 y1 y2 lu b1 b2 b3 b4 b5 b6
        go_upto_region 15 with fail
        go_cut [141] (fun u wx => u = .bool false ∧ Nw w6 wx)
        case first =>
          have y0 := N6.out.cellOf D0.out.1
          have y1 := N6.out.cellOf D0.out.2.1
          by_cases hk0 : k = 0
          · subst hk0
            have q1 : decide ((0 : Int) < ((0 : Nat) : Int)) = false := by decide
            have q2 : decide ((0 : Int) < 0) = false := by decide
            go_quiet (fail)
            go_wp2_with fail
            go_meet
            exact ⟨rfl, (Fr.refl _ _).drewN _⟩
          · obtain ⟨i, hi⟩ : ∃ i, k = i + 1 := ⟨k - 1, by omega⟩
            obtain ⟨pt, hp⟩ : ∃ x, l[i]? = some x := ⟨_, List.getElem?_eq_getElem (by rw [← Hl.out.2]; omega)⟩
            have hah : aheadT pt ⟨tL, tI, tW⟩ := allT_next (S := S) (j := 8) (i := i) (by rw [← Hl.out.1]; exact hp) (by rw [← Hl.out.1, ← hi]; exact HTT.out)
            obtain ⟨c0, c1, _⟩ := CELL.out i pt hp
            obtain ⟨pL, hpL⟩ : ∃ x, x = pt.L := ⟨_, rfl⟩
            obtain ⟨pI, hpI⟩ : ∃ x, x = pt.I := ⟨_, rfl⟩
            rw [← hpL] at c0
            rw [← hpI] at c1
            have hah2 : pL < tL ∨ (pL = tL ∧ pI < tI) := by rw [hpL, hpI]; exact hah
            clear hah hpL hpI hp
            have x0 := N6.out.cellOf c0
            have x1 := N6.out.cellOf c1
            have e1 : (k : Int) - 1 = (i : Int) := by omega
            have e2 : IntKind.i64.wrap ((k : Int) - 1) = (i : Int) := by rw [IntKind.wrap_i64]; omega
            have q1 : decide ((0 : Int) < (k : Int)) = true := decide_eq_true (by omega)
            have q2 : decide (0 < k) = true := decide_eq_true (by omega)
            have hin : (i : Int) < (n : Int) := by omega
            have HI9 : Hid (k = i + 1) := hi
            clear c0 c1 hi hk0
            rcases hah2 with h1 | ⟨h1, h2⟩
            · have r1 : decide ((tL : Int) < (pL : Int)) = false := decide_eq_false (by omega)
              have r2 : ((pL : Int) == (tL : Int)) = false := by simp only [beq_eq_false_iff_ne]; omega
              have r3 : decide (tL < pL) = false := decide_eq_false (by omega)
              have r4 : (pL == tL) = false := by simp only [beq_eq_false_iff_ne]; omega
              go_quiet (fail)
              go_wp2_with fail
              go_meet
              exact ⟨rfl, (Fr.refl _ _).drewN _⟩
            · subst h1
              have r1 : decide ((pL : Int) < (pL : Int)) = false := decide_eq_false (by omega)
              have r2 : decide ((tI : Int) ≤ (pI : Int)) = false := decide_eq_false (by omega)
              have r3 : decide (tI ≤ pI) = false := decide_eq_false (by omega)
              go_quiet (fail)
              go_wp2_with fail
              go_meet
              exact ⟨rfl, (Fr.refl _ _).drewN _⟩
        case rest =>
        obtain ⟨rfl, n7⟩ := hcut
        have N7 : Hid (Nw wr wc) := N6.out.tr n7
        clear n7 N6
        obtain ⟨w7, hw7⟩ : ∃ q, q = wc := ⟨_, rfl⟩
        rw [← hw7] at N7 ⊢
        clear hw7
        have B7 : Hid (w7.heap[sb]? = some (.cells (smc (l.take k)) 56)) := (N7.out.block _ (heap_lt BW.out) (fun f => f)).trans BW.out
        obtain ⟨sm, hsm⟩ : ∃ x, x = sumW (l.take k) tL := ⟨_, rfl⟩
        have hsmb : sm ≤ 1048576 := by
          have h1 := sumW_take l k tL
          have h2 := sumW_all S hS2 tL 8 (by omega)
          rw [← Hl.out.1] at h2
          have h3 := nod8_le tL S hS2
          rw [if_pos (by omega)] at h2
          omega
        have HSM : Hid (sm = sumW (l.take k) tL) := hsm
        clear hsm
        go_upto_region 17 with fail
        go_cut [] (fun wx => wx.heap[sb]? = some (.cells (smc (l.take (k + 1))) 56) ∧ Fr (fun j => j = sb) w7 wx)
        case first =>
          have y0 := N7.out.cellOf D0.out.1
          have y2 := N7.out.cellOf D0.out.2.2
          have s0 : w7.cell? ⟨sb, tL, none⟩ = some (.int .u64 (sm : Int)) := by rw [cell_of B7.out, smc_at _ _ htl, HSM.out]
          have s1 : w7.frozen? ⟨sb, tL, none⟩ = false := frozen_of B7.out tL
          have ls := heap_lt B7.out
          have lg7 : g < w7.heap.size := World.block_lt_of_cell? w7 _ y0
          have t8 : (tL : Int) < 8 := by omega
          have e1 : IntKind.u64.wrap (tW : Int) = (tW : Int) := by rw [IntKind.wrap_u64]; omega
          have e2 : IntKind.u64.wrap ((sm : Int) + (tW : Int)) = (sm : Int) + (tW : Int) := by rw [IntKind.wrap_u64]; omega
          go_region
          go_wp2_with fail
          go_meet
          have e3 : l.take (k + 1) = l.take k ++ [⟨tL, tI, tW⟩] := by rw [List.take_add_one, HTT.out]; rfl
          refine ⟨?_, Fr.drew (Fr.setCell (Fr.refl _ w7) _ _ (fun _ => rfl))⟩
          refine Eq.trans (show (w7.setCell ⟨sb, tL, none⟩ (.int .u64 ((sm : Int) + (tW : Int)))).drew.heap[sb]? = (w7.setCell ⟨sb, tL, none⟩ (.int .u64 ((sm : Int) + (tW : Int)))).heap[sb]? from rfl) ?_
          rw [heap_set B7.out, HSM.out, smc_snoc (l.take k) ⟨tL, tI, tW⟩ htl, e3]
        case rest =>
        obtain ⟨b8, f8⟩ := hcut
        have B8 : Hid (wc.heap[sb]? = some (.cells (smc (l.take (k + 1))) 56)) := b8
        have F8 : Hid (Fr (fun j => j = sb) w4 wc) := (FR.out.trans N7.out (fun _ _ q => q.elim)).trans f8 (fun _ _ q => q)
        have hgs7 : g < w7.heap.size := World.block_lt_of_cell? w7 _ (N7.out.cellOf D0.out.1)
        have htb7 : tb < w7.heap.size := World.block_lt_of_cell? w7 _ (N7.out.cellOf CX.out.1)
        have htbs : tb ≠ sb := by have := HT.out; omega
        have y0 := (f8.cell (p := ⟨g, k * 3, none⟩) hgs7 hgs).trans (N7.out.cellOf D0.out.1)
        have y1 := (f8.cell (p := ⟨g, k * 3 + 1, none⟩) hgs7 hgs).trans (N7.out.cellOf D0.out.2.1)
        have y2 := (f8.cell (p := ⟨g, k * 3 + 2, none⟩) hgs7 hgs).trans (N7.out.cellOf D0.out.2.2)
        have x0 := (f8.cell (p := ⟨tb, 0, none⟩) htb7 htbs).trans (N7.out.cellOf CX.out.1)
        have x1 := (f8.cell (p := ⟨tb, 1, none⟩) htb7 htbs).trans (N7.out.cellOf CX.out.2.1)
        have x2 := (f8.cell (p := ⟨tb, 2, none⟩) htb7 htbs).trans (N7.out.cellOf CX.out.2.2)
        have hkn2 : (k : Int) < (n : Int) := hki
        clear b8 f8
        obtain ⟨XL, hXL⟩ : ∃ x, x = X.L := ⟨_, rfl⟩
        obtain ⟨XI, hXI⟩ : ∃ x, x = X.I := ⟨_, rfl⟩
        obtain ⟨XW, hXW⟩ : ∃ x, x = X.W := ⟨_, rfl⟩
        have HXX : Hid (X = ⟨XL, XI, XW⟩) := by show _ = _; rw [hXL, hXI, hXW]
        rw [← hXL] at x0
        rw [← hXI] at x1
        rw [← hXW] at x2
        clear hXL hXI hXW
        obtain ⟨r, hr⟩ : ∃ r, r = mtT l X k := ⟨_, rfl⟩
        have HR : Hid (r = mtT l X k) := hr
        rw [← hr]
        clear hr
        cases r
        · by_cases a1 : tL = XL
          · by_cases a2 : tI = XI
            · by_cases a3 : tW = XW
              · have HM : Hid (mtT l X (k + 1) = true) := mtT_yes (by rw [HTT.out, HXX.out, a1, a2, a3])
                subst a1 a2 a3
                go_wp2_with fail
                go_quiet (fail)
                go_wp2
                exact ⟨⟨k + 1, by omega, by go_num, by rw [HM.out], B8.out, F8.out.drewN _⟩, by simp [intOf]; omega⟩
              · have HM : Hid (mtT l X (k + 1) = false) := by show _ = _; rw [mtT_no HTT.out (by rw [HXX.out]; intro e; cases e; exact a3 rfl), ← HR.out]
                subst a1 a2
                have q1 : ((tW : Int) == (XW : Int)) = false := by simp only [beq_eq_false_iff_ne]; omega
                have q2 : (tW == XW) = false := by simp only [beq_eq_false_iff_ne]; omega
                have q3 : decide ((tW : Int) = (XW : Int)) = false := decide_eq_false (by omega)
                have q4 : ¬ (tW : Int) = (XW : Int) := by omega
                go_wp2_with fail
                go_quiet (fail)
                go_wp2
                exact ⟨⟨k + 1, by omega, by go_num, by rw [HM.out], B8.out, F8.out.drewN _⟩, by simp [intOf]; omega⟩
            · have HM : Hid (mtT l X (k + 1) = false) := by show _ = _; rw [mtT_no HTT.out (by rw [HXX.out]; intro e; cases e; exact a2 rfl), ← HR.out]
              subst a1
              have q1 : ((tI : Int) == (XI : Int)) = false := by simp only [beq_eq_false_iff_ne]; omega
              have q2 : (tI == XI) = false := by simp only [beq_eq_false_iff_ne]; omega
              have q3 : decide ((tI : Int) = (XI : Int)) = false := decide_eq_false (by omega)
              have q4 : ¬ (tI : Int) = (XI : Int) := by omega
              go_wp2_with fail
              go_quiet (fail)
              go_wp2
              exact ⟨⟨k + 1, by omega, by go_num, by rw [HM.out], B8.out, F8.out.drewN _⟩, by simp [intOf]; omega⟩
          · have HM : Hid (mtT l X (k + 1) = false) := by show _ = _; rw [mtT_no HTT.out (by rw [HXX.out]; intro e; cases e; exact a1 rfl), ← HR.out]
            have q1 : ((tL : Int) == (XL : Int)) = false := by simp only [beq_eq_false_iff_ne]; omega
            have q2 : (tL == XL) = false := by simp only [beq_eq_false_iff_ne]; omega
            have q3 : decide ((tL : Int) = (XL : Int)) = false := decide_eq_false (by omega)
            have q4 : ¬ (tL : Int) = (XL : Int) := by omega
            go_wp2_with fail
            go_quiet (fail)
            go_wp2
            exact ⟨⟨k + 1, by omega, by go_num, by rw [HM.out], B8.out, F8.out.drewN _⟩, by simp [intOf]; omega⟩
        · have HM : Hid (mtT l X (k + 1) = true) := mtT_more HR.out.symm
          go_wp2_with fail
          go_quiet (fail)
          go_wp2
          exact ⟨⟨k + 1, by omega, by go_num, by rw [HM.out], B8.out, F8.out.drewN _⟩, by simp [intOf]; omega⟩
      · obtain rfl : k = n := by omega
        have hge : ¬ (k : Int) < (k : Int) := by omega
        have HM : Hid (mtT l X k = ok) := by
          show _ = _
          obtain ⟨h1, h2⟩ := HX.out
          obtain ⟨h3, h4⟩ := Hl.out
          rw [h1, h2, h4, h3]
          exact inT_all hS2
        rw [HM.out]
        have BW2 : Hid (wr.heap[sb]? = some (.cells (smc l) 56)) := by
          have := BW.out
          rw [Hl.out.2, List.take_length] at this
          exact this
        have ls := heap_lt BW.out
        clear BW FR HM
        go_wp2
        clear hge
        obtain ⟨wz, hwz⟩ : ∃ q, q = wr := ⟨_, rfl⟩
        rw [← hwz] at NW0 BW2 ls ⊢
        clear hwz
        go_loopw [16] (fun v wx => ∃ j : Nat, j ≤ 8 ∧ v = .int .i64 j ∧ wz = wx) (fun v _ => 8 - (intOf v).toNat)
        case atStart => exact ⟨0, by omega, rfl, rfl⟩
        case round =>
          obtain ⟨j, hj, rfl, rfl⟩ := hrel
          by_cases hj8 : j < 8
          · have hji : (j : Int) < 8 := by omega
            have s0 : wz.cell? ⟨sb, j, none⟩ = some (.int .u64 (sumW l j : Int)) := by rw [cell_of BW2.out, smc_at _ _ (by omega)]
            have h2 := sumW_all S hS2 j 8 (by omega)
            rw [← Hl.out.1, if_pos hj8] at h2
            rw [h2] at s0
            obtain ⟨N, hN, hNb, ed⟩ := nod_lift j S (by omega)
            rw [← hN] at s0
            clear hN h2
            go_wp2
            exact ⟨⟨j + 1, by omega, by go_num, trivial⟩, by simp [intOf]; omega⟩
          · have hj2 : ¬ (j : Int) < 8 := by omega
            have hoo : (ok == ok) = true := by simp
            go_wp2_with fail
            refine (HV.out _ NW0.out).mono ?_
            rintro e w9 ⟨rfl, n9⟩
            have N9 : Hid (Nw w w9) := NW0.out.tr n9
            clear n9
            go_wp2
            go_ret
            exact ⟨rfl, N9.out⟩
end Go.Proofs.YtkjonddlmiedcaaGreatDoor
