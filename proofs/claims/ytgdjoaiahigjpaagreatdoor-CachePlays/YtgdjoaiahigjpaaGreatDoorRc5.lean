/- The document's cache: Put. -/
import Derived.Test.YtgdjoaiahigjpaaGreatDoorRc4
namespace Go.Proofs.YtgdjoaiahigjpaaGreatDoor
namespace RC
open Go.RowKit
open CI (tk tk_none tk_some getA dropA putA)
set_option linter.unusedVariables false
set_option linter.unusedSimpArgs false
set_option maxRecDepth 100000 in
set_option maxHeartbeats 2000000 in
theorem dput_any {W : World} {S : Nat → Prop} {b most : Nat} {L : LT} (h : Dc W S b most L) (k v : Int) (hl : L.length ≤ 1500) (hm : most ≤ 1024) :
    Calls Tryz.prog 12 #[.pointer (some ⟨b, 0, none⟩), .int .i64 k, .int .i64 v] W fun e W' => e = .returned (.tuple #[.int .i64 (putA most L k v).1, .bool (putA most L k v).2.1]) ∧ Dc W' (fun j => S j ∨ W.heap.size ≤ j) b most (putA most L k v).2.2 ∧ Fr (fun j => j = b) W W' := by
  have lb : b < W.heap.size := by obtain ⟨_, _, h1, _⟩ := h; exact heap_lt h1
  rcases tk_cases L k with ⟨h1, h2⟩ | ⟨A, v0, B, h1, h2, h3⟩
  · have q := take_no h h2 (by omega)
    obtain ⟨va, vc, hb, hi, hS⟩ := h
    have HD : Hid (∀ V, Nw W V → V.heap[b]? = some (dcc most (.slice va L.length vc)) ∧ Iw V S b va vc L) := fun V nV => ⟨(nV.block b lb (fun e => e)).trans hb, hi.fr nV (fun _ _ _ _ e => e)⟩
    have HT : Hid (tk L k = none) := h1
    obtain ⟨n, hn⟩ : ∃ n, n = L.length := ⟨_, rfl⟩
    have Hn : Hid (n = L.length) := hn
    have hl2 : n ≤ 1500 := by omega
    clear hb hi h1 h2 hn hl
    by_cases hz : most = 0
    · have hp : putA most L k v = (k, true, L) := by rw [putA, HT.out]; simp [hz]
      rw [hp]
      have z1 : ((most : Int) == 0) = true := by simp [hz]
      clear hp hz
      go_enter Tryz.func12, Tryz.ntmps12
      go_wp2_with fail
      refine q.mono ?_
      rintro e w1 ⟨rfl, n1⟩
      obtain ⟨b1, _⟩ := HD.out w1 n1
      have c0 : w1.cell? ⟨b, 0, none⟩ = some (.int .i64 (most : Int)) := (cell_of b1 0).trans rfl
      have lb1 := heap_lt b1
      have N1 : Hid (Nw W w1) := n1
      clear n1 q b1
      go_wp2
      go_ret2
      have n2 : Nw W (w1.alloc (itm 0 0)) := N1.out.alloc _
      obtain ⟨b2, i2⟩ := HD.out _ n2
      exact ⟨rfl, ⟨va, vc, b2, i2.mono (fun _ _ e => .inl e), .inl hS⟩, n2.mono (fun _ _ e => e.elim)⟩
    · have z1 : ((most : Int) == 0) = false := by simp; omega
      by_cases hf : L.length = most
      · obtain ⟨km, hkm⟩ : ∃ z, z = n - 1 := ⟨_, rfl⟩
        have hkn : km < L.length := by have := Hn.out; omega
        obtain ⟨x, hx⟩ : ∃ x, L[km]? = some x := ⟨_, List.getElem?_eq_getElem hkn⟩
        have hlast : (L.getLast?.map Prod.fst).getD CI.kz = x.1 := by
          rw [List.getLast?_eq_getElem?, ← Hn.out, ← hkm, hx]; rfl
        have hp : putA most L k v = (x.1, true, (k, v) :: L.dropLast) := by rw [putA, HT.out]; simp only [if_neg hz, if_pos hf, hlast]
        rw [hp]
        obtain ⟨g, rfl, _⟩ := (HD.out W (Fr.refl _ _)).2.cell hx
        have HC : Hid (∀ V, Nw W V → V.cell? ⟨g, km * 2, none⟩ = some (.int .i64 x.1)) := fun V nV => by
          obtain ⟨g', e, q1, _⟩ := (HD.out V nV).2.cell hx
          cases e
          exact q1
        have HG : Hid (g ≠ b) := by
          rcases (HD.out W (Fr.refl _ _)).2 with ⟨e, _⟩ | ⟨g', e, _, h5, _⟩
          · cases e
          · cases e; exact h5
        have hn1 : 1 ≤ n := by have := Hn.out; omega
        have z3 : ((n : Int) == (most : Int)) = true := by have := Hn.out; simp; omega
        have hk1 : wrap64 ((n : Int) - 1) = (km : Int) := by unfold wrap64; omega
        have hk1b : (n : Int) - 1 = (km : Int) := by omega
        have hkmn : km < n := by omega
        have hnv : n ≤ vc := by
          rcases (HD.out W (Fr.refl _ _)).2 with ⟨e, _⟩ | ⟨g', e, _, _, _, h5, _⟩
          · cases e
          · rw [Hn.out]; exact h5
        have HDL : Hid (L.dropLast.length = km) := by show _ = _; rw [List.length_dropLast, ← Hn.out, hkm]
        have hxx : Hid (L[km]? = some x) := hx
        generalize hX1 : x.1 = X at HC ⊢
        clear hp hz hf hlast hx hkn hkm hX1 HT
        have HNL : Hid (∀ V, Nw W V → V.heap[b]? = some (dcc most (.slice (some ⟨g, 0, none⟩) n vc))) := fun V nV => by rw [Hn.out]; exact (HD.out V nV).1
        go_enter Tryz.func12, Tryz.ntmps12
        go_wp2_with fail
        refine q.mono ?_
        rintro e w1 ⟨rfl, n1⟩
        have N1 : Hid (Nw W w1) := n1
        obtain ⟨w2, hw2⟩ : ∃ w2, w1.alloc (itm 0 0) = w2 := ⟨_, rfl⟩
        have n2 : Nw W w2 := by rw [← hw2]; exact n1.alloc _
        have HW2 : Hid (w1.alloc (itm 0 0) = w2) := hw2
        have N2 : Hid (Nw W w2) := n2
        have b1 := HNL.out w1 n1
        have c0 : w1.cell? ⟨b, 0, none⟩ = some (.int .i64 (most : Int)) := (cell_of b1 0).trans rfl
        have c1 : w1.cell? ⟨b, 1, none⟩ = some (.slice (some ⟨g, 0, none⟩) n vc) := (cell_of b1 1).trans rfl
        have lb1 := heap_lt b1
        have c2 := HC.out w1 n1
        have lg : g < w1.heap.size := World.block_lt_of_cell? w1 _ c2
        have b2 := HNL.out w2 n2
        have d0 : w2.cell? ⟨b, 0, none⟩ = some (.int .i64 (most : Int)) := (cell_of b2 0).trans rfl
        have d1 : w2.cell? ⟨b, 1, none⟩ = some (.slice (some ⟨g, 0, none⟩) n vc) := (cell_of b2 1).trans rfl
        have lb2 := heap_lt b2
        have d2 := HC.out w2 n2
        have fz2 := frozen_of b2 1
        clear n1 q b1 hw2 n2 b2
        go_wp2_with fail
        rw [HW2.out]
        go_quiet (fail)
        obtain ⟨w3, hw3⟩ : ∃ z, z = w2.drewN nq := ⟨_, rfl⟩
        rw [← hw3]
        have N3 : Hid (Nw W w3) := by show Nw _ _; rw [hw3]; exact N2.out.drewN _
        clear hw3 c0 c1 lb1 c2 lg d0 d1 lb2 d2 fz2
        have b3 := HNL.out w3 N3.out
        have d1 : w3.cell? ⟨b, 1, none⟩ = some (.slice (some ⟨g, 0, none⟩) n vc) := (cell_of b3 1).trans rfl
        have lb2 := heap_lt b3
        have d2 := HC.out w3 N3.out
        clear b3
        go_wp2
        go_quiet (fail)
        obtain ⟨w4, hw4⟩ : ∃ z, z = w3.drewN nq := ⟨_, rfl⟩
        rw [← hw4]
        have N4 : Hid (Nw W w4) := by show Nw _ _; rw [hw4]; exact N3.out.drewN _
        clear hw4 d1 lb2 d2
        have b4 := HNL.out w4 N4.out
        have d1 : w4.cell? ⟨b, 1, none⟩ = some (.slice (some ⟨g, 0, none⟩) n vc) := (cell_of b4 1).trans rfl
        have lb2 := heap_lt b4
        have fz2 := frozen_of b4 1
        clear b4
        have Q5 : Hid (∀ V, Nw W V → Calls Tryz.prog 25 #[.pointer (some ⟨b, 0, none⟩), .agg #[.int .i64 k, .int .i64 v]] ((V.setCell ⟨b, 1, none⟩ (.slice (some ⟨g, 0, none⟩) km vc)).drew) fun e W' => e = .returned (.tuple #[]) ∧ Dc W' (fun j => S j ∨ W.heap.size ≤ j) b most ((k, v) :: L.dropLast) ∧ Fr (fun j => j = b) W W') := fun V nV => by
          obtain ⟨bV, iV⟩ := HD.out V nV
          have dV : Dc (V.setCell ⟨b, 1, none⟩ (.slice (some ⟨g, 0, none⟩) km vc)) S b most L.dropLast := by
            refine ⟨some ⟨g, 0, none⟩, vc, ?_, ?_, hS⟩
            · rw [heap_set bV, HDL.out]; rfl
            · exact iV.less.fr (T := fun j => j = b) ((Fr.refl _ _).setCell _ _ (fun _ => rfl)) (fun _ _ _ hne e => hne e)
          have fV : Fr (fun j => j = b) W (V.setCell ⟨b, 1, none⟩ (.slice (some ⟨g, 0, none⟩) km vc)).drew := ((nV.mono (S' := fun j => j = b) (fun _ _ e => e.elim)).setCell _ _ (fun _ => rfl)).drew
          refine (first_any (dV.nw ((Fr.refl _ _).drew)) k v (by rw [HDL.out]; omega)).mono ?_
          rintro e W' ⟨rfl, d, f⟩
          have := fV.size
          exact ⟨rfl, d.mono (fun j _ e => by rcases e with e | e; exact .inl e; exact .inr (by omega)), fV.trans f (fun _ _ e => e)⟩
        go_wp2_with fail
        go_region
        all_goals
          go_wp2_with fail
          refine (Q5.out _ (by first | exact N4.out | exact N4.out.drew | exact N4.out.drewN _)).mono ?_
          rintro e w6 ⟨rfl, D6, f6⟩
          have HX : Hid (Dc w6 (fun j => S j ∨ W.heap.size ≤ j) b most ((k, v) :: L.dropLast) ∧ Fr (fun j => j = b) W w6) := ⟨D6, f6⟩
          clear D6 f6
          go_wp2
          go_ret2
          exact ⟨rfl, HX.out⟩
      · have hp : putA most L k v = (0, false, (k, v) :: L) := by rw [putA, HT.out]; simp only [if_neg hz, if_neg hf]
        rw [hp]
        have z3 : ((n : Int) == (most : Int)) = false := by have := Hn.out; simp; omega
        clear hp hz hf HT
        have HNL : Hid (∀ V, Nw W V → V.heap[b]? = some (dcc most (.slice va n vc))) := fun V nV => by rw [Hn.out]; exact (HD.out V nV).1
        have Q5 : Hid (∀ V, Nw W V → Calls Tryz.prog 25 #[.pointer (some ⟨b, 0, none⟩), .agg #[.int .i64 k, .int .i64 v]] V fun e W' => e = .returned (.tuple #[]) ∧ Dc W' (fun j => S j ∨ W.heap.size ≤ j) b most ((k, v) :: L) ∧ Fr (fun j => j = b) W W') := fun V nV => by
          obtain ⟨bV, iV⟩ := HD.out V nV
          refine (first_any ⟨va, vc, bV, iV, hS⟩ k v (by rw [← Hn.out]; omega)).mono ?_
          rintro e W' ⟨rfl, d, f⟩
          have := nV.size
          exact ⟨rfl, d.mono (fun j _ e => by rcases e with e | e; exact .inl e; exact .inr (by omega)), (nV.mono (S' := fun j => j = b) (fun _ _ e => e.elim)).trans f (fun _ _ e => e)⟩
        go_enter Tryz.func12, Tryz.ntmps12
        go_wp2_with fail
        refine q.mono ?_
        rintro e w1 ⟨rfl, n1⟩
        obtain ⟨w2, hw2⟩ : ∃ w2, w1.alloc (itm 0 0) = w2 := ⟨_, rfl⟩
        have n2 : Nw W w2 := by rw [← hw2]; exact n1.alloc _
        have HW2 : Hid (w1.alloc (itm 0 0) = w2) := hw2
        have N2 : Hid (Nw W w2) := n2
        have b1 := HNL.out w1 n1
        have c0 : w1.cell? ⟨b, 0, none⟩ = some (.int .i64 (most : Int)) := (cell_of b1 0).trans rfl
        have lb1 := heap_lt b1
        have b2 := HNL.out w2 n2
        have d0 : w2.cell? ⟨b, 0, none⟩ = some (.int .i64 (most : Int)) := (cell_of b2 0).trans rfl
        have d1 : w2.cell? ⟨b, 1, none⟩ = some (.slice va n vc) := (cell_of b2 1).trans rfl
        have lb2 := heap_lt b2
        clear n1 q b1 hw2 n2 b2
        go_wp2_with fail
        rw [HW2.out]
        go_quiet (fail)
        obtain ⟨w3, hw3⟩ : ∃ z, z = w2.drewN nq := ⟨_, rfl⟩
        rw [← hw3]
        have N3 : Hid (Nw W w3) := by show Nw _ _; rw [hw3]; exact N2.out.drewN _
        clear hw3 c0 lb1 d0 d1 lb2
        go_wp2_with fail
        refine (Q5.out _ N3.out).mono ?_
        rintro e w6 ⟨rfl, D6, f6⟩
        have HX : Hid (Dc w6 (fun j => S j ∨ W.heap.size ≤ j) b most ((k, v) :: L) ∧ Fr (fun j => j = b) W w6) := ⟨D6, f6⟩
        clear D6 f6
        go_wp2
        go_ret2
        exact ⟨rfl, HX.out⟩
  · have hp : putA most L k v = (0, false, (k, v) :: (A ++ B)) := by rw [putA, h3]
    rw [hp]
    subst h1
    have q := take_yes h h2 (by omega)
    have HL2 : Hid ((A ++ B).length ≤ 2000) := by show _ ≤ _; simp at hl ⊢; omega
    clear h h3 h2 hp hl
    go_enter Tryz.func12, Tryz.ntmps12
    go_wp2_with fail
    refine q.mono ?_
    rintro e w1 ⟨rfl, D1, f1⟩
    have HD1 : Hid (∀ V, Nw w1 V → Dc V (fun j => S j ∨ W.heap.size ≤ j) b most (A ++ B)) := fun V nV => D1.nw nV
    have F1 : Hid (Fr (fun j => j = b) W w1) := f1
    obtain ⟨w2, hw2⟩ : ∃ w2, w1.alloc (itm k v0) = w2 := ⟨_, rfl⟩
    have N2 : Hid (Nw w1 w2) := by show Nw _ _; rw [← hw2]; exact (Fr.refl _ _).alloc _
    have HW2 : Hid (w1.alloc (itm k v0) = w2) := hw2
    clear D1 f1 q hw2
    go_wp2_with fail
    rw [HW2.out]
    go_quiet (fail)
    obtain ⟨w3, hw3⟩ : ∃ z, z = w2.drewN nq := ⟨_, rfl⟩
    rw [← hw3]
    have N3 : Hid (Nw w1 w3) := by show Nw _ _; rw [hw3]; exact N2.out.drewN _
    clear hw3
    have q3 := first_any (HD1.out w3 N3.out) k v HL2.out
    go_wp2_with fail
    refine q3.mono ?_
    rintro e w6 ⟨rfl, D6, f6⟩
    have HX : Hid (Dc w6 (fun j => S j ∨ W.heap.size ≤ j) b most ((k, v) :: (A ++ B)) ∧ Fr (fun j => j = b) W w6) := by
      have s1 := F1.out.size
      have s3 := N3.out.size
      exact ⟨D6.mono (fun j _ e => by rcases e with e | e; exact e; exact .inr (by omega)), (F1.out.trans (N3.out.mono (S' := fun j => j = b) (fun _ _ e => e.elim)) (fun _ _ e => e)).trans f6 (fun _ _ e => e)⟩
    clear D6 f6 q3
    go_wp2
    go_ret2
    exact ⟨rfl, HX.out⟩
end RC
end Go.Proofs.YtgdjoaiahigjpaaGreatDoor
