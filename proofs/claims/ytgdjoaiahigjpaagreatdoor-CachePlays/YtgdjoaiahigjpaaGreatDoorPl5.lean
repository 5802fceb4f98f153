/- CachePlays: Drop, whose order is drawn. -/
import Derived.Test.YtgdjoaiahigjpaaGreatDoorPl3
import Derived.Deep.RegionHeld3
namespace Go.Proofs.YtgdjoaiahigjpaaGreatDoor
namespace RC
open Go.RowKit
open CI (Cx getA putA dropA kok)
set_option linter.unusedVariables false
set_option linter.unusedSimpArgs false
set_option maxRecDepth 100000 in
set_option maxHeartbeats 2000000 in
theorem does_drop {w W : World} {wb N : Nat} {b r c : Nat → Nat} {L : Nat → LT} {tg : Nat → Nat} (h : Pw w W wb N b r c L L tg) (on x y : Int) (hx : kok x) (hN : N < 4611686018427387900) :
    Calls Tryz.prog 6 #[ptr wb, .agg #[.int .i64 3, .int .i64 on, .int .i64 x, .int .i64 y]] W fun e V => e = .returned (.bool true) ∧ ∃ b' r' c' L' tg', Pw w V wb (N + 2) b' r' c' L' L' tg' := by
  obtain ⟨k, hk, hand⟩ := and1 on
  obtain ⟨w1, hw1⟩ : ∃ w1, W.alloc (opc 3 on x y) = w1 := ⟨_, rfl⟩
  have b1 : w1.heap[W.heap.size]? = some (opc 3 on x y) := by rw [← hw1]; exact heap_new _ _
  have P1 := h.tag9.go (show Nw W w1 by rw [← hw1]; exact (Fr.refl _ _).alloc _)
  have t9 : tgn tg W.heap.size 9 W.heap.size = 9 := tgn_ge (Nat.le_refl _)
  generalize tgn tg W.heap.size 9 = tg1 at P1 t9
  obtain ⟨hl, hc⟩ := P1.lens hk
  obtain ⟨e0, e1⟩ := h.cell hk
  have lw := heap_lt h.blk
  have HW1 : Hid (W.alloc (opc 3 on x y) = w1) := hw1
  have hki : (k : Int) < 2 := by omega
  have hk0 : (0 : Int) ≤ (k : Int) := by omega
  obtain ⟨A, hA⟩ : ∃ A, A = dropA (L k) x := ⟨_, rfl⟩
  -- the state behind the one, behind the other, behind both
  have QS : Hid (∀ V, Nw w1 V → Calls Tryz.prog 13 #[ptr (b k), .int .i64 x] V fun e U => e = .returned (.bool A.1) ∧ U.cell? ⟨W.heap.size, 2, none⟩ = some (.int .i64 x) ∧ ∃ tg', Pw w U wb (N + 1) b r c (up L k A.2) L tg' ∧ tg' W.heap.size = 9 ∧ U.heap[W.heap.size]? = some (opc 3 on x y)) := fun V nV => by
    rw [hA]
    have bV := (nV.block _ (heap_lt b1) (fun e => e)).trans b1
    refine ((P1.go nV).dropS hk x hx hN).mono ?_
    rintro e U ⟨rfl, p, f⟩
    have bU := (f.block _ (heap_lt bV) (fun e => by omega)).trans bV
    exact ⟨rfl, (cell_of bU 2).trans rfl, _, p, by rw [tgn_lt (heap_lt bV)]; exact t9, bU⟩
  have QR : Hid (∀ V, Nw w1 V → Calls Tryz.prog 14 #[ptr (r k), .int .i64 x] V fun e U => e = .returned (.bool A.1) ∧ U.cell? ⟨W.heap.size, 2, none⟩ = some (.int .i64 x) ∧ ∃ tg', Pw w U wb N b r c L (up L k A.2) tg' ∧ tg' W.heap.size = 9 ∧ U.heap[W.heap.size]? = some (opc 3 on x y)) := fun V nV => by
    rw [hA]
    have bV := (nV.block _ (heap_lt b1) (fun e => e)).trans b1
    refine ((P1.go nV).dropR hk x (by omega)).mono ?_
    rintro e U ⟨rfl, p, f⟩
    have bU := (f.block _ (heap_lt bV) (fun e => by omega)).trans bV
    exact ⟨rfl, (cell_of bU 2).trans rfl, _, p, by rw [tgn_lt (heap_lt bV)]; exact t9, bU⟩
  have QSR : Hid (∀ U V tg', Pw w U wb (N + 1) b r c (up L k A.2) L tg' → tg' W.heap.size = 9 → U.heap[W.heap.size]? = some (opc 3 on x y) → Nw U V → Calls Tryz.prog 14 #[ptr (r k), .int .i64 x] V fun e X => e = .returned (.bool A.1) ∧ X.cell? ⟨W.heap.size, 2, none⟩ = some (.int .i64 x) ∧ ∃ tg2, Pw w X wb (N + 2) b r c (up L k A.2) (up L k A.2) tg2) := fun U V tg' p t bU nV => by
    have bV := (nV.block _ (heap_lt bU) (fun e => e)).trans bU
    refine ((p.go nV).dropR hk x (by omega)).mono ?_
    rintro e X ⟨rfl, p2, f⟩
    have bX := (f.block _ (heap_lt bV) (fun e => by omega)).trans bV
    exact ⟨by rw [hA], (cell_of bX 2).trans rfl, _, by rw [hA] at p2 ⊢; exact p2.more (by omega)⟩
  have QRS : Hid (∀ U V tg', Pw w U wb N b r c L (up L k A.2) tg' → tg' W.heap.size = 9 → U.heap[W.heap.size]? = some (opc 3 on x y) → Nw U V → Calls Tryz.prog 13 #[ptr (b k), .int .i64 x] V fun e X => e = .returned (.bool A.1) ∧ X.cell? ⟨W.heap.size, 2, none⟩ = some (.int .i64 x) ∧ ∃ tg2, Pw w X wb (N + 2) b r c (up L k A.2) (up L k A.2) tg2) := fun U V tg' p t bU nV => by
    have bV := (nV.block _ (heap_lt bU) (fun e => e)).trans bU
    refine ((p.go nV).dropS hk x hx hN).mono ?_
    rintro e X ⟨rfl, p2, f⟩
    have bX := (f.block _ (heap_lt bV) (fun e => by omega)).trans bV
    exact ⟨by rw [hA], (cell_of bX 2).trans rfl, _, by rw [hA] at p2 ⊢; exact p2.more (by omega)⟩
  have CK : Hid (∀ V, Nw w1 V → V.cell? ⟨W.heap.size, 2, none⟩ = some (.int .i64 x)) := fun V nV => nV.cellOf ((cell_of b1 2).trans rfl)
  have ck := CK.out w1 (Fr.refl _ _)
  have az : (A.1 == A.1) = true := by simp
  clear h b1 hw1 hA P1 hl hc
  go_enter Tryz.func6, Tryz.ntmps6
  go_wp2_with fail
  rw [HW1.out]
  go_region_held3 (fun w' => w'.cell? ⟨W.heap.size, 2, none⟩ = some (.int .i64 x)) (first | exact ck | exact CK.out _ (Fr.refl _ _).drew | exact kc3 | exact kc2) (first
    | (go_at_call 13; refine (QRS.out w2 _ tg2 PR.out.1 PR.out.2.1 PR.out.2.2 (by first | exact Fr.refl _ _ | exact (Fr.refl _ _).drew)).mono ?_; rintro e w3 ⟨rfl, kc3, hp3⟩; have HP : Hid (∃ tg2, Pw w w3 wb (N + 2) b r c (up L k A.2) (up L k A.2) tg2) := hp3; clear hp3)
    | (go_at_call 14; refine (QSR.out w2 _ tg2 PS.out.1 PS.out.2.1 PS.out.2.2 (by first | exact Fr.refl _ _ | exact (Fr.refl _ _).drew)).mono ?_; rintro e w3 ⟨rfl, kc3, hp3⟩; have HP : Hid (∃ tg2, Pw w w3 wb (N + 2) b r c (up L k A.2) (up L k A.2) tg2) := hp3; clear hp3)
    | (go_at_call 13; refine (QS.out _ (by first | exact Fr.refl _ _ | exact (Fr.refl _ _).drew)).mono ?_; rintro e w2 ⟨rfl, kc2, tg2, ps⟩; have PS : Hid (Pw w w2 wb (N + 1) b r c (up L k A.2) L tg2 ∧ tg2 W.heap.size = 9 ∧ w2.heap[W.heap.size]? = some (opc 3 on x y)) := ps; clear ps)
    | (go_at_call 14; refine (QR.out _ (by first | exact Fr.refl _ _ | exact (Fr.refl _ _).drew)).mono ?_; rintro e w2 ⟨rfl, kc2, tg2, pr⟩; have PR : Hid (Pw w w2 wb N b r c L (up L k A.2) tg2 ∧ tg2 W.heap.size = 9 ∧ w2.heap[W.heap.size]? = some (opc 3 on x y)) := pr; clear pr))
  all_goals
    go_wp2
    go_ret
    obtain ⟨tg', p⟩ := HP.out
    exact ⟨by simp, _, _, _, _, _, p⟩
end RC
end Go.Proofs.YtgdjoaiahigjpaaGreatDoor
