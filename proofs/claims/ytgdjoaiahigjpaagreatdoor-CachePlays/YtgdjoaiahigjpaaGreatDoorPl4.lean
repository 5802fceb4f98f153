/- CachePlays: the other kinds of calls. -/
import Derived.Test.YtgdjoaiahigjpaaGreatDoorPl3
import Derived.Deep.RegionWith
namespace Go.Proofs.YtgdjoaiahigjpaaGreatDoor
namespace RC
open Go.RowKit
open CI (Cx getA putA dropA kok)
set_option linter.unusedVariables false
set_option linter.unusedSimpArgs false
set_option maxRecDepth 100000 in
set_option maxHeartbeats 1000000 in
theorem does_put {w W : World} {wb N : Nat} {b r c : Nat → Nat} {L : Nat → LT} {tg : Nat → Nat} (h : Pw w W wb N b r c L L tg) (on x y : Int) (hx : kok x) (hN : N < 4611686018427387900) :
    Calls Tryz.prog 6 #[ptr wb, .agg #[.int .i64 2, .int .i64 on, .int .i64 x, .int .i64 y]] W fun e V => e = .returned (.bool true) ∧ ∃ b' r' c' L' tg', Pw w V wb (N + 2) b' r' c' L' L' tg' := by
  obtain ⟨k, hk, hand⟩ := and1 on
  obtain ⟨w1, hw1⟩ : ∃ w1, W.alloc (opc 2 on x y) = w1 := ⟨_, rfl⟩
  have b1 : w1.heap[W.heap.size]? = some (opc 2 on x y) := by rw [← hw1]; exact heap_new _ _
  have P1 := h.tag9.go (show Nw W w1 by rw [← hw1]; exact (Fr.refl _ _).alloc _)
  have t9 : tgn tg W.heap.size 9 W.heap.size = 9 := tgn_ge (Nat.le_refl _)
  generalize tgn tg W.heap.size 9 = tg1 at P1 t9
  obtain ⟨hl, hc⟩ := P1.lens hk
  obtain ⟨e0, e1⟩ := h.cell hk
  have lw := heap_lt h.blk
  have HB : Hid (w1.heap[W.heap.size]? = some (opc 2 on x y)) := b1
  have HW1 : Hid (W.alloc (opc 2 on x y) = w1) := hw1
  have hki : (k : Int) < 2 := by omega
  have hk0 : (0 : Int) ≤ (k : Int) := by omega
  have q1 := P1.putS hk x y hx hN
  generalize hA : putA (c k) (L k) x y = A at q1
  have HA : Hid (putA (c k) (L k) x y = A) := hA
  have HL : Hid ((L k).length ≤ 1500 ∧ c k ≤ 1024) := ⟨by omega, hc⟩
  clear h b1 hw1 hA P1 hl hc
  go_enter Tryz.func6, Tryz.ntmps6
  go_wp2_with fail
  rw [HW1.out]
  refine q1.mono ?_
  rintro e w2 ⟨rfl, P2, f2⟩
  have b2 := (f2.block _ (heap_lt HB.out) (fun e => by omega)).trans HB.out
  clear e0 e1 lw
  obtain ⟨d0, d1, d2, d3, lx⟩ := opc_cs b2
  have q2 := P2.putR hk x y HL.out.1 HL.out.2
  rw [HA.out] at q2
  clear P2 f2 q1 b2
  go_wp2_with fail
  refine q2.mono ?_
  rintro e w3 ⟨rfl, P3, f3⟩
  have HP : Hid (Pw w w3 wb (N + 2) b r c (up L k A.2.2) (up L k A.2.2) _) := P3
  have z1 : (A.1 == A.1) = true := by simp
  have z2 : (A.2.1 == A.2.1) = true := by simp
  clear q2 P3 f3
  go_wp2
  go_ret
  exact ⟨by simp, _, _, _, _, _, HP.out⟩
set_option maxRecDepth 100000 in
set_option maxHeartbeats 1000000 in
theorem does_keys {w W : World} {wb N : Nat} {b r c : Nat → Nat} {L : Nat → LT} {tg : Nat → Nat} (h : Pw w W wb N b r c L L tg) (on x y : Int) :
    Calls Tryz.prog 6 #[ptr wb, .agg #[.int .i64 5, .int .i64 on, .int .i64 x, .int .i64 y]] W fun e V => e = .returned (.bool true) ∧ ∃ b' r' c' L' tg', Pw w V wb (N + 2) b' r' c' L' L' tg' := by
  obtain ⟨k, hk, hand⟩ := and1 on
  obtain ⟨w1, hw1⟩ : ∃ w1, W.alloc (opc 5 on x y) = w1 := ⟨_, rfl⟩
  have b1 : w1.heap[W.heap.size]? = some (opc 5 on x y) := by rw [← hw1]; exact heap_new _ _
  have P1 := h.tag9.go (show Nw W w1 by rw [← hw1]; exact (Fr.refl _ _).alloc _)
  have t9 : tgn tg W.heap.size 9 W.heap.size = 9 := tgn_ge (Nat.le_refl _)
  generalize tgn tg W.heap.size 9 = tg1 at P1 t9
  obtain ⟨hl, hc⟩ := P1.lens hk
  obtain ⟨e0, e1⟩ := h.cell hk
  have lw := heap_lt h.blk
  have HB : Hid (w1.heap[W.heap.size]? = some (opc 5 on x y)) := b1
  have HW1 : Hid (W.alloc (opc 5 on x y) = w1) := hw1
  have hki : (k : Int) < 2 := by omega
  have hk0 : (0 : Int) ≤ (k : Int) := by omega
  have q1 := looks_any P1 hk
  have HP : Hid (Pw w w1 wb N b r c L L tg1) := P1
  clear h b1 hw1 P1 hl hc
  go_enter Tryz.func6, Tryz.ntmps6
  go_wp2_with fail
  rw [HW1.out]
  refine q1.mono ?_
  rintro e w2 ⟨rfl, n2⟩
  have HP2 : Hid (Pw w w2 wb (N + 2) b r c L L tg1) := (HP.out.go n2).more (by omega)
  clear q1 n2
  go_wp2
  go_ret
  exact ⟨rfl, _, _, _, _, _, HP2.out⟩
set_option maxRecDepth 100000 in
set_option maxHeartbeats 1000000 in
theorem does_else {w W : World} {wb N : Nat} {b r c : Nat → Nat} {L : Nat → LT} {tg : Nat → Nat} (h : Pw w W wb N b r c L L tg) (kd : Int) (on x y : Int) (h1 : kd ≠ 1) (h2 : kd ≠ 2) (h3 : kd ≠ 3) (h4 : kd ≠ 4) (h5 : kd ≠ 5) :
    Calls Tryz.prog 6 #[ptr wb, .agg #[.int .i64 kd, .int .i64 on, .int .i64 x, .int .i64 y]] W fun e V => e = .returned (.bool true) ∧ ∃ b' r' c' L' tg', Pw w V wb (N + 2) b' r' c' L' L' tg' := by
  obtain ⟨k, hk, hand⟩ := and1 on
  obtain ⟨w1, hw1⟩ : ∃ w1, W.alloc (opc kd on x y) = w1 := ⟨_, rfl⟩
  have b1 : w1.heap[W.heap.size]? = some (opc kd on x y) := by rw [← hw1]; exact heap_new _ _
  have P1 := h.tag9.go (show Nw W w1 by rw [← hw1]; exact (Fr.refl _ _).alloc _)
  have t9 : tgn tg W.heap.size 9 W.heap.size = 9 := tgn_ge (Nat.le_refl _)
  generalize tgn tg W.heap.size 9 = tg1 at P1 t9
  obtain ⟨hl, hc⟩ := P1.lens hk
  obtain ⟨e0, e1⟩ := h.cell hk
  have lw := heap_lt h.blk
  have HB : Hid (w1.heap[W.heap.size]? = some (opc kd on x y)) := b1
  have HW1 : Hid (W.alloc (opc kd on x y) = w1) := hw1
  have hki : (k : Int) < 2 := by omega
  have hk0 : (0 : Int) ≤ (k : Int) := by omega
  have HP : Hid (Pw w w1 wb (N + 2) b r c L L tg1) := P1.more (by omega)
  have g1 : (kd == 1) = false := by simpa using h1
  have g2 : (kd == 2) = false := by simpa using h2
  have g3 : (kd == 3) = false := by simpa using h3
  have g4 : (kd == 4) = false := by simpa using h4
  have g5 : (kd == 5) = false := by simpa using h5
  clear h b1 hw1 P1 hl hc
  go_enter Tryz.func6, Tryz.ntmps6
  go_wp2
  rw [HW1.out]
  go_ret
  exact ⟨rfl, _, _, _, _, _, HP.out⟩
theorem Pw.made {w W W1 W2 W3 : World} {wb N : Nat} {b r c : Nat → Nat} {LS LR : Nat → LT} {tg : Nat → Nat} (h : Pw w W wb N b r c LS LR tg) {k : Nat} (hk : k < 2) {bx ry cap : Nat} (n1 : Nw W W1) (n2 : Nw W1 W2) (n3 : Nw W2 W3) (hx : Cx W1 (fun q => W.heap.size ≤ q) bx 0 cap []) (hy : Dc W2 (fun q => W1.heap.size ≤ q) ry cap []) :
    ∃ tg', Pw w ((W3.setCell ⟨wb, k, none⟩ (ptr bx)).setCell ⟨wb, 2 + k, none⟩ (ptr ry)) wb N (up b k bx) (up r k ry) (up c k cap) (up LS k []) (up LR k []) tg' := by
  have s0 := h.nw.size
  have s1 := n1.size
  have s2 := n2.size
  have s3 := n3.size
  have hwb := heap_lt h.blk
  have n13 := (n1.tr n2).tr n3
  have hww : ¬ wb < w.heap.size := fun e => by have := h.old wb e; have := h.twb; omega
  have f4 : Fr (fun q => q = wb) W3 ((W3.setCell ⟨wb, k, none⟩ (ptr bx)).setCell ⟨wb, 2 + k, none⟩ (ptr ry)) := Fr.setCell (Fr.setCell (Fr.refl (fun q => q = wb) W3) ⟨wb, k, none⟩ (ptr bx) (fun _ => rfl)) ⟨wb, 2 + k, none⟩ (ptr ry) (fun _ => rfl)
  have bw := (n13.block wb hwb (fun e => e)).trans h.blk
  refine ⟨fun q => if q < W.heap.size then tg q else if q < W1.heap.size then k else if q < W2.heap.size then 2 + k else 9, ?_, ?_, ?_, ?_, ?_, ?_⟩
  · exact (h.nw.tr n13).trans f4 (fun q hq e => by subst e; exact hww hq)
  · intro q hq
    show (if q < W.heap.size then tg q else _) = 9
    rw [if_pos (by omega)]
    exact h.old q hq
  · rw [heap_set (heap_set bw _)]
    have hk2 : k = 0 ∨ k = 1 := by omega
    rcases hk2 with rfl | rfl <;> simp [wcs, up]
  · show (if wb < W.heap.size then tg wb else _) = 4
    rw [if_pos hwb]
    exact h.twb
  · intro j hj
    by_cases e : j = k
    · subst e
      rw [up_same, up_same, up_same]
      have h1 := (hx.mono (S' := fun q => (if q < W.heap.size then tg q else if q < W1.heap.size then j else if q < W2.heap.size then 2 + j else 9) = j) (fun q hq e => by rw [if_neg (by omega), if_pos hq]) (Nat.zero_le N)).nw (n2.tr n3)
      refine h1.fr f4 (fun q hq e1 e2 => ?_)
      subst e2
      rw [if_pos hwb] at e1
      have := h.twb
      omega
    · rw [up_ne _ _ e, up_ne _ _ e, up_ne _ _ e]
      have h1 := ((h.cs j hj).mono (S' := fun q => (if q < W.heap.size then tg q else if q < W1.heap.size then k else if q < W2.heap.size then 2 + k else 9) = j) (fun q hq e => by rw [if_pos hq]; exact e) (Nat.le_refl _)).nw n13
      refine h1.fr f4 (fun q hq e1 e2 => ?_)
      subst e2
      rw [if_pos hwb] at e1
      have := h.twb
      omega
  · intro j hj
    by_cases e : j = k
    · subst e
      rw [up_same, up_same, up_same]
      have h1 := (hy.mono (S' := fun q => (if q < W.heap.size then tg q else if q < W1.heap.size then j else if q < W2.heap.size then 2 + j else 9) = 2 + j) (fun q hq e => by rw [if_neg (by omega), if_neg (by omega), if_pos hq])).nw n3
      refine h1.fr f4 (fun q hq e1 e2 => ?_)
      subst e2
      rw [if_pos hwb] at e1
      have := h.twb
      omega
    · rw [up_ne _ _ e, up_ne _ _ e, up_ne _ _ e]
      have h1 := ((h.ds j hj).mono (S' := fun q => (if q < W.heap.size then tg q else if q < W1.heap.size then k else if q < W2.heap.size then 2 + k else 9) = 2 + j) (fun q hq e => by rw [if_pos hq]; exact e)).nw n13
      refine h1.fr f4 (fun q hq e1 e2 => ?_)
      subst e2
      rw [if_pos hwb] at e1
      have := h.twb
      omega
set_option maxRecDepth 100000 in
set_option maxHeartbeats 1000000 in
theorem does_new {w W : World} {wb N : Nat} {b r c : Nat → Nat} {L : Nat → LT} {tg : Nat → Nat} (h : Pw w W wb N b r c L L tg) {B : Nat} {a : Nat → Addr} (hS : Sent B w a) (on x y : Int) :
    Calls Tryz.prog 6 #[ptr wb, .agg #[.int .i64 4, .int .i64 on, .int .i64 x, .int .i64 y]] W fun e V => e = .returned (.bool true) ∧ ∃ b' r' c' L' tg', Pw w V wb (N + 2) b' r' c' L' L' tg' := by
  obtain ⟨k, hk, hand⟩ := and1 on
  obtain ⟨w1, hw1⟩ : ∃ w1, W.alloc (opc 4 on x y) = w1 := ⟨_, rfl⟩
  have b1 : w1.heap[W.heap.size]? = some (opc 4 on x y) := by rw [← hw1]; exact heap_new _ _
  have P1 := h.tag9.go (show Nw W w1 by rw [← hw1]; exact (Fr.refl _ _).alloc _)
  have t9 : tgn tg W.heap.size 9 W.heap.size = 9 := tgn_ge (Nat.le_refl _)
  generalize tgn tg W.heap.size 9 = tg1 at P1 t9
  obtain ⟨hl, hc⟩ := P1.lens hk
  obtain ⟨e0, e1⟩ := h.cell hk
  have lw := heap_lt h.blk
  have HB : Hid (w1.heap[W.heap.size]? = some (opc 4 on x y)) := b1
  have HW1 : Hid (W.alloc (opc 4 on x y) = w1) := hw1
  have hki : (k : Int) < 2 := by omega
  have hk0 : (0 : Int) ≤ (k : Int) := by omega
  have HS : Hid (∀ V, Nw w V → Sent B V a) := fun V nV => hS.fr nV (fun _ _ f => f)
  have HP : Hid (Pw w w1 wb N b r c L L tg1) := P1
  clear hS
  by_cases hcap : x < 0 ∨ 1024 < x
  · have q1 := CI.new_no (w := w1) x hcap (HS.out w1 P1.nw)
    have q2 : ∀ V, Calls Tryz.prog 5 #[.int .i64 x] V fun e w' => e = .returned (.tuple #[.pointer none, .agg #[.int .i64 2, .int .i64 (-1)]]) ∧ Nw V w' := fun V => dnew_no x hcap
    have Q2 : Hid (∀ V, Calls Tryz.prog 5 #[.int .i64 x] V fun e w' => e = .returned (.tuple #[.pointer none, .agg #[.int .i64 2, .int .i64 (-1)]]) ∧ Nw V w') := q2
    clear h b1 hw1 P1 hl hc hcap q2
    go_enter Tryz.func6, Tryz.ntmps6
    go_wp2_with fail
    rw [HW1.out]
    refine q1.mono ?_
    rintro e w2 ⟨rfl, n2⟩
    have N2 : Hid (Nw w1 w2) := n2
    obtain ⟨d0, d1, d2, d3, lx⟩ := opc_cs ((n2.block _ (heap_lt HB.out) (fun e => e)).trans HB.out)
    clear n2 q1 e0 e1 lw
    go_wp2_with fail
    refine (Q2.out w2).mono ?_
    rintro e w3 ⟨rfl, n3⟩
    have N3 : Hid (Nw w1 w3) := N2.out.tr n3
    clear n3 d0 d1 d2 d3 lx
    have QS : Hid (∀ V, Nw w3 V → Calls Tryz.prog 15 #[sen (a 1), .agg #[.int .i64 2, .int .i64 (-1)]] V fun e w' => e = .returned (.bool true) ∧ Nw V w') := fun V nV => by
      have := same_any (HS.out V ((HP.out.nw.tr N3.out).tr nV)) (show EV V a (sen (a 1)) 2 none from .inr (.inl ⟨1, by decide, rfl, rfl, rfl⟩)) 2 (-1)
      exact this
    go_wp2_with fail
    refine (QS.out _ ((Fr.refl _ _).alloc _)).mono ?_
    rintro e w4 ⟨rfl, n4⟩
    have HP4 : Hid (Pw w w4 wb (N + 2) b r c L L tg1) := (HP.out.go (Nw.tr (N3.out.alloc _) n4)).more (by omega)
    clear n4
    go_wp2
    go_ret
    exact ⟨rfl, _, _, _, _, _, HP4.out⟩
  · obtain ⟨cp, rfl⟩ : ∃ cp : Nat, x = cp := ⟨x.toNat, by omega⟩
    have hcp : cp ≤ 1024 := by omega
    have q1 := CI.new_any (w := w1) cp hcp
    have Q2 : Hid (∀ V, Calls Tryz.prog 5 #[.int .i64 (cp : Int)] V fun e w' => ∃ b, e = .returned (.tuple #[.pointer (some ⟨b, 0, none⟩), .agg #[.int .i64 0, .int .i64 0]]) ∧ Dc w' (fun k => V.heap.size ≤ k) b cp [] ∧ Nw V w') := fun V => dnew_yes cp hcp
    clear h b1 hw1 P1 hl hc hcap
    go_enter Tryz.func6, Tryz.ntmps6
    go_wp2_with fail
    rw [HW1.out]
    refine q1.mono ?_
    rintro e w2 ⟨bx, rfl, cx, n2⟩
    have N2 : Hid (Nw w1 w2) := n2
    have CX : Hid (Cx w2 (fun q => w1.heap.size ≤ q) bx 0 cp []) := cx
    obtain ⟨d0, d1, d2, d3, lx⟩ := opc_cs ((n2.block _ (heap_lt HB.out) (fun e => e)).trans HB.out)
    clear n2 q1 e0 e1 lw cx
    go_wp2_with fail
    refine (Q2.out w2).mono ?_
    rintro e w3 ⟨ry, rfl, dc, n3⟩
    have N23 : Hid (Nw w2 w3) := n3
    have N3 : Hid (Nw w1 w3) := N2.out.tr n3
    have DC : Hid (Dc w3 (fun q => w2.heap.size ≤ q) ry cp []) := dc
    clear n3 d0 d1 d2 d3 lx dc
    have QS : Hid (∀ V, Nw w3 V → Calls Tryz.prog 15 #[.nilIface, .agg #[.int .i64 0, .int .i64 0]] V fun e w' => e = .returned (.bool true) ∧ Nw V w') := fun V nV => by
      have := same_any (HS.out V ((HP.out.nw.tr N3.out).tr nV)) (show EV V a .nilIface 0 none from .inl ⟨rfl, rfl, rfl⟩) 0 0
      exact this
    go_wp2_with fail
    refine (QS.out _ ((Fr.refl _ _).alloc _)).mono ?_
    rintro e w4 ⟨rfl, n4⟩
    have N34 : Hid (Nw w3 w4) := ((Fr.refl _ _).alloc _).trans n4 (fun _ _ q => q)
    clear n4
    have HF : Hid (∃ tg', Pw w ((w4.setCell ⟨wb, k, none⟩ (ptr bx)).setCell ⟨wb, 2 + k, none⟩ (ptr ry)) wb (N + 2) (up b k bx) (up r k ry) (up c k cp) (up L k []) (up L k []) tg') := by
      obtain ⟨tg', p⟩ := HP.out.made hk N2.out N23.out N34.out CX.out DC.out
      exact ⟨tg', p.more (by omega)⟩
    have P4 := HP.out.go (N3.out.tr N34.out)
    have b4 := P4.blk
    have l4 := heap_lt b4
    have fz : ∀ o, w4.frozen? ⟨wb, o, none⟩ = false := fun o => frozen_of b4 o
    have m1 := (P4.cell hk).1
    have m2 := (P4.cell hk).2
    have m3 : (w4.setCell ⟨wb, k, none⟩ (ptr bx)).cell? ⟨wb, 2 + k, none⟩ = some (ptr (r k)) := by
      have b5 := heap_set (o := k) b4 (ptr bx)
      rw [cell_of b5]
      have hk2 : k = 0 ∨ k = 1 := by omega
      rcases hk2 with rfl | rfl <;> simp
    have m4 : (w4.setCell ⟨wb, k, none⟩ (ptr bx)).frozen? ⟨wb, 2 + k, none⟩ = false := frozen_of (heap_set b4 _) _
    clear P4 b4
    go_wp2
    go_ret
    obtain ⟨tg', p⟩ := HF.out
    exact ⟨rfl, _, _, _, _, _, p⟩
end RC
end Go.Proofs.YtgdjoaiahigjpaaGreatDoor
