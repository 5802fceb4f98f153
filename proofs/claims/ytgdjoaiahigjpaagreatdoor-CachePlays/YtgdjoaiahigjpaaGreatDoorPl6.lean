/- CachePlays. -/
import Derived.Test.YtgdjoaiahigjpaaGreatDoorPl4
import Derived.Test.YtgdjoaiahigjpaaGreatDoorPl5
namespace Go.Proofs.YtgdjoaiahigjpaaGreatDoor
namespace RC
open Go.RowKit
open CI (Cx getA putA dropA kok)
set_option linter.unusedVariables false
set_option linter.unusedSimpArgs false
theorem does_any {w W : World} {wb N : Nat} {b r c : Nat → Nat} {L : Nat → LT} {tg : Nat → Nat} (h : Pw w W wb N b r c L L tg) {B : Nat} {a : Nat → Addr} (hS : Sent B w a) (kd on x y : Int) (hx : kok x) (hN : N < 4611686018427387900) :
    Calls Tryz.prog 6 #[ptr wb, .agg #[.int .i64 kd, .int .i64 on, .int .i64 x, .int .i64 y]] W fun e V => e = .returned (.bool true) ∧ ∃ b' r' c' L' tg', Pw w V wb (N + 2) b' r' c' L' L' tg' := by
  by_cases h1 : kd = 1
  · subst h1; exact does_get h on x y hx
  by_cases h2 : kd = 2
  · subst h2; exact does_put h on x y hx hN
  by_cases h3 : kd = 3
  · subst h3; exact does_drop h on x y hx hN
  by_cases h4 : kd = 4
  · subst h4; exact does_new h hS on x y
  by_cases h5 : kd = 5
  · subst h5; exact does_keys h on x y
  exact does_else h kd on x y h1 h2 h3 h4 h5
def pz (b : Nat → Nat) (m j : Nat) : Value := if j < m then ptr (b j) else .pointer none
/-- The World while its caches are made. -/
structure Pq (w W : World) (wb m : Nat) (b r : Nat → Nat) (tg : Nat → Nat) : Prop where
  nw : Nw w W
  old : ∀ q, q < w.heap.size → tg q = 9
  blk : W.heap[wb]? = some (.cells #[pz b m 0, pz b m 1, pz r m 0, pz r m 1] 29)
  twb : tg wb = 4
  cs : ∀ k, k < m → Cx W (fun q => tg q = k) (b k) 0 3 []
  ds : ∀ k, k < m → Dc W (fun q => tg q = 2 + k) (r k) 3 []
theorem Pq.full {w W : World} {wb : Nat} {b r : Nat → Nat} {tg : Nat → Nat} (h : Pq w W wb 2 b r tg) : Pw w W wb 0 b r (fun _ => 3) (fun _ => []) (fun _ => []) tg :=
  ⟨h.nw, h.old, h.blk, h.twb, h.cs, h.ds⟩
theorem Pq.made {w W W1 W2 : World} {wb m : Nat} {b r : Nat → Nat} {tg : Nat → Nat} (h : Pq w W wb m b r tg) (hm : m < 2) {bx ry : Nat} (n1 : Nw W W1) (hx : Cx W1 (fun q => W.heap.size ≤ q) bx 0 3 []) (n2 : Nw (W1.setCell ⟨wb, m, none⟩ (ptr bx)) W2) (hy : Dc W2 (fun q => W1.heap.size ≤ q) ry 3 []) :
    ∃ tg', Pq w (W2.setCell ⟨wb, 2 + m, none⟩ (ptr ry)) wb (m + 1) (up b m bx) (up r m ry) tg' := by
  have s0 := h.nw.size
  have s1 := n1.size
  have s2 : W1.heap.size ≤ W2.heap.size := by have := n2.size; simpa [World.setCell] using this
  have hwb := heap_lt h.blk
  have hww : ¬ wb < w.heap.size := fun e => by have := h.old wb e; have := h.twb; omega
  have b1 := (n1.block wb hwb (fun e => e)).trans h.blk
  have f1 : Fr (fun q => q = wb) W1 (W1.setCell ⟨wb, m, none⟩ (ptr bx)) := Fr.setCell (Fr.refl (fun q => q = wb) W1) ⟨wb, m, none⟩ (ptr bx) (fun _ => rfl)
  have f4 : Fr (fun q => q = wb) W2 (W2.setCell ⟨wb, 2 + m, none⟩ (ptr ry)) := Fr.setCell (Fr.refl (fun q => q = wb) W2) ⟨wb, 2 + m, none⟩ (ptr ry) (fun _ => rfl)
  have f12 : Fr (fun q => q = wb) W1 (W2.setCell ⟨wb, 2 + m, none⟩ (ptr ry)) := (f1.trans (n2.mono (S' := fun q => q = wb) (fun _ _ e => e.elim)) (fun _ _ e => e)).trans f4 (fun _ _ e => e)
  have f02 : Fr (fun q => q = wb) W (W2.setCell ⟨wb, 2 + m, none⟩ (ptr ry)) := (n1.mono (S' := fun q => q = wb) (fun _ _ e => e.elim)).trans f12 (fun _ _ e => e)
  have bw := (n2.block wb (by have := heap_lt b1; simpa [World.setCell] using this) (fun e => e)).trans (heap_set b1 (ptr bx) (o := m))
  refine ⟨fun q => if q < W.heap.size then tg q else if q < W1.heap.size then m else 2 + m, ?_, ?_, ?_, ?_, ?_, ?_⟩
  · exact h.nw.trans f02 (fun q hq e => by subst e; exact hww hq)
  · intro q hq
    show (if q < W.heap.size then tg q else _) = 9
    rw [if_pos (by omega)]
    exact h.old q hq
  · rw [heap_set bw]
    have hm2 : m = 0 ∨ m = 1 := by omega
    rcases hm2 with rfl | rfl <;> simp [pz, up]
  · show (if wb < W.heap.size then tg wb else _) = 4
    rw [if_pos hwb]
    exact h.twb
  · intro j hj
    by_cases e : j = m
    · subst e
      rw [up_same]
      have h1 := hx.mono (S' := fun q => (if q < W.heap.size then tg q else if q < W1.heap.size then j else 2 + j) = j) (fun q hq e => by rw [if_neg (by omega), if_pos hq]) (Nat.le_refl 0)
      refine h1.fr f12 (fun q hq e1 e2 => ?_)
      subst e2
      rw [if_pos hwb] at e1
      have := h.twb
      omega
    · rw [up_ne _ _ e]
      have h1 := (h.cs j (by omega)).mono (S' := fun q => (if q < W.heap.size then tg q else if q < W1.heap.size then m else 2 + m) = j) (fun q hq e => by rw [if_pos hq]; exact e) (Nat.le_refl _)
      refine h1.fr f02 (fun q hq e1 e2 => ?_)
      subst e2
      rw [if_pos hwb] at e1
      have := h.twb
      omega
  · intro j hj
    by_cases e : j = m
    · subst e
      rw [up_same]
      have h1 := hy.mono (S' := fun q => (if q < W.heap.size then tg q else if q < W1.heap.size then j else 2 + j) = 2 + j) (fun q hq e => by rw [if_neg (by omega), if_neg (by omega)])
      refine h1.fr f4 (fun q hq e1 e2 => ?_)
      subst e2
      rw [if_pos hwb] at e1
      have := h.twb
      omega
    · rw [up_ne _ _ e]
      have h1 := (h.ds j (by omega)).mono (S' := fun q => (if q < W.heap.size then tg q else if q < W1.heap.size then m else 2 + m) = 2 + j) (fun q hq e => by rw [if_pos hq]; exact e)
      refine h1.fr f02 (fun q hq e1 e2 => ?_)
      subst e2
      rw [if_pos hwb] at e1
      have := h.twb
      omega
abbrev OT := Int × Int × Int × Int
def o0t : OT := (0, 0, 0, 0)
/-- A script in memory. -/
def Ops (w : World) (p : Option Addr) (ls : List OT) : Prop := ∀ j, j < ls.length → ∃ g o, p = some ⟨g, o, none⟩ ∧ w.cell? ⟨g, o + j * 4, none⟩ = some (.int .i64 (ls.getD j o0t).1) ∧ w.cell? ⟨g, o + j * 4 + 1, none⟩ = some (.int .i64 (ls.getD j o0t).2.1) ∧ w.cell? ⟨g, o + j * 4 + 2, none⟩ = some (.int .i64 (ls.getD j o0t).2.2.1) ∧ w.cell? ⟨g, o + j * 4 + 3, none⟩ = some (.int .i64 (ls.getD j o0t).2.2.2)
set_option maxRecDepth 100000 in
set_option maxHeartbeats 4000000 in
theorem plays13_any {B : Nat} {w : World} {a : Nat → Addr} (hS : Sent B w a) (one two : Int) {q : Option Addr} {U : List OT} (hU : Ops w q U) (hl : (∀ u ∈ U, kok u.2.2.1) ∧ U.length ≤ 140737488355328) (cq : Nat) :
    Calls Tryz.prog 3 #[.int .i64 one, .int .i64 two, .slice q U.length cq] w fun e w' => e = .returned (.bool true) ∧ Nw w w' := by
  have HS : Hid (Sent B w a) := hS
  have HU : Hid (Ops w q U) := hU
  have HL : Hid (∀ u ∈ U, kok u.2.2.1) := hl.1
  obtain ⟨n, hn⟩ : ∃ n, n = U.length := ⟨_, rfl⟩
  have Hn : Hid (n = U.length) := hn
  have hnb := hl.2
  rw [← hn] at hnb ⊢
  clear hU hl hn hS
  obtain ⟨w1, hw1⟩ : ∃ w1, w.alloc (.cells #[.pointer none, .pointer none, .pointer none, .pointer none] 29) = w1 := ⟨_, rfl⟩
  have HW1 : Hid (w.alloc (.cells #[.pointer none, .pointer none, .pointer none, .pointer none] 29) = w1) := hw1
  have PQ0 : Hid (Pq w w1 w.heap.size 0 (fun _ => 0) (fun _ => 0) (fun q => if q < w.heap.size then 9 else 4)) := by
    refine ⟨by rw [← hw1]; exact (Fr.refl _ _).alloc _, fun q hq => by show (if _ then 9 else 4) = 9; rw [if_pos hq], by rw [← hw1]; exact heap_new _ _, by show (if _ then 9 else 4) = 4; rw [if_neg (by omega)], fun k hk => by omega, fun k hk => by omega⟩
  clear hw1
  have QN : Hid (∀ V, Calls Tryz.prog 4 #[.int .i64 3] V fun e w' => ∃ b, e = .returned (.tuple #[.pointer (some ⟨b, 0, none⟩), .nilIface]) ∧ Cx w' (fun k => V.heap.size ≤ k) b 0 3 [] ∧ Nw V w') := fun V => CI.new_any 3 (by decide)
  have QD : Hid (∀ V, Calls Tryz.prog 5 #[.int .i64 3] V fun e w' => ∃ b, e = .returned (.tuple #[.pointer (some ⟨b, 0, none⟩), .agg #[.int .i64 0, .int .i64 0]]) ∧ Dc w' (fun k => V.heap.size ≤ k) b 3 [] ∧ Nw V w') := fun V => dnew_yes 3 (by decide)
  go_enter Tryz.func3, Tryz.ntmps3
  go_wp2
  rw [HW1.out]
  go_loopw [8] (fun v8 wx => ∃ (k : Nat) (b r tg : Nat → Nat), k ≤ 2 ∧ v8 = .int .i64 k ∧ Pq w wx w.heap.size k b r tg) (fun v8 _ => 2 - (intOf v8).toNat)
  case atStart => exact ⟨0, _, _, _, by omega, rfl, PQ0.out⟩
  case round =>
    obtain ⟨k, b, r, tg, hk, rfl, pq⟩ := hrel
    clear PQ0
    have HPQ : Hid (Pq w wr w.heap.size k b r tg) := pq
    have hk3 : k = 2 ∨ k < 2 := by omega
    clear pq
    rcases hk3 with rfl | hk2
    · have PW0 : Hid (Pw w wr w.heap.size 0 b r (fun _ => 3) (fun _ => []) (fun _ => []) tg) := HPQ.out.full
      clear HPQ QN QD
      obtain ⟨wb, hwb⟩ : ∃ z, w.heap.size = z := ⟨_, rfl⟩
      rw [hwb] at PW0 ⊢
      have PW : Hid (Pw w wr wb 0 b r (fun _ => 3) (fun _ => []) (fun _ => []) tg) := PW0
      clear PW0 hwb
      go_wp2_with fail
      refine (does_new PW.out HS.out 0 one 0).mono ?_
      rintro e w3 ⟨rfl, b3, r3, c3, L3, tg3, p3⟩
      have P3 : Hid (Pw w w3 wb 2 b3 r3 c3 L3 L3 tg3) := p3
      clear p3 PW
      go_wp2_with fail
      refine (does_new P3.out HS.out 1 two 0).mono ?_
      rintro e w4 ⟨rfl, b4, r4, c4, L4, tg4, p4⟩
      have P4 : Hid (Pw w w4 wb 4 b4 r4 c4 L4 L4 tg4) := p4
      clear p4 P3
      go_wp2
      go_loopw [9] (fun v9 wx => ∃ (i : Nat) (b r c : Nat → Nat) (L : Nat → LT) (tg : Nat → Nat), i ≤ n ∧ v9 = .int .i64 i ∧ Pw w wx wb (2 * i + 4) b r c L L tg) (fun v9 _ => n - (intOf v9).toNat)
      case atStart => exact ⟨0, _, _, _, _, _, by omega, rfl, P4.out⟩
      case round =>
        obtain ⟨i, b, r, c, L, tg, hi, rfl, pw⟩ := hrel
        clear P4
        have HP : Hid (Pw w wr wb (2 * i + 4) b r c L L tg) := pw
        clear pw
        by_cases hlt : i < n
        · have hii : (i : Int) < (n : Int) := by omega
          obtain ⟨g, o, rfl, x0, x1, x2, x3⟩ := HU.out i (by rw [← Hn.out]; exact hlt)
          have hkx : kok (U.getD i o0t).2.2.1 := HL.out _ (by rw [List.getD_eq_getElem?_getD, List.getElem?_eq_getElem (by rw [← Hn.out]; exact hlt)]; simp)
          generalize (U.getD i o0t).1 = kd at x0
          generalize (U.getD i o0t).2.1 = on at x1
          generalize (U.getD i o0t).2.2.1 = kx at x2 hkx
          generalize (U.getD i o0t).2.2.2 = ky at x3
          have HC : Hid (∀ V, Nw w V → V.cell? ⟨g, o + i * 4, none⟩ = some (.int .i64 kd) ∧ V.cell? ⟨g, o + i * 4 + 1, none⟩ = some (.int .i64 on) ∧ V.cell? ⟨g, o + i * 4 + 2, none⟩ = some (.int .i64 kx) ∧ V.cell? ⟨g, o + i * 4 + 3, none⟩ = some (.int .i64 ky)) := fun V nV => ⟨nV.cellOf x0, nV.cellOf x1, nV.cellOf x2, nV.cellOf x3⟩
          have q1 := does_any HP.out HS.out kd on kx ky hkx (by omega)
          obtain ⟨d0, d1, d2, d3⟩ := HC.out wr HP.out.nw
          clear x0 x1 x2 x3 hkx
          go_wp2_with fail
          refine q1.mono ?_
          rintro e w5 ⟨rfl, b5, r5, c5, L5, tg5, p5⟩
          have P5 : Hid (Pw w w5 wb (2 * i + 4 + 2) b5 r5 c5 L5 L5 tg5) := p5
          clear d0 d1 d2 d3 q1
          obtain ⟨d0, d1, d2, d3⟩ := HC.out w5 p5.nw
          obtain ⟨k, hk, hand⟩ := and1 on
          have q2 := looks_any p5 hk
          clear p5
          go_wp2_with fail
          refine q2.mono ?_
          rintro e w6 ⟨rfl, n6⟩
          have P6 : Hid (Pw w w6 wb (2 * i + 4 + 2) b5 r5 c5 L5 L5 tg5) := P5.out.go n6
          clear n6 q2 d0 d1 d2 d3
          go_wp2
          exact ⟨⟨i + 1, _, _, _, _, _, by omega, by go_num, P6.out.more (by omega)⟩, by simp [intOf]; omega⟩
        · have hii : ¬ (i : Int) < (n : Int) := by omega
          go_wp2_with fail
          refine (looks_any HP.out (k := 0) (by decide)).mono ?_
          rintro e w5 ⟨rfl, n5⟩
          have P5 : Hid (Pw w w5 wb (2 * i + 4) b r c L L tg) := HP.out.go n5
          clear n5 HP
          go_wp2_with fail
          refine (looks_any P5.out (k := 1) (by decide)).mono ?_
          rintro e w6 ⟨rfl, n6⟩
          have N6 : Hid (Nw w w6) := P5.out.nw.tr n6
          clear n6 P5
          go_wp2
          go_ret
          exact ⟨rfl, N6.out⟩
    · have hki : (k : Int) < 2 := by omega
      have hk0 : (0 : Int) ≤ (k : Int) := by omega
      obtain ⟨wa, hwa⟩ : ∃ z, z = wr := ⟨_, rfl⟩
      subst hwa
      have HCB : Hid (∀ V, Nw wa V → V.cell? ⟨w.heap.size, k, none⟩ = some (pz b k k) ∧ V.frozen? ⟨w.heap.size, k, none⟩ = false ∧ w.heap.size < V.heap.size) := fun V nV => by
        have bV := (nV.block _ (heap_lt HPQ.out.blk) (fun e => e)).trans HPQ.out.blk
        refine ⟨?_, frozen_of bV _, heap_lt bV⟩
        rw [cell_of bV]
        have hk2 : k = 0 ∨ k = 1 := by omega
        rcases hk2 with rfl | rfl <;> rfl
      go_wp2_with fail
      go_region_held3 (fun w' => True) (trivial) ((go_at_call 4; refine (QN.out _).mono ?_; rintro e w3 ⟨bx, rfl, cx, n3⟩; have N3 : Hid (Nw wa w3) := Nw.tr (by first | exact Fr.refl _ _ | exact (Fr.refl _ _).drew) n3; have CX : Hid (Cx w3 (fun q => wa.heap.size ≤ q) bx 0 3 []) := cx; obtain ⟨m1, m2, m3⟩ := HCB.out w3 N3.out; clear cx n3))
      obtain ⟨w4, hw4⟩ : ∃ z, w3.setCell ⟨w.heap.size, k, none⟩ (ptr bx) = z := ⟨_, rfl⟩
      have B4 : Hid (∀ V, Nw w4 V → V.cell? ⟨w.heap.size, 2 + k, none⟩ = some (pz r k k) ∧ V.frozen? ⟨w.heap.size, 2 + k, none⟩ = false ∧ w.heap.size < V.heap.size ∧ ∀ x, (V.setCell ⟨w.heap.size, 2 + k, none⟩ x).cell? ⟨w.heap.size, k, none⟩ = some (ptr bx)) := fun V nV => by
        have b3 := (N3.out.block _ (heap_lt HPQ.out.blk) (fun e => e)).trans HPQ.out.blk
        have b4 := heap_set (o := k) b3 (ptr bx)
        rw [hw4] at b4
        have bV := (nV.block _ (heap_lt b4) (fun e => e)).trans b4
        refine ⟨?_, frozen_of bV _, heap_lt bV, fun x => ?_⟩
        · rw [cell_of bV]
          have hk2 : k = 0 ∨ k = 1 := by omega
          rcases hk2 with rfl | rfl <;> rfl
        · rw [cell_of (heap_set bV x)]
          have hk2 : k = 0 ∨ k = 1 := by omega
          rcases hk2 with rfl | rfl <;> simp
      have S4 : Hid (w4.heap.size = w3.heap.size) := by show _ = _; rw [← hw4]; simp [World.setCell]
      have HW4 : Hid (w3.setCell ⟨w.heap.size, k, none⟩ (ptr bx) = w4) := hw4
      rw [hw4]
      clear hw4 m1 m2 m3
      go_wp2_with fail
      go_region_held3 (fun w' => True) (trivial) ((go_at_call 5; refine (QD.out _).mono ?_; rintro e w5 ⟨ry, rfl, dc, n5⟩; have N5 : Hid (Nw w4 w5) := Nw.tr (by first | exact Fr.refl _ _ | exact (Fr.refl _ _).drew) n5; have DC : Hid (Dc w5 (fun q => w4.heap.size ≤ q) ry 3 []) := dc; obtain ⟨m1, m2, m3, m4⟩ := B4.out w5 N5.out; clear dc n5))
      have m5 := m4 (ptr ry)
      have HNX : Hid (∃ tg', Pq w (w5.setCell ⟨w.heap.size, 2 + k, none⟩ (ptr ry)) w.heap.size (k + 1) (up b k bx) (up r k ry) tg') := HPQ.out.made hk2 N3.out CX.out (by rw [HW4.out]; exact N5.out) (by have := DC.out; rw [S4.out] at this; exact this)
      obtain ⟨w6, hw6⟩ : ∃ z, w5.setCell ⟨w.heap.size, 2 + k, none⟩ (ptr ry) = z := ⟨_, rfl⟩
      rw [hw6] at m5 HNX
      have HNX2 : Hid (∃ tg', Pq w w6 w.heap.size (k + 1) (up b k bx) (up r k ry) tg') := HNX
      have e22 : (⟨w.heap.size, 2 + k, none⟩ : Addr) = ⟨w.heap.size, k + 2, none⟩ := by rw [Nat.add_comm]
      have hw6b : w5.setCell ⟨w.heap.size, k + 2, none⟩ (ptr ry) = w6 := by rw [← e22]; exact hw6
      first | rw [hw6] | rw [hw6b]
      have l6 : w.heap.size < w6.heap.size := by rw [← hw6]; simpa [World.setCell] using m3
      clear hw6 hw6b m1 m2 m3 m4 HNX e22
      go_wp2
      obtain ⟨tg', p⟩ := HNX2.out
      exact ⟨⟨k + 1, _, _, _, by omega, by go_num, p⟩, by simp [intOf]; omega⟩
end RC
end Go.Proofs.YtgdjoaiahigjpaaGreatDoor
