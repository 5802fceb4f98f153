/- How great lists of texts are. -/
import Derived.Test.YtjkhcplnedcmeaaGreatDoorPg
import Derived.Test.YtjkhcplnedcmeaaGreatDoorIww
import Derived.Test.YtjkhcplnedcmeaaGreatDoorIgd
namespace Go.Proofs.YtjkhcplnedcmeaaGreatDoor
open Go.RowKit
set_option linter.unusedVariables false
set_option linter.unusedSimpArgs false

/-- Numbers in memory. -/
def Ints (w : World) (p : Option Addr) (l : List Nat) : Prop := ∀ j, j < l.length → ∃ g o, p = some ⟨g, o, none⟩ ∧ w.cell? ⟨g, o + j, none⟩ = some (.int .i64 ((l.getD j 0 : Nat) : Int))
theorem sum_step (l : List Nat) (k : Nat) (h : k < l.length) : (l.take (k + 1)).sum = (l.take k).sum + l.getD k 0 := by
  have e : l.take (k + 1) = l.take k ++ [l[k]] := List.take_succ_eq_append_getElem h
  rw [e, List.sum_append, List.getD_eq_getElem?_getD, List.getElem?_eq_getElem h, Option.getD_some]
  simp
theorem sum_le (l : List Nat) (k : Nat) : (l.take k).sum ≤ l.sum := by
  have h : l.sum = (l.take k).sum + (l.drop k).sum := by rw [← List.sum_append, List.take_append_drop]
  omega
set_option maxRecDepth 100000 in
set_option maxHeartbeats 1000000 in
theorem beyond_any (p : Option Addr) (c : Nat) (l : List Nat) (w : World) (hi : Ints w p l) (hx : ∀ j, l.getD j 0 < 4611686018427387904) (hl : l.length < 4611686018427387904) :
    Calls Tryz.prog 10 #[.slice p l.length c] w fun e w' => e = .returned (.bool (decide (1048576 < l.sum))) ∧ w' = w := by
  have HI : Hid (Ints w p l) := hi
  have HX : Hid (∀ j, l.getD j 0 < 4611686018427387904) := hx
  clear hi hx
  obtain ⟨n, hn⟩ : ∃ n, n = l.length := ⟨_, rfl⟩
  rw [← hn] at hl ⊢
  have Hn : Hid (n = l.length) := hn
  clear hn
  obtain ⟨R, hR⟩ : ∃ R, R = decide (1048576 < l.sum) := ⟨_, rfl⟩
  have HR : Hid (R = decide (1048576 < l.sum)) := hR
  rw [← hR]
  clear hR
  go_enter Tryz.func10, Tryz.ntmps10
  go_wp2
  go_loop [3, 4] (fun s i => ∃ k m : Nat, k ≤ n ∧ i = .int .i64 k ∧ s = .int .i64 m ∧ m = (l.take k).sum ∧ m ≤ 1048576) (fun _ i => n - (intOf i).toNat)
  case atStart => exact ⟨0, 0, by omega, rfl, rfl, rfl, by omega⟩
  case round =>
    obtain ⟨k, m, hk, rfl, rfl, hm, hm2⟩ := hrel
    have HM : Hid (m = (l.take k).sum) := hm
    clear hm
    by_cases hlt : k < n
    · obtain ⟨g, o, rfl, hc⟩ := HI.out k (by have := Hn.out; omega)
      have hx := HX.out k
      have hst : Hid ((l.take (k + 1)).sum = (l.take k).sum + l.getD k 0) := sum_step l k (by have := Hn.out; omega)
      generalize l.getD k 0 = x at hc hx hst
      have hki : (k : Int) < (n : Int) := by omega
      by_cases hbig : 1048576 < m + x
      · have hb : (1048576 : Int) < (m : Int) + (x : Int) := by omega
        go_wp2
        go_ret
        refine ⟨?_, rfl⟩
        have : R = true := by
          rw [HR.out]
          have h1 := sum_le l (k + 1)
          rw [hst.out, ← HM.out] at h1
          exact decide_eq_true (by omega)
        rw [this]; rfl
      · have hb : ¬ (1048576 : Int) < (m : Int) + (x : Int) := by omega
        go_wp2
        exact ⟨⟨k + 1, m + x, by omega, by go_num, by go_num, by rw [hst.out, ← HM.out], by omega⟩, by simp [intOf]; omega⟩
    · have hge : ¬ (k : Int) < (n : Int) := by omega
      have : R = false := by
        rw [HR.out]
        have h1 := HM.out
        rw [List.take_of_length_le (by have := Hn.out; omega)] at h1
        exact decide_eq_false (by omega)
      have HRF : Hid (R = false) := this
      clear this hlt
      go_wp2
      go_ret
      exact ⟨by rw [HRF.out]; rfl, rfl⟩
/-- How many bytes texts have, and one for each. -/
def tsz (ss : List ByteArray) : Nat := (ss.map fun x => 1 + x.size).sum
theorem tsz_step (ss : List ByteArray) (k : Nat) (x : ByteArray) (h : ss[k]? = some x) : tsz (ss.take (k + 1)) = tsz (ss.take k) + 1 + x.size := by
  unfold tsz
  rw [List.take_add_one, h]
  simp
  omega
theorem one_int (w : World) (n : Nat) : Ints (w.alloc (.cells #[.int .i64 (n : Int)] 3)) (some ⟨w.heap.size, 0, none⟩) [n] := fun j hj => by
  match j, hj with
  | 0, _ => exact ⟨_, _, rfl, by simp [cell_of (heap_new w _)]⟩
theorem getD_one (n : Nat) (h : n < 4611686018427387904) : ∀ j, [n].getD j 0 < 4611686018427387904 := fun j => by
  match j with
  | 0 => exact h
  | j + 1 => simp

theorem two_int (w : World) (m n : Nat) : Ints (w.alloc (.cells #[.int .i64 (m : Int), .int .i64 (n : Int)] 3)) (some ⟨w.heap.size, 0, none⟩) [m, n] := fun j hj => by
  match j, hj with
  | 0, _ => exact ⟨_, _, rfl, by simp [cell_of (heap_new w _)]⟩
  | 1, _ => exact ⟨_, _, rfl, by simp [cell_of (heap_new w _)]⟩
theorem four_int (w : World) (m n o q : Nat) : Ints (w.alloc (.cells #[.int .i64 (m : Int), .int .i64 (n : Int), .int .i64 (o : Int), .int .i64 (q : Int)] 3)) (some ⟨w.heap.size, 0, none⟩) [m, n, o, q] := fun j hj => by
  match j, hj with
  | 0, _ => exact ⟨_, _, rfl, by simp [cell_of (heap_new w _)]⟩
  | 1, _ => exact ⟨_, _, rfl, by simp [cell_of (heap_new w _)]⟩
  | 2, _ => exact ⟨_, _, rfl, by simp [cell_of (heap_new w _)]⟩
  | 3, _ => exact ⟨_, _, rfl, by simp [cell_of (heap_new w _)]⟩
theorem getD_all {l : List Nat} (h : ∀ n ∈ l, n < 4611686018427387904) : ∀ j, l.getD j 0 < 4611686018427387904 := fun j => by
  rw [List.getD_eq_getElem?_getD]
  cases e : l[j]? with
  | none => simp
  | some x => exact h x (List.mem_of_getElem? e)
end Go.Proofs.YtjkhcplnedcmeaaGreatDoor
namespace Go.Proofs.YtjkhcplnedcmeaaGreatDoor
open Go.RowKit
set_option linter.unusedVariables false
set_option linter.unusedSimpArgs false
/-- A row of queries in memory. -/
def Qrs (w : World) (p : Option Addr) (qs : List (Int × Nat × Nat × Nat)) : Prop := ∀ (i : Nat) (k : Int) (x y z : Nat), qs[i]? = some (k, x, y, z) → ∃ g o, p = some ⟨g, o, none⟩ ∧ g < w.heap.size ∧ w.cell? ⟨g, o + i * 4, none⟩ = some (.int .i64 k) ∧ w.cell? ⟨g, o + i * 4 + 1, none⟩ = some (.int .u64 (x : Int)) ∧ w.cell? ⟨g, o + i * 4 + 2, none⟩ = some (.int .u64 (y : Int)) ∧ w.cell? ⟨g, o + i * 4 + 3, none⟩ = some (.int .u64 (z : Int))
theorem Qrs.nw {w w' : World} {p : Option Addr} {qs : List (Int × Nat × Nat × Nat)} (h : Qrs w p qs) (n : Nw w w') : Qrs w' p qs := fun i k x y z hi => by
  obtain ⟨g, o, e, hg, c0, c1, c2, c3⟩ := h i k x y z hi
  exact ⟨g, o, e, Nat.lt_of_lt_of_le hg n.size, n.cellOf c0, n.cellOf c1, n.cellOf c2, n.cellOf c3⟩
/-- The numbers are ones of 64 bits. -/
def Qok (qs : List (Int × Nat × Nat × Nat)) : Prop := ∀ q ∈ qs, (-9223372036854775808 ≤ q.1 ∧ q.1 ≤ 9223372036854775807) ∧ q.2.1 < 18446744073709551616 ∧ q.2.2.1 < 18446744073709551616 ∧ q.2.2.2 < 18446744073709551616
theorem blog_any (n : Nat) (h1 : 1 ≤ n) (hn : n ≤ 1000) (w : World) : Calls Tryz.prog 19 #[.int .u64 (n : Int)] w fun e w' => ∃ c : Nat, e = .returned (.tuple #[.int .i64 (c : Int), .bool true]) ∧ n ≤ 2 ^ c ∧ c ≤ 10 ∧ w' = w := by
  by_cases h : n = 1
  · subst h
    exact (log_one w).mono fun e w' ⟨e1, e2⟩ => ⟨0, e1, by decide, by decide, e2⟩
  · obtain ⟨k, hk, h3, h4⟩ : ∃ k, k ≤ 9 ∧ 2 ^ k < n ∧ n ≤ 2 * 2 ^ k := by
      obtain ⟨c, hc, hc2, hlow⟩ := clg_ex n (by omega)
      cases c with
      | zero => simp at hc2; omega
      | succ c =>
        refine ⟨c, ?_, hlow c (by omega), by rw [Nat.pow_succ] at hc2; omega⟩
        by_cases h : c ≤ 9
        · exact h
        · have := hlow 10 (by omega)
          have : (2 : Nat) ^ 10 = 1024 := by decide
          omega
    have q := log_of (n : Int) k w (by omega) (by have := pow_cast k; omega) (by have := pow_cast k; omega)
    exact q.mono fun e w' ⟨e1, e2⟩ => ⟨k + 1, by rw [e1]; simp, by rw [Nat.pow_succ]; omega, by omega, e2⟩
theorem TabAt.frI {S : Nat → Prop} {B : Nat} {w w' : World} (h : TabAt w) (hB : 20 < B) (f : Fr S w w') (hS : ∀ k, S k → B ≤ k) : TabAt w' := fun j hj => (f.cell (p := ⟨20, j, none⟩) (World.block_lt_of_cell? w _ (h j hj)) (fun q => by have h2 : B ≤ 20 := hS _ q; omega)).trans (h j hj)
theorem TabAt.lt {w : World} (h : TabAt w) : 20 < w.heap.size := World.block_lt_of_cell? w _ (h 0 (by decide))
/-- What lies at the head of the loop over the queries. -/
structure Hd16 (w wr : World) (n B K rb eb lb base : Nat) (v : Value) (qb : Nat) (qc : Array Value) (s : RS) : Prop where
  at_ : s.At (ldH n) B K wr
  eng : Eng s wr eb n
  rb : s.rb = rb
  lg : Lg wr lb base v (ldS n)
  lt : s.tg lb = 9 ∧ ∀ q, v.ownBlock = some q → s.tg q = 9
  bx : wr.heap[qb]? = some (.cells qc 24) ∧ s.tg qb = 9
  nw : Nw w wr
theorem Hd16.nx {w wr w' : World} {n B K rb eb lb base : Nat} {v : Value} {qb : Nat} {qc : Array Value} {s s' : RS} {T : Nat} {fl : Bool} (h : Hd16 w wr n B K rb eb lb base v qb qc s) (hB : B = w.heap.size) (hn : (ldH n).length = n) (o : Outc s s' (ldH n) B K T wr w' eb fl) (l : Lg w' lb base v (ldS n)) (hv : ∀ q, v.ownBlock = some q → q < wr.heap.size) : Hd16 w w' n B (K + T) rb eb lb base v qb qc s' :=
  ⟨o.at_, by have := o.eng; rw [hn] at this; exact this, o.le.rb.trans h.rb, l, ⟨(o.le.tg _ (heap_lt h.lg.blk)).trans h.lt.1, fun q hq => (o.le.tg _ (hv q hq)).trans (h.lt.2 q hq)⟩, ⟨(o.fr.block _ (heap_lt h.bx.1) (fun q => by have := h.bx.2; unfold RS.Ff at q; omega)).trans h.bx.1, (o.le.tg _ (heap_lt h.bx.1)).trans h.bx.2⟩, h.nw.trans o.fr (fun j hj q => by have := h.at_.bt j q; omega)⟩
theorem Hd16.nwt {w wr w' : World} {n B K rb eb lb base : Nat} {v : Value} {qb : Nat} {qc : Array Value} {s : RS} (h : Hd16 w wr n B K rb eb lb base v qb qc s) (f : Nw wr w') : Hd16 w w' n B K rb eb lb base v qb qc s :=
  ⟨h.at_.nw f, h.eng.nw f, h.rb, h.lg.nw f, h.lt, ⟨(f.block _ (heap_lt h.bx.1) (fun q => q)).trans h.bx.1, h.bx.2⟩, h.nw.tr f⟩
theorem Hd16.more {w wr : World} {n B K K' rb eb lb base : Nat} {v : Value} {qb : Nat} {qc : Array Value} {s : RS} (h : Hd16 w wr n B K rb eb lb base v qb qc s) (hk : K ≤ K') : Hd16 w wr n B K' rb eb lb base v qb qc s :=
  ⟨h.at_.more hk, h.eng, h.rb, h.lg, h.lt, h.bx, h.nw⟩
theorem Lg.own_lt {w : World} {b base : Nat} {v : Value} {L : List ByteArray} (h : Lg w b base v L) : ∀ q, v.ownBlock = some q → q < w.heap.size := fun q hq => (h.own.lt q hq).2
set_option maxRecDepth 100000 in
set_option maxHeartbeats 4000000 in
theorem same16_any (lv cp : Int) (hlv : -9223372036854775808 ≤ lv ∧ lv ≤ 9223372036854775807) (hcp : -9223372036854775808 ≤ cp ∧ cp ≤ 9223372036854775807) (p : Option Addr) (qs : List (Int × Nat × Nat × Nat)) (c : Nat) (w : World) (hq : Qrs w p qs) (hqo : Qok qs) (hql : qs.length < 4611686018427387904) {a : Nat → Addr} (hG : Gd w.heap.size a w) (hT : TabAt w) :
    Calls Tryz.prog 3 #[.agg #[.int .i64 lv, .int .i64 cp, .slice p qs.length c]] w fun e w' => e = .returned (.bool true) ∧ Nw w w' := by
  have QA : Hid (∀ V, Nw w V → Calls Tryz.prog 9 #[] V fun e w' => e = .returned (.bool true) ∧ Nw V w') := fun V nV => alive16_any (hG.nw nV) (hT.nw nV)
  have QL : Hid (∀ (k : Nat) V, k ≤ 1000 → Nw w V → Calls Tryz.prog 12 #[.int .i64 (k : Int)] V fun e w' => ∃ lb base v b bm g T M, e = .returned (.tuple #[.pointer (some ⟨lb, 0, none⟩), .pointer (some ⟨b, 0, none⟩), .bool true]) ∧ V.heap.size ≤ lb ∧ Lg w' lb base v (ldS k) ∧ Lt V w' b bm g T M ∧ HldA (ldH k) M ∧ T ≤ 100000 ∧ (lb ≠ b ∧ lb ≠ bm ∧ lb ≠ g) ∧ (∀ q, v.ownBlock = some q → q ≠ b ∧ q ≠ bm ∧ q ≠ g) ∧ Nw V w') := fun k V hk nV => lying_any k hk V (hG.nw nV) nV.size
  have GD : Hid (∀ V, Nw w V → Gd w.heap.size a V) := fun V nV => hG.nw nV
  have HT : Hid (∀ V, Nw w V → TabAt V) := fun V nV => hT.nw nV
  have HQ : Hid (∀ V, Nw w V → Qrs V p qs) := fun V nV => hq.nw nV
  have HQO : Hid (Qok qs) := hqo
  obtain ⟨n, hn⟩ : ∃ n, n = qs.length := ⟨_, rfl⟩
  have HN : Hid (n = qs.length) := hn
  rw [← hn] at hql ⊢
  obtain ⟨cu, hcu, hcb⟩ : ∃ u : Nat, IntKind.u64.wrap cp = (u : Int) ∧ u < 18446744073709551616 := by
    rw [IntKind.wrap_u64]
    exact ⟨(cp % 18446744073709551616).toNat, by omega, by omega⟩
  obtain ⟨cr, hcr⟩ : ∃ r, r = cu % 1025 := ⟨_, rfl⟩
  have hce : (cu : Int) % 1025 = (cr : Int) := by omega
  have hcrl : cr < 1025 := by omega
  have HBG : Hid (∀ k : Nat, k ≤ n → True) := fun _ _ => trivial
  clear hG hT hq hqo hn hcr
  go_enter Tryz.func3, Tryz.ntmps3
  go_wp2_with fail
  refine (QA.out _ (by repeat first | with_reducible exact nwr w | with_reducible refine Fr.alloc ?_ _ | with_reducible refine Fr.drew ?_ | (with_reducible refine Fr.setCell ?_ _ _ (fun h => ?_); rotate_left; focus (simp only at h; omega)))).mono ?_
  rintro e w1 ⟨rfl, n1⟩
  have n01 : Nw w (w.alloc (.cells #[.int .i64 lv, .int .i64 cp, .slice p n c] 24)) := nwa w _
  have N1 : Hid (Nw w w1) := n01.tr n1
  have B1 : Hid (w1.heap[w.heap.size]? = some (.cells #[.int .i64 lv, .int .i64 cp, .slice p n c] 24)) := (n1.block _ (by simp) (fun f => f)).trans (heap_new _ _)
  have LB1 : Hid (w.heap.size < w1.heap.size) := heap_lt B1.out
  have x0 := (cell_of B1.out 0).trans rfl
  have x1 := (cell_of B1.out 1).trans rfl
  have x2 := (cell_of B1.out 2).trans rfl
  have lx := heap_lt B1.out
  have q2 := beyond_any (some ⟨w1.heap.size, 0, none⟩) 1 [n] _ (one_int w1 n) (getD_one n hql) (by simp)
  clear n1 n01
  go_wp2_with fail
  refine q2.mono ?_
  rintro e w2 ⟨rfl, h2⟩
  have N12 : Hid (Nw w1 w2) := by rw [h2]; exact nwa w1 _
  have N2 : Hid (Nw w w2) := N1.out.tr N12.out
  have B2 : Hid (w2.heap[w.heap.size]? = some (.cells #[.int .i64 lv, .int .i64 cp, .slice p n c] 24)) := (N12.out.block _ lx (fun f => f)).trans B1.out
  have x0 := (cell_of B2.out 0).trans rfl
  have x1 := (cell_of B2.out 1).trans rfl
  have x2 := (cell_of B2.out 2).trans rfl
  have lx := heap_lt B2.out
  clear h2 q2
  by_cases hbig : 1048576 < [n].sum
  · rw [decide_eq_true hbig]
    clear hbig
    go_wp2_with fail
    refine (QA.out _ N2.out).mono ?_
    rintro e w3 ⟨rfl, n3⟩
    have N3 : Hid (Nw w w3) := N2.out.tr n3
    clear n3
    go_wp2
    go_ret
    exact ⟨rfl, N3.out⟩
  rw [decide_eq_false hbig]
  clear hbig
  go_wp2_with fail
  refine (num16_any lv hlv.1 hlv.2 _).mono ?_
  rintro e w3 ⟨k, rfl, hk1, hk2, rfl⟩
  go_wp2_with fail
  refine (QL.out k _ (by omega) N2.out).mono ?_
  rintro e w4 ⟨lb, base, v, b, bm, g, T, M, rfl, hlb, lg4, lt4, hld, hTt, hd1, hd2, n4⟩
  have N4 : Hid (Nw w w4) := N2.out.tr n4
  have B4 : Hid (w4.heap[w.heap.size]? = some (.cells #[.int .i64 lv, .int .i64 cp, .slice p n c] 24)) := (n4.block _ lx (fun f => f)).trans B2.out
  have x0 := (cell_of B4.out 0).trans rfl
  have x1 := (cell_of B4.out 1).trans rfl
  have x2 := (cell_of B4.out 2).trans rfl
  have hlx := lx
  have lx := heap_lt B4.out
  have hln : (ldH k).length = k := ldH_len k
  have q6 := RS.made (K := 0) (B := w.heap.size) lt4.2.2.2 hld (ldH_32 k) lt4.2.2.1.2 ⟨by have := lt4.1; omega, by have := lt4.2.1; omega, by have := lt4.2.2.1.1; omega⟩ rfl (by simp) ⟨Int.le_refl _, Int.le_refl _⟩ cr (by omega) (GD.out _ N4.out).s
  have HD : Hid (Lg w4 lb base v (ldS k) ∧ (lb ≠ b ∧ lb ≠ bm ∧ lb ≠ g) ∧ (∀ q, v.ownBlock = some q → q ≠ b ∧ q ≠ bm ∧ q ≠ g) ∧ w.heap.size ≠ b ∧ w.heap.size ≠ bm ∧ w.heap.size ≠ g) := ⟨lg4, hd1, hd2, by have := lt4.1; omega, by have := lt4.2.1; omega, by have := lt4.2.2.1.1; omega⟩
  clear lg4 lt4 hld hTt hd1 hd2 n4 hlb
  go_wp2_with fail
  refine q6.mono ?_
  rintro e w5 ⟨s, rfl, A5, hsb, hbm, hzs, hcap, hrn, hx, hy, hM, hL, htg, n5⟩
  have N5 : Hid (Nw w w5) := N4.out.tr n5
  have HA5 : Hid (s.At (ldH k) w.heap.size 0 w5) := A5
  have HZ5 : Hid (s.zs = []) := hzs
  have HTG : Hid (∀ q, q < w4.heap.size → q ≠ b → q ≠ bm → q ≠ g → s.tg q = 9) := htg
  have HD5 : Hid (Lg w5 lb base v (ldS k) ∧ w5.heap[w.heap.size]? = some (.cells #[.int .i64 lv, .int .i64 cp, .slice p n c] 24)) := ⟨HD.out.1.nw n5, (n5.block _ lx (fun f => f)).trans B4.out⟩
  have HLT : Hid ((s.tg lb = 9 ∧ ∀ q, v.ownBlock = some q → s.tg q = 9) ∧ s.tg w.heap.size = 9) := ⟨⟨htg _ (heap_lt HD.out.1.blk) HD.out.2.1.1 HD.out.2.1.2.1 HD.out.2.1.2.2, fun q hq => htg q (HD.out.1.own_lt q hq) (HD.out.2.2.1 q hq).1 (HD.out.2.2.1 q hq).2.1 (HD.out.2.2.1 q hq).2.2⟩, htg _ lx HD.out.2.2.2.1 HD.out.2.2.2.2.1 HD.out.2.2.2.2.2⟩
  have q7 := gnew_yes A5 k (by omega) (GD.out _ N5.out).s
  obtain ⟨rb, hrb⟩ : ∃ x, x = s.rb := ⟨_, rfl⟩
  have HRB : Hid (s.rb = rb) := hrb.symm
  rw [← hrb] at q7 ⊢
  clear q6 A5 hsb hbm hzs hcap hrn hx hy hM hL htg n5 hrb
  go_wp2_with fail
  refine q7.mono ?_
  rintro e w6 ⟨eb, rfl, en6, heb, n6⟩
  have HH6 : Hid (Hd16 w w6 k w.heap.size 0 rb eb lb base v w.heap.size #[.int .i64 lv, .int .i64 cp, .slice p n c] s) := ⟨HA5.out.nw n6, en6, HRB.out, HD5.out.1.nw n6, HLT.out.1, ⟨(n6.block _ (heap_lt HD5.out.2) (fun f => f)).trans HD5.out.2, HLT.out.2⟩, N5.out.tr n6⟩
  have q8 := gsize_yes en6
  clear q7 en6 heb n6 x0 x1 x2
  go_wp2_with fail
  refine q8.mono ?_
  rintro e w7 ⟨rfl, rfl⟩
  clear q8
  obtain ⟨W0, hW0⟩ : ∃ x, x = w.heap.size := ⟨_, rfl⟩
  have HW0 : Hid (W0 = w.heap.size) := hW0
  rw [← hW0] at HH6 GD ⊢
  have HQB : Hid (∀ V, Nw w V → W0 < V.heap.size → True) := fun _ _ _ => trivial
  clear HA5 HTG HD HD5 HLT B1 B2 B4 LB1 hW0 N1 N12 N2 N4 N5 hlx lx QL
  go_wp2
  go_loopw [11] (fun u wr => ∃ (i : Nat) (s : RS), i ≤ 200 ∧ i ≤ n ∧ u = .int .i64 i ∧ Hd16 w wr k W0 (4000 * i) rb eb lb base v W0 #[.int .i64 lv, .int .i64 cp, .slice p n c] s ∧ s.zs = []) (fun u _ => 200 - (intOf u).toNat)
  case atStart => exact ⟨0, s, by omega, by omega, rfl, HH6.out, HZ5.out⟩
  case round =>
    clear HH6 HZ5 HRB
    obtain ⟨i, s, hi, hin, rfl, hH, hz⟩ := hrel
    have HH : Hid (Hd16 w wr k W0 (4000 * i) rb eb lb base v W0 #[.int .i64 lv, .int .i64 cp, .slice p n c] s) := hH
    have HZ : Hid (s.zs = []) := hz
    have NW : Hid (Nw w wr) := hH.nw
    have x2 := (cell_of hH.bx.1 2).trans rfl
    have lx := heap_lt hH.bx.1
    by_cases hlt : i < n ∧ i < 200
    · have hin2 : (i : Int) < (n : Int) := by omega
      have hi2 : (i : Int) < 200 := by omega
      have q9 := rcounts_any hH.at_.rm.blk
      rw [hH.rb] at q9
      obtain ⟨xa, hxa⟩ : ∃ x, x = s.x := ⟨_, rfl⟩
      have hxb : 0 ≤ xa ∧ xa ≤ 1000000 := by have := hH.at_.x0; rw [hxa]; omega
      have HXA : Hid (s.x = xa) := hxa.symm
      rw [← hxa] at q9
      obtain ⟨⟨kd, x, y, z⟩, hqi⟩ : ∃ q, qs[i]? = some q := ⟨_, List.getElem?_eq_getElem (by have := HN.out; omega)⟩
      obtain ⟨⟨kb1, kb2⟩, hxl, hyl, hzl⟩ := HQO.out _ (List.mem_of_getElem? hqi)
      simp only at kb1 kb2 hxl hyl hzl
      clear hH hz hxa
      go_wp2_with fail
      refine q9.mono ?_
      rintro e w8 ⟨rfl, n8⟩
      have NW8 : Hid (Nw w w8) := NW.out.tr n8
      have H8 : Hid (Hd16 w w8 k W0 (4000 * i) rb eb lb base v W0 #[.int .i64 lv, .int .i64 cp, .slice p n c] s) := HH.out.nwt n8
      obtain ⟨gq, oq, rfl, hgq, c0, c1, c2, c3⟩ := HQ.out w8 NW8.out i kd x y z hqi
      have x2 := (cell_of H8.out.bx.1 2).trans rfl
      have lx := heap_lt H8.out.bx.1
      have q10 := ansf_any H8.out.at_ H8.out.eng H8.out.lg H8.out.lt ⟨hk1, by omega⟩ (GD.out _ NW8.out) (HT.out _ NW8.out) (by omega) kd x y z hxl hyl hzl
      clear n8 q9
      go_wp2_with fail
      refine q10.mono ?_
      rintro e w9 ⟨sz, hs1, hs2, fl, s9, T9, va, vb, cb, X, rfl, h32, hva, hvb, hXl, oc, lg9, hT4, hfew⟩
      have hfl : fl = false := by
        cases fl with
        | false => rfl
        | true => have := (oc.no rfl).2; rw [HZ.out] at this; simp at this
      subst hfl
      obtain ⟨ad, ca, rfl, hva⟩ := hva rfl
      have H9 : Hid (Hd16 w w9 k W0 (4000 * i + T9) rb eb lb base v W0 #[.int .i64 lv, .int .i64 cp, .slice (some ⟨gq, oq, none⟩) n c] s9) := H8.out.nx HW0.out hln oc lg9 H8.out.lg.own_lt
      have HX9 : Hid (s9.x = xa + (T9 : Int) ∧ s9.zs = [] ∧ T9 ≤ 4000) := ⟨by rw [oc.x rfl, HXA.out], oc.le.zs.trans HZ.out, by omega⟩
      have NW9 : Hid (Nw w w9) := H9.out.nw
      have x2 := (cell_of H9.out.bx.1 2).trans rfl
      have lx := heap_lt H9.out.bx.1
      have e1 : erf false (a 6) = .nilIface := rfl
      rw [e1]
      have q11 := rcounts_any H9.out.at_.rm.blk
      rw [H9.out.rb, HX9.out.1] at q11
      have HS : Hid (∀ V, Nw w9 V → Calls Tryz.prog 18 #[.slice ad X.length ca, .slice vb X.length cb] V fun e w' => e = .returned (.bool true) ∧ Nw V w') := fun V nV => sameh_yes _ _ X h32 V (hva.nw h32 nV) (hvb.nw h32 nV) (by omega)
      have HFEW := show Hid _ from hfew
      obtain ⟨m, hm⟩ : ∃ m, m = X.length := ⟨_, rfl⟩
      rw [← hm] at HS hXl ⊢
      obtain ⟨xb, hxb2⟩ : ∃ x, x = xa + (T9 : Int) := ⟨_, rfl⟩
      rw [← hxb2] at q11
      have hxbb : 0 ≤ xb ∧ xb ≤ 1010000 := by omega
      have HXB : Hid (xb = xa + (T9 : Int)) := hxb2
      clear hxb2 oc lg9 hva hvb h32 hfew hm q10 c0 c1 c2 c3 e1 hT4
      go_wp2_with fail
      refine q11.mono ?_
      rintro e w10 ⟨rfl, n10⟩
      have N10 : Hid (Nw w9 w10) := n10
      clear q11 n10
      go_wp2_with fail
      refine (HS.out _ N10.out).mono ?_
      rintro e w11 ⟨rfl, n11⟩
      have N11 : Hid (Nw w9 w11) := N10.out.tr n11
      clear n11 HS
      go_wp2_with fail
      refine (blog_any sz hs1 (by omega) _).mono ?_
      rintro e w12 ⟨cc, rfl, hcc, hcc2, rfl⟩
      have H11 : Hid (Hd16 w w12 k W0 (4000 * i + T9) rb eb lb base v W0 #[.int .i64 lv, .int .i64 cp, .slice (some ⟨gq, oq, none⟩) n c] s9) := H9.out.nwt N11.out
      obtain ⟨gq', oq', he', hgq', c0, c1, c2, c3⟩ := HQ.out w12 H11.out.nw i kd x y z hqi
      injection he' with he'
      injection he' with hg1 hg2
      subst hg1 hg2
      have x2 := (cell_of H11.out.bx.1 2).trans rfl
      have lx := heap_lt H11.out.bx.1
      clear c1 c2 c3
      have HEND : Hid (Hd16 w w12 k W0 (4000 * (i + 1)) rb eb lb base v W0 #[.int .i64 lv, .int .i64 cp, .slice (some ⟨gq, oq, none⟩) n c] s9) := H11.out.more (by have := HX9.out.2.2; omega)
      by_cases hkd : bits BinOp.and IntKind.i64 kd 3 = 3
      · have hkb : (bits BinOp.and IntKind.i64 kd 3 != 3) = false := by rw [hkd]; rfl
        clear hkd HFEW
        go_wp2
        exact ⟨⟨i + 1, s9, by omega, by omega, by go_num, HEND.out, HX9.out.2.1⟩, by simp [intOf]; omega⟩
      · have hkb : (bits BinOp.and IntKind.i64 kd 3 != 3) = true := by simpa using hkd
        have hf := HFEW.out (decide_eq_true hkd) cc hcc
        have hcmp : ¬ (2 * ((cc : Int) + 1) < xb - xa) := by have := HXB.out; omega
        clear hkd HFEW hf
        go_wp2
        exact ⟨⟨i + 1, s9, by omega, by omega, by go_num, HEND.out, HX9.out.2.1⟩, by simp [intOf]; omega⟩
    · have hX : ¬ (i : Int) < (n : Int) ∨ ((i : Int) < (n : Int) ∧ ¬ (i : Int) < 200) := by omega
      clear hH hz
      rcases hX with h1 | ⟨h1, h2⟩
      · go_wp2
        go_ret
        exact ⟨rfl, NW.out⟩
      · go_wp2
        go_ret
        exact ⟨rfl, NW.out⟩
end Go.Proofs.YtjkhcplnedcmeaaGreatDoor
