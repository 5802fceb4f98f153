/- How great lists of texts are. -/
import Derived.Test.YtjkhcplnedcmeaaGreatDoorPg
import Derived.Test.YtjkhcplnedcmeaaGreatDoorIww
import Derived.Test.YtjkhcplnedcmeaaGreatDoorIgd
namespace Go.Proofs.YtjkhcplnedcmeaaGreatDoor
open Go.RowKit
set_option linter.unusedVariables false
set_option linter.unusedSimpArgs false

/-- Numbers in memory. -/
def Ints (w : World) (p : Option Addr) (l : List Nat) : Prop := ∀ j, j < l.length → ∃ g o, p = some ⟨g, o, none⟩ ∧ w.cell? ⟨g, o + j, none⟩ = some (.int .i64 ((l.getD j 0 : Nat) : Int))
theorem sum_step (l : List Nat) (k : Nat) (h : k < l.length) : (l.take (k + 1)).sum = (l.take k).sum + l.getD k 0 := by
  have e : l.take (k + 1) = l.take k ++ [l[k]] := List.take_succ_eq_append_getElem h
  rw [e, List.sum_append, List.getD_eq_getElem?_getD, List.getElem?_eq_getElem h, Option.getD_some]
  simp
theorem sum_le (l : List Nat) (k : Nat) : (l.take k).sum ≤ l.sum := by
  have h : l.sum = (l.take k).sum + (l.drop k).sum := by rw [← List.sum_append, List.take_append_drop]
  omega
set_option maxRecDepth 100000 in
set_option maxHeartbeats 1000000 in
theorem beyond_any (p : Option Addr) (c : Nat) (l : List Nat) (w : World) (hi : Ints w p l) (hx : ∀ j, l.getD j 0 < 4611686018427387904) (hl : l.length < 4611686018427387904) :
    Calls Tryz.prog 10 #[.slice p l.length c] w fun e w' => e = .returned (.bool (decide (1048576 < l.sum))) ∧ w' = w := by
  have HI : Hid (Ints w p l) := hi
  have HX : Hid (∀ j, l.getD j 0 < 4611686018427387904) := hx
  clear hi hx
  obtain ⟨n, hn⟩ : ∃ n, n = l.length := ⟨_, rfl⟩
  rw [← hn] at hl ⊢
  have Hn : Hid (n = l.length) := hn
  clear hn
  obtain ⟨R, hR⟩ : ∃ R, R = decide (1048576 < l.sum) := ⟨_, rfl⟩
  have HR : Hid (R = decide (1048576 < l.sum)) := hR
  rw [← hR]
  clear hR
  go_enter Tryz.func10, Tryz.ntmps10
  go_wp2
  go_loop [3, 4] (fun s i => ∃ k m : Nat, k ≤ n ∧ i = .int .i64 k ∧ s = .int .i64 m ∧ m = (l.take k).sum ∧ m ≤ 1048576) (fun _ i => n - (intOf i).toNat)
  case atStart => exact ⟨0, 0, by omega, rfl, rfl, rfl, by omega⟩
  case round =>
    obtain ⟨k, m, hk, rfl, rfl, hm, hm2⟩ := hrel
    have HM : Hid (m = (l.take k).sum) := hm
    clear hm
    by_cases hlt : k < n
    · obtain ⟨g, o, rfl, hc⟩ := HI.out k (by have := Hn.out; omega)
      have hx := HX.out k
      have hst : Hid ((l.take (k + 1)).sum = (l.take k).sum + l.getD k 0) := sum_step l k (by have := Hn.out; omega)
      generalize l.getD k 0 = x at hc hx hst
      have hki : (k : Int) < (n : Int) := by omega
      by_cases hbig : 1048576 < m + x
      · have hb : (1048576 : Int) < (m : Int) + (x : Int) := by omega
        go_wp2
        go_ret
        refine ⟨?_, rfl⟩
        have : R = true := by
          rw [HR.out]
          have h1 := sum_le l (k + 1)
          rw [hst.out, ← HM.out] at h1
          exact decide_eq_true (by omega)
        rw [this]; rfl
      · have hb : ¬ (1048576 : Int) < (m : Int) + (x : Int) := by omega
        go_wp2
        exact ⟨⟨k + 1, m + x, by omega, by go_num, by go_num, by rw [hst.out, ← HM.out], by omega⟩, by simp [intOf]; omega⟩
    · have hge : ¬ (k : Int) < (n : Int) := by omega
      have : R = false := by
        rw [HR.out]
        have h1 := HM.out
        rw [List.take_of_length_le (by have := Hn.out; omega)] at h1
        exact decide_eq_false (by omega)
      have HRF : Hid (R = false) := this
      clear this hlt
      go_wp2
      go_ret
      exact ⟨by rw [HRF.out]; rfl, rfl⟩
theorem two_int (w : World) (m n : Nat) : Ints (w.alloc (.cells #[.int .i64 (m : Int), .int .i64 (n : Int)] 3)) (some ⟨w.heap.size, 0, none⟩) [m, n] := fun j hj => by
  match j, hj with
  | 0, _ => exact ⟨_, _, rfl, by simp [cell_of (heap_new w _)]⟩
  | 1, _ => exact ⟨_, _, rfl, by simp [cell_of (heap_new w _)]⟩
theorem getD_all {l : List Nat} (h : ∀ n ∈ l, n < 4611686018427387904) : ∀ j, l.getD j 0 < 4611686018427387904 := fun j => by
  rw [List.getD_eq_getElem?_getD]
  cases e : l[j]? with
  | none => simp
  | some x => exact h x (List.mem_of_getElem? e)
end Go.Proofs.YtjkhcplnedcmeaaGreatDoor
namespace Go.Proofs.YtjkhcplnedcmeaaGreatDoor
open Go.RowKit
set_option linter.unusedVariables false
set_option linter.unusedSimpArgs false
/-- A row of queries in memory. -/
def Qrs (w : World) (p : Option Addr) (qs : List (Int × Nat × Nat × Nat)) : Prop := ∀ (i : Nat) (k : Int) (x y z : Nat), qs[i]? = some (k, x, y, z) → ∃ g o, p = some ⟨g, o, none⟩ ∧ g < w.heap.size ∧ w.cell? ⟨g, o + i * 4, none⟩ = some (.int .i64 k) ∧ w.cell? ⟨g, o + i * 4 + 1, none⟩ = some (.int .u64 (x : Int)) ∧ w.cell? ⟨g, o + i * 4 + 2, none⟩ = some (.int .u64 (y : Int)) ∧ w.cell? ⟨g, o + i * 4 + 3, none⟩ = some (.int .u64 (z : Int))
theorem Qrs.nw {w w' : World} {p : Option Addr} {qs : List (Int × Nat × Nat × Nat)} (h : Qrs w p qs) (n : Nw w w') : Qrs w' p qs := fun i k x y z hi => by
  obtain ⟨g, o, e, hg, c0, c1, c2, c3⟩ := h i k x y z hi
  exact ⟨g, o, e, Nat.lt_of_lt_of_le hg n.size, n.cellOf c0, n.cellOf c1, n.cellOf c2, n.cellOf c3⟩
/-- The numbers are ones of 64 bits. -/
def Qok (qs : List (Int × Nat × Nat × Nat)) : Prop := ∀ q ∈ qs, (-9223372036854775808 ≤ q.1 ∧ q.1 ≤ 9223372036854775807) ∧ q.2.1 < 18446744073709551616 ∧ q.2.2.1 < 18446744073709551616 ∧ q.2.2.2 < 18446744073709551616
theorem TabAt.frI {S : Nat → Prop} {B : Nat} {w w' : World} (h : TabAt w) (hB : 20 < B) (f : Fr S w w') (hS : ∀ k, S k → B ≤ k) : TabAt w' := fun j hj => (f.cell (p := ⟨20, j, none⟩) (World.block_lt_of_cell? w _ (h j hj)) (fun q => by have h2 : B ≤ 20 := hS _ q; omega)).trans (h j hj)
theorem TabAt.lt {w : World} (h : TabAt w) : 20 < w.heap.size := World.block_lt_of_cell? w _ (h 0 (by decide))
/-- What lies at the head of the loop over the queries. -/
structure Hd16 (w wr : World) (n B K rb eb lb base : Nat) (v : Value) (qb : Nat) (qc : Array Value) (s : RS) : Prop where
  at_ : s.At (ldH n) B K wr
  eng : Eng s wr eb n
  rb : s.rb = rb
  lg : Lg wr lb base v (ldS n)
  lt : s.tg lb = 9 ∧ ∀ q, v.ownBlock = some q → s.tg q = 9
  bx : wr.heap[qb]? = some (.cells qc 24) ∧ s.tg qb = 9
  nw : Nw w wr
theorem Hd16.nx {w wr w' : World} {n B K rb eb lb base : Nat} {v : Value} {qb : Nat} {qc : Array Value} {s s' : RS} {T : Nat} {fl : Bool} (h : Hd16 w wr n B K rb eb lb base v qb qc s) (hB : B = w.heap.size) (hn : (ldH n).length = n) (o : Outc s s' (ldH n) B K T wr w' eb fl) (l : Lg w' lb base v (ldS n)) (hv : ∀ q, v.ownBlock = some q → q < wr.heap.size) : Hd16 w w' n B (K + T) rb eb lb base v qb qc s' :=
  ⟨o.at_, by have := o.eng; rw [hn] at this; exact this, o.le.rb.trans h.rb, l, ⟨(o.le.tg _ (heap_lt h.lg.blk)).trans h.lt.1, fun q hq => (o.le.tg _ (hv q hq)).trans (h.lt.2 q hq)⟩, ⟨(o.fr.block _ (heap_lt h.bx.1) (fun q => by have := h.bx.2; unfold RS.Ff at q; omega)).trans h.bx.1, (o.le.tg _ (heap_lt h.bx.1)).trans h.bx.2⟩, h.nw.trans o.fr (fun j hj q => by have := h.at_.bt j q; omega)⟩
theorem Hd16.nwt {w wr w' : World} {n B K rb eb lb base : Nat} {v : Value} {qb : Nat} {qc : Array Value} {s : RS} (h : Hd16 w wr n B K rb eb lb base v qb qc s) (f : Nw wr w') : Hd16 w w' n B K rb eb lb base v qb qc s :=
  ⟨h.at_.nw f, h.eng.nw f, h.rb, h.lg.nw f, h.lt, ⟨(f.block _ (heap_lt h.bx.1) (fun q => q)).trans h.bx.1, h.bx.2⟩, h.nw.tr f⟩
theorem Hd16.more {w wr : World} {n B K K' rb eb lb base : Nat} {v : Value} {qb : Nat} {qc : Array Value} {s : RS} (h : Hd16 w wr n B K rb eb lb base v qb qc s) (hk : K ≤ K') : Hd16 w wr n B K' rb eb lb base v qb qc s :=
  ⟨h.at_.more hk, h.eng, h.rb, h.lg, h.lt, h.bx, h.nw⟩
theorem Lg.own_lt {w : World} {b base : Nat} {v : Value} {L : List ByteArray} (h : Lg w b base v L) : ∀ q, v.ownBlock = some q → q < w.heap.size := fun q hq => (h.own.lt q hq).2
end Go.Proofs.YtjkhcplnedcmeaaGreatDoor
