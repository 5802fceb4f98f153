/- CachePlays: one call of one of the caches. -/
import Derived.Test.YtgdjoaiahigjpaaGreatDoorPl2
import Derived.Deep.RegionHeld3
import Derived.Test.YtgdjoaiahigjpaaGreatDoorKg
namespace Go.Proofs.YtgdjoaiahigjpaaGreatDoor
namespace RC
open Go.RowKit
open CI (Cx getA putA dropA kok)
set_option linter.unusedVariables false
set_option linter.unusedSimpArgs false
theorem and1 (n : Int) : ∃ k : Nat, k < 2 ∧ bits .and .i64 n 1 = (k : Int) := by
  have h1 : (BitVec.ofInt 64 1).toNat = 2 ^ 1 - 1 := by decide
  have key : (BitVec.ofInt 64 n &&& BitVec.ofInt 64 1).toNat = (n % ((2 ^ 64 : Nat) : Int)).toNat % 2 ^ 1 := by
    rw [BitVec.toNat_and, BitVec.toNat_ofInt, h1, Nat.and_two_pow_sub_one_eq_mod]
  have e : bits .and .i64 n 1 = IntKind.i64.wrap ((BitVec.ofInt 64 n &&& BitVec.ofInt 64 1).toNat : Nat) := rfl
  rw [e, key, IntKind.wrap_i64]
  refine ⟨(n % 2).toNat, by omega, by omega⟩
section
variable {w W : World} {wb N : Nat} {b r c : Nat → Nat} {LS LR : Nat → LT} {tg : Nat → Nat} {k : Nat}
theorem Pw.getS (h : Pw w W wb N b r c LS LR tg) (hk : k < 2) (x : Int) (hx : kok x) :
    Calls Tryz.prog 9 #[ptr (b k), .int .i64 x] W fun e V => e = .returned (.tuple #[.int .i64 (getA (LS k) x).1, .bool (getA (LS k) x).2.1]) ∧ Pw w V wb N b r c (up LS k (getA (LS k) x).2.2) LR (tgn tg W.heap.size k) ∧ Fr (fun q => tg q = k) W V := by
  refine (CI.get_any (h.cs k hk) x hx).mono ?_
  rintro e V ⟨rfl, C, F⟩
  exact ⟨rfl, h.setS hk (Nat.le_refl _) (C.mono (fun _ _ e => .inl e) (Nat.le_refl _)) F, F⟩
theorem Pw.putS (h : Pw w W wb N b r c LS LR tg) (hk : k < 2) (x y : Int) (hx : kok x) (hN : N < 4611686018427387900) :
    Calls Tryz.prog 11 #[ptr (b k), .int .i64 x, .int .i64 y] W fun e V => e = .returned (.tuple #[.int .i64 (putA (c k) (LS k) x y).1, .bool (putA (c k) (LS k) x y).2.1]) ∧ Pw w V wb (N + 2) b r c (up LS k (putA (c k) (LS k) x y).2.2) LR (tgn tg W.heap.size k) ∧ Fr (fun q => tg q = k) W V := by
  refine (CI.put_any (h.cs k hk) x y hx hN).mono ?_
  rintro e V ⟨rfl, C, F⟩
  exact ⟨rfl, h.setS hk (by omega) C F, F⟩
theorem Pw.dropS (h : Pw w W wb N b r c LS LR tg) (hk : k < 2) (x : Int) (hx : kok x) (hN : N < 4611686018427387900) :
    Calls Tryz.prog 13 #[ptr (b k), .int .i64 x] W fun e V => e = .returned (.bool (dropA (LS k) x).1) ∧ Pw w V wb (N + 1) b r c (up LS k (dropA (LS k) x).2) LR (tgn tg W.heap.size k) ∧ Fr (fun q => tg q = k) W V := by
  refine (CI.drop_any (h.cs k hk) x hx (by omega)).mono ?_
  rintro e V ⟨rfl, C, F⟩
  exact ⟨rfl, h.setS hk (by omega) (C.mono (fun _ _ e => .inl e) (Nat.le_refl _)) F, F⟩
theorem Pw.rk (h : Pw w W wb N b r c LS LR tg) (hk : k < 2) : tg (r k) = 2 + k := by obtain ⟨_, _, _, _, h4⟩ := h.ds k hk; exact h4
theorem Pw.frR (h : Pw w W wb N b r c LS LR tg) (hk : k < 2) {V : World} (F : Fr (fun q => q = r k) W V) : Fr (fun q => tg q = 2 + k) W V := F.mono (fun q _ e => by subst e; exact h.rk hk)
theorem Pw.getR (h : Pw w W wb N b r c LS LR tg) (hk : k < 2) (x : Int) (hl : (LR k).length ≤ 1500) :
    Calls Tryz.prog 10 #[ptr (r k), .int .i64 x] W fun e V => e = .returned (.tuple #[.int .i64 (getA (LR k) x).1, .bool (getA (LR k) x).2.1]) ∧ Pw w V wb N b r c LS (up LR k (getA (LR k) x).2.2) (tgn tg W.heap.size (2 + k)) ∧ Fr (fun q => tg q = 2 + k) W V := by
  refine (dget_any (h.ds k hk) x hl).mono ?_
  rintro e V ⟨rfl, C, F⟩
  exact ⟨rfl, h.setR hk C F, h.frR hk F⟩
theorem Pw.putR (h : Pw w W wb N b r c LS LR tg) (hk : k < 2) (x y : Int) (hl : (LR k).length ≤ 1500) (hc : c k ≤ 1024) :
    Calls Tryz.prog 12 #[ptr (r k), .int .i64 x, .int .i64 y] W fun e V => e = .returned (.tuple #[.int .i64 (putA (c k) (LR k) x y).1, .bool (putA (c k) (LR k) x y).2.1]) ∧ Pw w V wb N b r c LS (up LR k (putA (c k) (LR k) x y).2.2) (tgn tg W.heap.size (2 + k)) ∧ Fr (fun q => tg q = 2 + k) W V := by
  refine (dput_any (h.ds k hk) x y hl hc).mono ?_
  rintro e V ⟨rfl, C, F⟩
  exact ⟨rfl, h.setR hk C F, h.frR hk F⟩
theorem Pw.dropR (h : Pw w W wb N b r c LS LR tg) (hk : k < 2) (x : Int) (hl : (LR k).length ≤ 1500) :
    Calls Tryz.prog 14 #[ptr (r k), .int .i64 x] W fun e V => e = .returned (.bool (dropA (LR k) x).1) ∧ Pw w V wb N b r c LS (up LR k (dropA (LR k) x).2) (tgn tg W.heap.size (2 + k)) ∧ Fr (fun q => tg q = 2 + k) W V := by
  refine (ddrop_any (h.ds k hk) x hl).mono ?_
  rintro e V ⟨rfl, C, F⟩
  exact ⟨rfl, h.setR hk C F, h.frR hk F⟩
/-- Blocks that are new have no part in it. -/
theorem Pw.tag9 (h : Pw w W wb N b r c LS LR tg) : Pw w W wb N b r c LS LR (tgn tg W.heap.size 9) := by
  have hww := h.nw.size
  refine ⟨h.nw, fun q hq => by rw [tgn_lt (by omega)]; exact h.old q hq, h.blk, by rw [tgn_lt (heap_lt h.blk)]; exact h.twb, fun j hj => ?_, fun j hj => ?_⟩
  · exact (h.cs j hj).mono (fun q hq e => by show tgn tg W.heap.size 9 q = j; rw [tgn_lt hq]; exact e) (Nat.le_refl _)
  · exact (h.ds j hj).mono (fun q hq e => by show tgn tg W.heap.size 9 q = 2 + j; rw [tgn_lt hq]; exact e)
theorem Pw.more (h : Pw w W wb N b r c LS LR tg) {N' : Nat} (hN : N ≤ N') : Pw w W wb N' b r c LS LR tg :=
  ⟨h.nw, h.old, h.blk, h.twb, fun j hj => (h.cs j hj).mono (fun _ _ e => e) hN, h.ds⟩
theorem Pw.lens (h : Pw w W wb N b r c LS LR tg) (hk : k < 2) : (LS k).length ≤ 1024 ∧ c k ≤ 1024 := by
  have := (h.cs k hk).len
  omega
end
abbrev opc (kd on x y : Int) : Obj := .cells #[.int .i64 kd, .int .i64 on, .int .i64 x, .int .i64 y] 40
theorem opc_cs {V : World} {bx : Nat} {kd on x y : Int} (h : V.heap[bx]? = some (opc kd on x y)) : V.cell? ⟨bx, 0, none⟩ = some (.int .i64 kd) ∧ V.cell? ⟨bx, 1, none⟩ = some (.int .i64 on) ∧ V.cell? ⟨bx, 2, none⟩ = some (.int .i64 x) ∧ V.cell? ⟨bx, 3, none⟩ = some (.int .i64 y) ∧ bx < V.heap.size :=
  ⟨(cell_of h 0).trans rfl, (cell_of h 1).trans rfl, (cell_of h 2).trans rfl, (cell_of h 3).trans rfl, heap_lt h⟩
set_option maxRecDepth 100000 in
set_option maxHeartbeats 1000000 in
theorem does_get {w W : World} {wb N : Nat} {b r c : Nat → Nat} {L : Nat → LT} {tg : Nat → Nat} (h : Pw w W wb N b r c L L tg) (on x y : Int) (hx : kok x) :
    Calls Tryz.prog 6 #[ptr wb, .agg #[.int .i64 1, .int .i64 on, .int .i64 x, .int .i64 y]] W fun e V => e = .returned (.bool true) ∧ ∃ b' r' c' L' tg', Pw w V wb (N + 2) b' r' c' L' L' tg' := by
  obtain ⟨k, hk, hand⟩ := and1 on
  obtain ⟨w1, hw1⟩ : ∃ w1, W.alloc (opc 1 on x y) = w1 := ⟨_, rfl⟩
  have b1 : w1.heap[W.heap.size]? = some (opc 1 on x y) := by rw [← hw1]; exact heap_new _ _
  have P1 := h.tag9.go (show Nw W w1 by rw [← hw1]; exact (Fr.refl _ _).alloc _)
  have t9 : tgn tg W.heap.size 9 W.heap.size = 9 := tgn_ge (Nat.le_refl _)
  generalize tgn tg W.heap.size 9 = tg1 at P1 t9
  obtain ⟨hl, hc⟩ := P1.lens hk
  have q1 := P1.getS hk x hx
  obtain ⟨e0, e1⟩ := h.cell hk
  have lw := heap_lt h.blk
  have HB : Hid (w1.heap[W.heap.size]? = some (opc 1 on x y)) := b1
  have HW1 : Hid (W.alloc (opc 1 on x y) = w1) := hw1
  have hki : (k : Int) < 2 := by omega
  have hk0 : (0 : Int) ≤ (k : Int) := by omega
  generalize hA : getA (L k) x = A at q1
  have HA : Hid (getA (L k) x = A) := hA
  have HL : Hid ((L k).length ≤ 1500) := by show _ ≤ _; omega
  clear h b1 hw1 hA P1 hl hc
  go_enter Tryz.func6, Tryz.ntmps6
  go_wp2_with fail
  rw [HW1.out]
  refine q1.mono ?_
  rintro e w2 ⟨rfl, P2, f2⟩
  have b2 := (f2.block _ (heap_lt HB.out) (fun e => by omega)).trans HB.out
  clear e0 e1 lw
  obtain ⟨d0, d1, d2, d3, lx⟩ := opc_cs b2
  have q2 := P2.getR hk x HL.out
  rw [HA.out] at q2
  clear P2 f2 q1 b2
  go_wp2_with fail
  refine q2.mono ?_
  rintro e w3 ⟨rfl, P3, f3⟩
  have HP : Hid (Pw w w3 wb (N + 2) b r c (up L k A.2.2) (up L k A.2.2) _) := P3.more (by omega)
  have z1 : (A.1 == A.1) = true := by simp
  have z2 : (A.2.1 == A.2.1) = true := by simp
  clear q2 P3 f3
  go_wp2
  go_ret
  exact ⟨by simp, _, _, _, _, _, HP.out⟩
end RC
end Go.Proofs.YtgdjoaiahigjpaaGreatDoor
