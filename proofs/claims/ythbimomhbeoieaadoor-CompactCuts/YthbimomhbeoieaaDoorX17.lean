/- CompactNone: the walk. -/
import Derived.Test.YthbimomhbeoieaaDoorX16
namespace Go.Proofs.YthbimomhbeoieaaDoor
open Go.RowKit Go.Shelf
set_option linter.unusedVariables false
set_option linter.unusedSimpArgs false
theorem isj {w : World} {B : Nat} {a : Nat → Addr} (hS : Sent B w a) (j : Nat) (hj : j < 16) (W : World) (hW : Nw w W) : Calls Tryd.prog 8 #[sen (a j), .int .i64 ((j + 1 : Nat) : Int)] W fun e w' => e = .returned (.bool true) ∧ Nw W w' := by
  have hsb : sameB (j + 1) none ((j + 1 : Nat) : Int) (-1) = true := by simp [sameB]
  have q := isE_any (hS.fr hW (fun _ _ f => f)) (show EV W a (sen (a j)) (j + 1) none from .inr (.inl ⟨j, hj, rfl, rfl, rfl⟩)) ((j + 1 : Nat) : Int)
  rw [hsb] at q
  exact q
section
variable {w : World} {ops : Array Oper} {rest : List Oper} {o : Oper} {a : Act} {Q : Exit → Act → World → Prop}
theorem wpl_neq (hwant : Region.wanted o (yielded ops a.tmps) = true) (x y : Operand) (ho : o.op = .binOp .neq 24 x y 24) (A : List UInt8) (hA : A.length = 32) (hx : a.eval x = .agg (hbs A)) (hy : a.eval y = .agg (hbs A))
    (h : wpList Tryd.prog ops Q rest (a.put o.dst (.bool false)) w) : wpList Tryd.prog ops Q (o :: rest) a w := by
  refine wpList_step fun K hK => ?_
  rw [if_pos hwant]
  unfold Oper.wp execOp
  simp only [ho, hx, hy, run_eqGuard, hbs_neq A hA w, Sem.run_bind, Sem.run_pure, Result.andThen_ok]
  exact hK _ _ h
theorem wpl_zeroz {Z : List UInt8} (hZ : Z = zh) (hwant : Region.wanted o (yielded ops a.tmps) = true) (ho : o.op = .build 24 #[])
    (h : wpList Tryd.prog ops Q rest (a.put o.dst (.agg (hbs Z))) w) : wpList Tryd.prog ops Q (o :: rest) a w := by
  rw [hZ] at h; exact wpl_zero hwant ho h
end
set_option maxRecDepth 100000 in
set_option maxHeartbeats 4000000 in
theorem none9_any (n : Nat) (hn : n < 18446744073709551616) (x : List UInt8) (hx : x.length = 32) (w : World) (hL : Laid w) {B : Nat} {a : Nat → Addr} (hS : Sent B w a) :
    Calls Tryd.prog 3 #[.int .u64 (n : Int), .agg (hbs x)] w fun e w' => e = .returned (.bool true) ∧ Nw w w' := by
  have HL : Hid (Laid w) := hL
  have HS : Hid (Sent B w a) := hS
  have SS : Hid (∀ V, Nw w V → Sent B V a) := fun V nV => HS.out.fr nV (fun _ _ f => f)
  have hxs : (hbs x).size = 32 := by rw [hbs_size, hx]
  have X32 : Hid (x.length = 32) := hx
  have hZs : (hbs zh).size = 32 := by rw [hbs_size]; simp
  have Z32 : Hid (zh.length = 32) := List.length_replicate
  have QI : Hid (∀ V, Nw w V → Calls Tryd.prog 8 #[sen (a 0), .int .i64 1] V fun e w' => e = .returned (.bool true) ∧ Nw V w') := fun V nV => isj HS.out 0 (by decide) V nV
  have QA : Hid (∀ V, Nw w V → Calls Tryd.prog 15 #[] V fun e w' => e = .returned (.bool true) ∧ Nw V w') := fun V nV => alive9_any V (HL.out.nw nV)
  have BZ : Hid (∀ W : World, (Instr.build 24 #[]).run Tryd.prog W = .ok (.agg (hbs zh)) W) := build_zero
  obtain ⟨Z, hZ⟩ : ∃ Z, Z = zh := ⟨_, rfl⟩
  rw [← hZ] at hZs Z32 BZ
  have HZ : Hid (Z = zh) := hZ
  clear hL hS hx hZ
  go_enter Tryd.func3, Tryd.ntmps3
  go_upto_region 3 with fail
  obtain ⟨w0, hw0⟩ : ∃ q, w.alloc (.cells (hbs x) 24) = q := ⟨_, rfl⟩
  have n0 : Nw w w0 := by rw [← hw0]; exact nwa w _
  have b0 : w0.heap[w.heap.size]? = some (.cells (hbs x) 24) := by rw [← hw0]; exact heap_new _ _
  have s0 : w0.heap.size = w.heap.size + 1 := by rw [← hw0]; simp
  rw [hw0]
  obtain ⟨xb, hxb⟩ : ∃ q, q = w.heap.size := ⟨_, rfl⟩
  rw [← hxb] at b0 s0 ⊢
  obtain ⟨w1, hw1⟩ : ∃ q, w0.alloc (.cells #[.bool false, .int .u64 0, .int .u64 0, .slice none 0 0] 30) = q := ⟨_, rfl⟩
  have n1 : Nw w0 w1 := by rw [← hw1]; exact nwa w0 _
  have b1 : w1.heap[w0.heap.size]? = some (.cells #[.bool false, .int .u64 0, .int .u64 0, .slice none 0 0] 30) := by rw [← hw1]; exact heap_new _ _
  rw [hw1]
  rw [s0] at b1
  have BX : Hid (w1.heap[xb]? = some (.cells (hbs x) 24)) := (n1.block _ (heap_lt b0) (fun f => f)).trans b0
  have BR : Hid (w1.heap[xb + 1]? = some (.cells #[.bool false, .int .u64 0, .int .u64 0, .slice none 0 0] 30)) := b1
  have N1 : Hid (Nw w w1) := n0.tr n1
  clear hw0 hw1 n0 n1 b0 b1 s0 hxb
  have q2 := rnew_any n hn w1 (HL.out.nw N1.out)
  go_wp2_with fail
  refine q2.mono ?_
  rintro e w2 ⟨rfl, g2, s2, n2⟩
  obtain ⟨rb, hrb⟩ : ∃ q, q = w1.heap.size := ⟨_, rfl⟩
  rw [← hrb] at g2 ⊢
  have N2 : Hid (Nw w w2) := N1.out.tr n2
  have BX2 : Hid (w2.heap[xb]? = some (.cells (hbs x) 24)) := (n2.block _ (heap_lt BX.out) (fun f => f)).trans BX.out
  have NR : Hid (∀ V, Nw w2 V → NoR V (.pointer (some ⟨xb + 1, 0, none⟩))) := fun V nV => .inr ⟨_, _, _, _, rfl, ((n2.tr nV).block _ (heap_lt BR.out) (fun f => f)).trans BR.out⟩
  have NN0 : Hid (∀ V, Nw w2 V → NoR V (.pointer none)) := fun V nV => .inl rfl
  have G2 : Hid (Rg w2 rb (rb + 1) (.slice none 0 0) n n []) := g2
  have QX1 : Hid (∀ V, Nw w2 V → Calls Tryd.prog 9 #[.pointer none, .agg (hbs x)] V fun e w' => e = .returned (sen (a 0)) ∧ Nw V w') := fun V nV => rappend_no (NN0.out V nV) x X32.out (SS.out V (N2.out.tr nV))
  have QX2 : Hid (∀ V, Nw w2 V → Calls Tryd.prog 9 #[.pointer (some ⟨xb + 1, 0, none⟩), .agg (hbs x)] V fun e w' => e = .returned (sen (a 0)) ∧ Nw V w') := fun V nV => rappend_no (NR.out V nV) x X32.out (SS.out V (N2.out.tr nV))
  have QJ1 : Hid (∀ V, Nw w2 V → Calls Tryd.prog 10 #[.pointer none, .pointer (some ⟨rb, 0, none⟩)] V fun e w' => e = .returned (sen (a 0)) ∧ w' = V) := fun V nV => rjoin_nol (NN0.out V nV) (SS.out V (N2.out.tr nV))
  have QJ2 : Hid (∀ V, Nw w2 V → Calls Tryd.prog 10 #[.pointer (some ⟨xb + 1, 0, none⟩), .pointer (some ⟨rb, 0, none⟩)] V fun e w' => e = .returned (sen (a 0)) ∧ w' = V) := fun V nV => rjoin_nol (NR.out V nV) (SS.out V (N2.out.tr nV))
  have QJ3 : Hid (∀ V, Nw w2 V → Calls Tryd.prog 10 #[.pointer (some ⟨rb, 0, none⟩), .pointer none] V fun e w' => e = .returned (sen (a 0)) ∧ w' = V) := fun V nV => rjoin_nor (G2.out.nw nV) (NN0.out V nV) (SS.out V (N2.out.tr nV))
  have QJ4 : Hid (∀ V, Nw w2 V → Calls Tryd.prog 10 #[.pointer (some ⟨rb, 0, none⟩), .pointer (some ⟨xb + 1, 0, none⟩)] V fun e w' => e = .returned (sen (a 0)) ∧ w' = V) := fun V nV => rjoin_nor (G2.out.nw nV) (NR.out V nV) (SS.out V (N2.out.tr nV))
  have QR : Hid (∀ p V, NoR V p → Nw w2 V → Calls Tryd.prog 11 #[p] V fun e w' => e = .returned (.tuple #[.agg (hbs Z), sen (a 0)]) ∧ Nw V w') := fun p V h nV => by rw [HZ.out]; exact rroot_no h (SS.out V (N2.out.tr nV))
  have NN : Hid (Nw w2 w2) := nwr w2
  clear g2 s2 n2 hrb q2 N1 BX BR
  -- WALK
  go_wp2_with (refine wpl_load rfl (.tmp 3) rfl xb 0 rfl x X32.out (hash_cells ((NN.out.block _ (heap_lt BX2.out) (fun f => f)).trans BX2.out)) ?_)
  refine (QX1.out _ NN.out).mono ?_
  rintro e wz ⟨rfl, nz⟩
  have NN : Hid (Nw w2 wz) := NN.out.tr nz
  clear nz
  go_wp2_with fail
  refine (QI.out _ (N2.out.tr NN.out)).mono ?_
  rintro e wz ⟨rfl, nz⟩
  have NN : Hid (Nw w2 wz) := NN.out.tr nz
  clear nz
  go_wp2_with (refine wpl_load rfl (.tmp 3) rfl xb 0 rfl x X32.out (hash_cells ((NN.out.block _ (heap_lt BX2.out) (fun f => f)).trans BX2.out)) ?_)
  refine (QX2.out _ NN.out).mono ?_
  rintro e wz ⟨rfl, nz⟩
  have NN : Hid (Nw w2 wz) := NN.out.tr nz
  clear nz
  go_wp2_with fail
  refine (QI.out _ (N2.out.tr NN.out)).mono ?_
  rintro e wz ⟨rfl, nz⟩
  have NN : Hid (Nw w2 wz) := NN.out.tr nz
  clear nz
  go_wp2_with fail
  refine (QJ1.out _ NN.out).mono ?_
  rintro e wj1 ⟨rfl, rfl⟩
  go_wp2_with fail
  refine (QI.out _ (N2.out.tr NN.out)).mono ?_
  rintro e wz ⟨rfl, nz⟩
  have NN : Hid (Nw w2 wz) := NN.out.tr nz
  clear nz
  go_wp2_with fail
  refine (QJ2.out _ NN.out).mono ?_
  rintro e wj2 ⟨rfl, rfl⟩
  go_wp2_with fail
  refine (QI.out _ (N2.out.tr NN.out)).mono ?_
  rintro e wz ⟨rfl, nz⟩
  have NN : Hid (Nw w2 wz) := NN.out.tr nz
  clear nz
  go_wp2_with fail
  refine (QJ3.out _ NN.out).mono ?_
  rintro e wj3 ⟨rfl, rfl⟩
  go_wp2_with fail
  refine (QI.out _ (N2.out.tr NN.out)).mono ?_
  rintro e wz ⟨rfl, nz⟩
  have NN : Hid (Nw w2 wz) := NN.out.tr nz
  clear nz
  go_wp2_with fail
  refine (QJ4.out _ NN.out).mono ?_
  rintro e wj4 ⟨rfl, rfl⟩
  go_wp2_with fail
  refine (QI.out _ (N2.out.tr NN.out)).mono ?_
  rintro e wz ⟨rfl, nz⟩
  have NN : Hid (Nw w2 wz) := NN.out.tr nz
  clear nz
  go_wp2_with fail
  refine (QR.out _ _ (NN0.out _ NN.out) NN.out).mono ?_
  rintro e w3 ⟨rfl, nz⟩
  have NN : Hid (Nw w2 w3) := NN.out.tr nz
  clear nz
  go_wp2_with (refine wp_store_agg rfl (.tmp 8) (.tmp 63) 24 32 rfl Tryd.sizeOf24 w3.heap.size 0 rfl _ 24 (heap_new _ _) (hbs Z) rfl hZs (hbs_one _) (by decide) (hbs Z) (by simp) ?_; intro w4 j4 f4 zz; clear zz; have NN : Hid (Nw w2 w4) := (NN.out.alloc _).trans f4 (fun k hk q => by have := NN.out.size; omega); have J4 : Hid (w4.heap[w3.heap.size]? = some (.cells (hbs Z) 24 (0, 0))) := j4; clear j4 f4)
  obtain ⟨b8, hb8⟩ : ∃ b8, b8 = w3.heap.size := ⟨_, rfl⟩
  rw [← hb8] at J4 ⊢
  clear hb8
  refine (QR.out _ _ (NR.out _ NN.out) NN.out).mono ?_
  rintro e w5 ⟨rfl, nz⟩
  have N5 : Hid (Nw w4 w5) := nz
  have N25 : Hid (Nw w2 w5) := NN.out.tr nz
  clear nz
  go_wp2_with first
    | (refine wp_store_agg rfl (.tmp 10) (.tmp 68) 24 32 rfl Tryd.sizeOf24 w5.heap.size 0 rfl _ 24 (heap_new _ _) (hbs Z) rfl hZs (hbs_one _) (by decide) (hbs Z) (by simp) ?_; intro w6 j6 f6 zz; clear zz; have NN : Hid (Nw w2 w6) := (N25.out.alloc _).trans f6 (fun k hk q => by have := N25.out.size; omega); have N6 : Hid (Nw w4 w6) := (N5.out.alloc _).trans f6 (fun k hk q => by have := N5.out.size; omega); have J6 : Hid (w6.heap[w5.heap.size]? = some (.cells (hbs Z) 24 (0, 0))) := j6; clear j6 f6; have J8 : Hid (w6.heap[b8]? = some (.cells (hbs Z) 24 (0, 0))) := (N6.out.block _ (heap_lt J4.out) (fun f => f)).trans J4.out)
    | refine wpl_load rfl (.tmp 8) rfl b8 0 rfl Z Z32.out (hash_cells J8.out) ?_
    | refine wpl_load rfl (.tmp 10) rfl w5.heap.size 0 rfl Z Z32.out (hash_cells J6.out) ?_
    | refine wpl_zeroz HZ.out rfl rfl ?_
    | refine wpl_neq rfl (.tmp 70) (.tmp 71) rfl Z Z32.out rfl rfl ?_
    | refine wpl_neq rfl (.tmp 74) (.tmp 75) rfl Z Z32.out rfl rfl ?_
  refine (QI.out _ (N2.out.tr NN.out)).mono ?_
  rintro e wz ⟨rfl, nz⟩
  have NN : Hid (Nw w2 wz) := NN.out.tr nz
  clear nz
  go_wp2_with fail
  refine (QI.out _ (N2.out.tr NN.out)).mono ?_
  rintro e wz ⟨rfl, nz⟩
  have NN : Hid (Nw w2 wz) := NN.out.tr nz
  clear nz
  go_wp2_with fail
  refine (rcopy_no (NN0.out _ NN.out)).mono ?_
  rintro e wk1 ⟨rfl, rfl⟩
  go_wp2_with fail
  refine (rcopy_no (NR.out _ NN.out)).mono ?_
  rintro e wk2 ⟨rfl, rfl⟩
  go_wp2_with fail
  refine (rspan_no (NN0.out _ NN.out)).mono ?_
  rintro e wz ⟨rfl, nz⟩
  have NN : Hid (Nw w2 wz) := NN.out.tr nz
  clear nz
  go_wp2_with fail
  refine (rspan_no (NR.out _ NN.out)).mono ?_
  rintro e wz ⟨rfl, nz⟩
  have NN : Hid (Nw w2 wz) := NN.out.tr nz
  clear nz
  go_wp2_with fail
  refine (rhashes_no (NN0.out _ NN.out)).mono ?_
  rintro e wk3 ⟨rfl, rfl⟩
  go_wp2_with fail
  refine (rhashes_no (NR.out _ NN.out)).mono ?_
  rintro e wk4 ⟨rfl, rfl⟩
  go_wp2_with fail
  refine (QA.out _ (N2.out.tr NN.out)).mono ?_
  rintro e wz ⟨rfl, nz⟩
  have NN : Hid (Nw w2 wz) := NN.out.tr nz
  clear nz
  go_wp2
  go_ret
  exact ⟨rfl, N2.out.tr NN.out⟩
end Go.Proofs.YthbimomhbeoieaaDoor
