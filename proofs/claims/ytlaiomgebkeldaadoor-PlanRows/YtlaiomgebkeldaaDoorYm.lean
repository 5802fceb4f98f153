/- plan: PlanRows. -/
import Derived.Test.YtlaiomgebkeldaaDoorYl
import Derived.Test.YtlaiomgebkeldaaDoorYk
namespace Go.Proofs.YtlaiomgebkeldaaDoor
open Go.RowKit
set_option linter.unusedVariables false
set_option linter.unusedSimpArgs false
set_option maxRecDepth 100000 in
set_option maxHeartbeats 4000000 in
theorem planrows_any (i o b e n : Nat) (hi : i < 18446744073709551616) (ho : o < 18446744073709551616) (hb : b < 18446744073709551616) (he : e < 18446744073709551616) (hn : n < 18446744073709551616) (w : World) (hT : TabAt w) (hL : Laid w) {B : Nat} {a : Nat → Addr} (hS : Sent B w a) (hgb : 20 ≤ w.heap.size) :
    Calls Tryd.prog 5 #[.agg #[.int .u64 (i : Int), .int .u64 (o : Int), .int .u64 (b : Int), .int .u64 (e : Int), .int .u64 (n : Int)]] w fun x w' => x = .returned (.bool true) ∧ Nw w w' := by
  have Q1 : Hid (Rws2 w 24 17 #[.int .u64 (i : Int), .int .u64 (n : Int)]) := rows_path i n hi hn w hT hS
  have Q2 : Hid (Rws2 w 26 20 #[.int .u64 (o : Int), .int .u64 (n : Int)]) := rows_proof o n ho hn w hT hS
  have Q3 : Hid (Rws2 w 27 22 #[.int .u64 (b : Int), .int .u64 (e : Int), .int .u64 (n : Int)]) := rows_batch b e n hb he hn w hT hS
  have QA : Hid (∀ W, Nw w W → Calls Tryd.prog 13 #[] W fun x w' => x = .returned (.bool true) ∧ Nw W w') := fun W nW => alive15_any W (hT.nw nW) (hL.nw nW) (hS.fr nW (fun _ _ f => f)) (Nat.le_trans hgb nW.size)
  have N0 : Hid (Nw w (w.alloc (.cells #[.int .u64 (i : Int), .int .u64 (o : Int), .int .u64 (b : Int), .int .u64 (e : Int), .int .u64 (n : Int)] 60))) := nwa w _
  have b0 := heap_new w (.cells #[.int .u64 (i : Int), .int .u64 (o : Int), .int .u64 (b : Int), .int .u64 (e : Int), .int .u64 (n : Int)] 60)
  obtain ⟨w0, hw0⟩ : ∃ q, q = w.alloc (.cells #[.int .u64 (i : Int), .int .u64 (o : Int), .int .u64 (b : Int), .int .u64 (e : Int), .int .u64 (n : Int)] 60) := ⟨_, rfl⟩
  rw [← hw0] at N0 b0
  have C : Hid (∀ W, Nw w0 W → W.cell? ⟨w.heap.size, 0, none⟩ = some (.int .u64 (i : Int)) ∧ W.cell? ⟨w.heap.size, 1, none⟩ = some (.int .u64 (o : Int)) ∧ W.cell? ⟨w.heap.size, 2, none⟩ = some (.int .u64 (b : Int)) ∧ W.cell? ⟨w.heap.size, 3, none⟩ = some (.int .u64 (e : Int)) ∧ W.cell? ⟨w.heap.size, 4, none⟩ = some (.int .u64 (n : Int)) ∧ w.heap.size < W.heap.size) := fun W nW => by
    have h := (nW.block _ (heap_lt b0) (fun f => f)).trans b0
    exact ⟨(cell_of h 0).trans rfl, (cell_of h 1).trans rfl, (cell_of h 2).trans rfl, (cell_of h 3).trans rfl, (cell_of h 4).trans rfl, heap_lt h⟩
  obtain ⟨c0, c1, c2, c3, c4, l0⟩ := C.out w0 (nwr w0)
  clear hi ho hb he hn hT hL hS hgb b0
  go_enter Tryd.func5, Tryd.ntmps5
  go_upto_region 1 with fail
  rw [← hw0]
  clear hw0
  obtain ⟨bq, hbq⟩ : ∃ q, q = w.heap.size := ⟨_, rfl⟩
  rw [← hbq] at C c0 c1 c2 c3 c4 l0 ⊢
  clear hbq
  go_wp2_with fail
  refine (Q1.out _ N0.out).mono ?_
  rintro x w1 ⟨s, f, rfl, n1, k1⟩
  have K1 : Hid (∀ W2, Nw w1 W2 → _) := k1
  have M1 : Hid (Nw w0 w1) := n1
  obtain ⟨c0, c1, c2, c3, c4, l0⟩ := C.out w1 M1.out
  clear k1 n1
  go_wp2_with fail
  refine (K1.out _ (nwr w1)).mono ?_
  rintro x w2 ⟨p, f2, rfl, n2, k2⟩
  have K2 : Hid (∀ V, Nw w2 V → _) := k2
  have M2 : Hid (Nw w0 w2) := M1.out.tr n2
  obtain ⟨c0, c1, c2, c3, c4, l0⟩ := C.out w2 M2.out
  clear k2 n2
  go_wp2_with fail
  refine (K2.out _ (nwr w2)).mono ?_
  rintro x w3 ⟨rfl, n3⟩
  have M3 : Hid (Nw w0 w3) := M2.out.tr n3
  obtain ⟨c0, c1, c2, c3, c4, l0⟩ := C.out w3 M3.out
  clear n3
  go_wp2_with fail
  refine (Q2.out _ (N0.out.tr M3.out)).mono ?_
  rintro x w4 ⟨s4, f4, rfl, n4, k4⟩
  have K4 : Hid (∀ W2, Nw w4 W2 → _) := k4
  have M4 : Hid (Nw w0 w4) := M3.out.tr n4
  obtain ⟨c0, c1, c2, c3, c4, l0⟩ := C.out w4 M4.out
  clear k4 n4
  go_wp2_with fail
  refine (K4.out _ (nwr w4)).mono ?_
  rintro x w5 ⟨p5, f5, rfl, n5, k5⟩
  have K5 : Hid (∀ V, Nw w5 V → _) := k5
  have M5 : Hid (Nw w0 w5) := M4.out.tr n5
  obtain ⟨c0, c1, c2, c3, c4, l0⟩ := C.out w5 M5.out
  clear k5 n5
  go_wp2_with fail
  refine (K5.out _ (nwr w5)).mono ?_
  rintro x w6 ⟨rfl, n6⟩
  have M6 : Hid (Nw w0 w6) := M5.out.tr n6
  obtain ⟨c0, c1, c2, c3, c4, l0⟩ := C.out w6 M6.out
  clear n6
  go_wp2_with fail
  refine (Q3.out _ (N0.out.tr M6.out)).mono ?_
  rintro x w7 ⟨s7, f7, rfl, n7, k7⟩
  have K7 : Hid (∀ W2, Nw w7 W2 → _) := k7
  have M7 : Hid (Nw w0 w7) := M6.out.tr n7
  obtain ⟨c0, c1, c2, c3, c4, l0⟩ := C.out w7 M7.out
  clear k7 n7
  go_wp2_with fail
  refine (K7.out _ (nwr w7)).mono ?_
  rintro x w8 ⟨p8, f8, rfl, n8, k8⟩
  have K8 : Hid (∀ V, Nw w8 V → _) := k8
  have M8 : Hid (Nw w0 w8) := M7.out.tr n8
  obtain ⟨c0, c1, c2, c3, c4, l0⟩ := C.out w8 M8.out
  clear k8 n8
  go_wp2_with fail
  refine (K8.out _ (nwr w8)).mono ?_
  rintro x w9 ⟨rfl, n9⟩
  have M9 : Hid (Nw w0 w9) := M8.out.tr n9
  clear n9
  go_wp2_with fail
  refine (QA.out _ (N0.out.tr M9.out)).mono ?_
  rintro x wz ⟨rfl, nz⟩
  have NZ : Hid (Nw w wz) := (N0.out.tr M9.out).tr nz
  clear nz
  go_wp2
  go_ret
  exact ⟨rfl, NZ.out⟩
end Go.Proofs.YtlaiomgebkeldaaDoor
