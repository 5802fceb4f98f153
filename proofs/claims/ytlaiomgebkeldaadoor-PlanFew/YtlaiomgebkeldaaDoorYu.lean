/- plan: PlanFew. -/
import Derived.Test.YtlaiomgebkeldaaDoorYt
import Derived.Test.YtlaiomgebkeldaaDoorYk
namespace Go.Proofs.YtlaiomgebkeldaaDoor
open Go.RowKit
set_option linter.unusedVariables false
set_option linter.unusedSimpArgs false
/-- What Path or Proof answers, and that few tiles do, or that it is refused. -/
abbrev Fwq (w : World) (f1 : Nat) (args : Array Value) (n A : Nat) (a : Nat → Addr) : Prop :=
  (∀ W, Nw w W → Calls Tryd.prog f1 args W fun x w1 => ∃ p, x = .returned (.tuple #[p, .nilIface]) ∧ Nw W w1 ∧
    ∀ V, Nw w1 V → Calls Tryd.prog 28 #[p, .int .u64 (n : Int), .int .u64 (A : Int)] V fun z w' => z = .returned (.bool true) ∧ Nw V w') ∨
  (∀ W, Nw w W → Calls Tryd.prog f1 args W fun x w1 => x = .returned (.tuple #[.slice none 0 0, sen (a 4)]) ∧ Nw W w1)
theorem fw_path (i n A : Nat) (hi : i < 18446744073709551616) (hn : n ≤ A) (hA : A ≤ 9223372036854775808) (w : World) (hT : TabAt w) {B : Nat} {a : Nat → Addr} (hS : Sent B w a) : Fwq w 17 #[.int .u64 (i : Int), .int .u64 (n : Int)] n A a := by
  by_cases h : i < n
  · left
    intro W nW
    obtain ⟨c, hc, hnc, hlow⟩ := clg_ex n (by omega)
    have hlen : (pth i 0 n).length ≤ c := pth_len c i 0 n (by omega)
    have htc : tcn (pth i 0 n) ≤ 2 * c := pth_tcn c i 0 n (Nat.dvd_zero _) (by omega)
    have hmem : ∀ s ∈ pth i 0 n, s.2 ≤ A := fun s hs => by have := pth_mem n i 0 n (by omega) s hs; omega
    refine (ppath_yes i n h (by omega) W (hT.nw nW)).mono ?_
    rintro x w1 ⟨p, xs, rfl, q, n1⟩
    exact ⟨p, rfl, n1, fun V nV => few15_any p _ n A c hc hnc hlow hA hn V ((Prt.of q).nw nV) (flat_gd A hA _ hmem) (by rw [List.length_map]; omega) (by have : ((pth i 0 n).map cvr).flatten.length = tcn (pth i 0 n) := rfl; omega)
      (fun l hl => by obtain ⟨s, hs, rfl⟩ := List.mem_map.1 hl; exact cov_len _ _ (by rw [p63]; have := hmem s hs; omega)) (hS.fr ((nW.tr n1).tr nV) (fun _ _ f => f))⟩
  · right
    exact fun W nW => ppath_no i n (fun q => h q.1) hi (by omega) W (hS.fr nW (fun _ _ f => f))
theorem fw_proof (i n A : Nat) (hi : i < 18446744073709551616) (hn : n ≤ A) (hA : A ≤ 9223372036854775808) (w : World) (hT : TabAt w) {B : Nat} {a : Nat → Addr} (hS : Sent B w a) : Fwq w 20 #[.int .u64 (i : Int), .int .u64 (n : Int)] n A a := by
  by_cases h : 0 < i ∧ i ≤ n
  · left
    intro W nW
    obtain ⟨c, hc, hnc, hlow⟩ := clg_ex n (by omega)
    have hlen : (prf i 0 n true).length ≤ c + 1 := prf_len c i 0 n true (by omega) h.1 h.2
    have htc : tcn (prf i 0 n true) ≤ 2 * c + 1 := prf_tcn c i 0 n true (Nat.dvd_zero _) (by omega) h.1 h.2
    have hmem : ∀ s ∈ prf i 0 n true, s.2 ≤ A := fun s hs => by have := prf_mem n i 0 n true (by omega) h.1 h.2 s hs; omega
    refine (pproof_yes i n h.1 h.2 (by omega) W (hT.nw nW)).mono ?_
    rintro x w1 ⟨p, xs, rfl, q, n1⟩
    exact ⟨p, rfl, n1, fun V nV => few15_any p _ n A c hc hnc hlow hA hn V ((Prt.of q).nw nV) (flat_gd A hA _ hmem) (by rw [List.length_map]; omega) (by have : ((prf i 0 n true).map cvr).flatten.length = tcn (prf i 0 n true) := rfl; omega)
      (fun l hl => by obtain ⟨s, hs, rfl⟩ := List.mem_map.1 hl; exact cov_len _ _ (by rw [p63]; have := hmem s hs; omega)) (hS.fr ((nW.tr n1).tr nV) (fun _ _ f => f))⟩
  · right
    exact fun W nW => pproof_no i n (fun q => h ⟨q.1, q.2.1⟩) hi (by omega) W (hS.fr nW (fun _ _ f => f))
set_option maxRecDepth 100000 in
set_option maxHeartbeats 4000000 in
theorem planfew_any (i o b e n A : Nat) (hi : i < 18446744073709551616) (ho : o < 18446744073709551616) (hb : b < 18446744073709551616) (he : e < 18446744073709551616) (hn : n < 18446744073709551616) (hA : A < 18446744073709551616) (w : World) (hT : TabAt w) (hL : Laid w) {B : Nat} {a : Nat → Addr} (hS : Sent B w a) :
    Calls Tryd.prog 6 #[.agg #[.int .u64 (i : Int), .int .u64 (o : Int), .int .u64 (b : Int), .int .u64 (e : Int), .int .u64 (n : Int)], .int .u64 (A : Int)] w fun x w' => x = .returned (.bool true) ∧ Nw w w' := by
  have QA : Hid (∀ W, Nw w W → Calls Tryd.prog 13 #[] W fun x w' => x = .returned (.bool true) ∧ Nw W w') := fun W nW => alive15_any W (hT.nw nW) (hL.nw nW) (hS.fr nW (fun _ _ f => f)) (hL.nw nW).lt
  have N0 : Hid (Nw w (w.alloc (.cells #[.int .u64 (i : Int), .int .u64 (o : Int), .int .u64 (b : Int), .int .u64 (e : Int), .int .u64 (n : Int)] 60))) := nwa w _
  have b0 := heap_new w (.cells #[.int .u64 (i : Int), .int .u64 (o : Int), .int .u64 (b : Int), .int .u64 (e : Int), .int .u64 (n : Int)] 60)
  obtain ⟨w0, hw0⟩ : ∃ q, q = w.alloc (.cells #[.int .u64 (i : Int), .int .u64 (o : Int), .int .u64 (b : Int), .int .u64 (e : Int), .int .u64 (n : Int)] 60) := ⟨_, rfl⟩
  rw [← hw0] at N0 b0
  have C : Hid (∀ W, Nw w0 W → W.cell? ⟨w.heap.size, 0, none⟩ = some (.int .u64 (i : Int)) ∧ W.cell? ⟨w.heap.size, 1, none⟩ = some (.int .u64 (o : Int)) ∧ W.cell? ⟨w.heap.size, 4, none⟩ = some (.int .u64 (n : Int)) ∧ w.heap.size < W.heap.size) := fun W nW => by
    have h := (nW.block _ (heap_lt b0) (fun f => f)).trans b0
    exact ⟨(cell_of h 0).trans rfl, (cell_of h 1).trans rfl, (cell_of h 4).trans rfl, heap_lt h⟩
  obtain ⟨c0, c1, c4, l0⟩ := C.out w0 (nwr w0)
  have HA : Hid (n ≤ A ∧ A ≤ 9223372036854775808 → Fwq w 17 #[.int .u64 (i : Int), .int .u64 (n : Int)] n A a ∧ Fwq w 20 #[.int .u64 (o : Int), .int .u64 (n : Int)] n A a) := fun q => ⟨fw_path i n A hi q.1 q.2 w hT hS, fw_proof o n A ho q.1 q.2 w hT hS⟩
  clear hi ho hb he hT hL hS b0
  have hcase : 9223372036854775808 < n ∨ (n ≤ 9223372036854775808 ∧ 9223372036854775808 < A) ∨ (n ≤ 9223372036854775808 ∧ A ≤ 9223372036854775808 ∧ A < n) ∨ (n ≤ A ∧ A ≤ 9223372036854775808) := by omega
  go_enter Tryd.func6, Tryd.ntmps6
  go_upto_region 1 with fail
  rw [← hw0]
  clear hw0
  obtain ⟨bq, hbq⟩ : ∃ q, q = w.heap.size := ⟨_, rfl⟩
  rw [← hbq] at C c0 c1 c4 l0 ⊢
  clear hbq
  rcases hcase with h | ⟨h1, h2⟩ | ⟨h1, h2, h3⟩ | ⟨h1, h2⟩
  · have f925 : (9223372036854775808 : Int) < (n : Int) := by omega
    clear h
    go_wp2_with fail
    refine (QA.out _ N0.out).mono ?_
    rintro x wz ⟨rfl, nz⟩
    go_wp2
    go_ret
    exact ⟨rfl, N0.out.tr nz⟩
  · have f925 : ¬ (9223372036854775808 : Int) < (n : Int) := by omega
    have f892 : (9223372036854775808 : Int) < (A : Int) := by omega
    clear h1 h2
    go_wp2_with fail
    refine (QA.out _ N0.out).mono ?_
    rintro x wz ⟨rfl, nz⟩
    go_wp2
    go_ret
    exact ⟨rfl, N0.out.tr nz⟩
  · have f925 : ¬ (9223372036854775808 : Int) < (n : Int) := by omega
    have f892 : ¬ (9223372036854775808 : Int) < (A : Int) := by omega
    have f666 : (A : Int) < (n : Int) := by omega
    clear h1 h2 h3
    go_wp2_with fail
    refine (QA.out _ N0.out).mono ?_
    rintro x wz ⟨rfl, nz⟩
    go_wp2
    go_ret
    exact ⟨rfl, N0.out.tr nz⟩
  · have HF := HA.out ⟨h1, h2⟩
    have f925 : ¬ (9223372036854775808 : Int) < (n : Int) := by omega
    have f892 : ¬ (9223372036854775808 : Int) < (A : Int) := by omega
    have f666 : ¬ (A : Int) < (n : Int) := by omega
    obtain ⟨F1, F2⟩ := HF
    have G2 : Hid (Fwq w 20 #[.int .u64 (o : Int), .int .u64 (n : Int)] n A a) := F2
    clear h1 h2 F2
    rcases F1 with F1 | F1
    · have H1 := F1 _ N0.out
      clear F1
      go_wp2_with fail
      refine H1.mono ?_
      rintro x w1 ⟨p1, rfl, n1, k1⟩
      have K1 : Hid (∀ V, Nw w1 V → _) := k1
      have N1 : Hid (Nw w0 w1) := n1
      obtain ⟨c0, c1, c4, l0⟩ := C.out w1 N1.out
      clear n1 k1 H1
      go_wp2_with fail
      refine (K1.out _ (nwr w1)).mono ?_
      rintro x w2 ⟨rfl, n2⟩
      have N2 : Hid (Nw w0 w2) := N1.out.tr n2
      clear n2
      obtain ⟨c0, c1, c4, l0⟩ := C.out w2 N2.out
      have G3 := G2.out
      clear G2
      rcases G3 with F2 | F2
      · have H2 := F2 _ (N0.out.tr N2.out)
        clear F2
        go_wp2_with fail
        refine H2.mono ?_
        rintro x w5 ⟨p5, rfl, n5, k5⟩
        have K5 : Hid (∀ V, Nw w5 V → _) := k5
        have N5 : Hid (Nw w0 w5) := N2.out.tr n5
        obtain ⟨c0, c1, c4, l0⟩ := C.out w5 N5.out
        clear n5 k5 H2
        go_wp2_with fail
        refine (K5.out _ (nwr w5)).mono ?_
        rintro x w6 ⟨rfl, n6⟩
        have N6 : Hid (Nw w0 w6) := N5.out.tr n6
        clear n6
        go_wp2_with fail
        refine (QA.out _ (N0.out.tr N6.out)).mono ?_
        rintro x wz ⟨rfl, nz⟩
        go_wp2
        go_ret
        exact ⟨rfl, (N0.out.tr N6.out).tr nz⟩
      · have H2 := F2 _ (N0.out.tr N2.out)
        clear F2
        go_wp2_with fail
        refine H2.mono ?_
        rintro x w5 ⟨rfl, n5⟩
        have N5 : Hid (Nw w0 w5) := N2.out.tr n5
        clear n5 H2
        go_wp2_with fail
        refine (QA.out _ (N0.out.tr N5.out)).mono ?_
        rintro x wz ⟨rfl, nz⟩
        go_wp2
        go_ret
        exact ⟨rfl, (N0.out.tr N5.out).tr nz⟩
    · have H1 := F1 _ N0.out
      clear F1
      go_wp2_with fail
      refine H1.mono ?_
      rintro x w1 ⟨rfl, n1⟩
      have N1 : Hid (Nw w0 w1) := n1
      clear n1 H1
      obtain ⟨c0, c1, c4, l0⟩ := C.out w1 N1.out
      have G3 := G2.out
      clear G2
      rcases G3 with F2 | F2
      · have H2 := F2 _ (N0.out.tr N1.out)
        clear F2
        go_wp2_with fail
        refine H2.mono ?_
        rintro x w5 ⟨p5, rfl, n5, k5⟩
        have K5 : Hid (∀ V, Nw w5 V → _) := k5
        have N5 : Hid (Nw w0 w5) := N1.out.tr n5
        obtain ⟨c0, c1, c4, l0⟩ := C.out w5 N5.out
        clear n5 k5 H2
        go_wp2_with fail
        refine (K5.out _ (nwr w5)).mono ?_
        rintro x w6 ⟨rfl, n6⟩
        have N6 : Hid (Nw w0 w6) := N5.out.tr n6
        clear n6
        go_wp2_with fail
        refine (QA.out _ (N0.out.tr N6.out)).mono ?_
        rintro x wz ⟨rfl, nz⟩
        go_wp2
        go_ret
        exact ⟨rfl, (N0.out.tr N6.out).tr nz⟩
      · have H2 := F2 _ (N0.out.tr N1.out)
        clear F2
        go_wp2_with fail
        refine H2.mono ?_
        rintro x w5 ⟨rfl, n5⟩
        have N5 : Hid (Nw w0 w5) := N1.out.tr n5
        clear n5 H2
        go_wp2_with fail
        refine (QA.out _ (N0.out.tr N5.out)).mono ?_
        rintro x wz ⟨rfl, nz⟩
        go_wp2
        go_ret
        exact ⟨rfl, (N0.out.tr N5.out).tr nz⟩
end Go.Proofs.YtlaiomgebkeldaaDoor
