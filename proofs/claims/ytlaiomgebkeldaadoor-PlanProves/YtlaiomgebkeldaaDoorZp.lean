/- plan: PlanProves. -/
import Derived.Test.YtlaiomgebkeldaaDoorYz
import Derived.Deep.DeepCutAuto
namespace Go.Proofs.YtlaiomgebkeldaaDoor
open Go.RowKit
set_option linter.unusedVariables false
set_option linter.unusedSimpArgs false
theorem aln_root (n : Nat) (h : 0 < n) : Aln (0, n) := ⟨h, n, Nat.dvd_zero _, by show n - 0 ≤ 2 ^ n; have := Nat.lt_two_pow_self (n := n); omega⟩
section
variable (L : List (List UInt8)) (h32 : ∀ y ∈ L, y.length = 32) (h0 : 0 < L.length) (hL : L.length ≤ 150) (p : Option Addr) (cap : Nat) (hcap : L.length ≤ cap)
include h32 h0 hL hcap
theorem path15 (m : Nat) (hm : m < L.length) (w : World) (hp : Hrs w p L) (hLd : Laid w) : Calls Tryd.prog 19 #[.int .i64 (m : Int), .slice p L.length cap] w fun r w' => Rwd w w' ((pth m 0 L.length).map (hshp L)) r := by
  have := rpath_any L (by omega) h32 L.length m 0 L.length p cap w (by omega) (by omega) hm (by omega) (by omega) (by rw [sbh_all]; exact hp) hLd
  rwa [Nat.sub_zero, Nat.sub_zero] at this
theorem sub15 (o : Nat) (ho : 0 < o) (ho2 : o ≤ L.length) (w : World) (hp : Hrs w p L) (hLd : Laid w) : Calls Tryd.prog 21 #[.int .i64 (o : Int), .slice p L.length cap, .bool true] w fun r w' => Rwd w w' ((prf o 0 L.length true).map (hshp L)) r := by
  have := rsub_any L (by omega) h32 L.length o 0 L.length true p cap w (by omega) ho ho2 (by omega) (by omega) (by rw [sbh_all]; exact hp) hLd
  rwa [Nat.sub_zero, Nat.sub_zero] at this
theorem batch15 (b o : Nat) (hb : b < o) (ho2 : o ≤ L.length) (w : World) (hp : Hrs w p L) (hLd : Laid w) : Calls Tryd.prog 23 #[.int .i64 (b : Int), .int .i64 (o : Int), .int .i64 0, .slice p L.length cap] w fun r w' => Rwd w w' ((bat b o 0 L.length).map (hshp L)) r := by
  have := rbat_any L (by omega) h32 b o hb (by omega) L.length 0 L.length p cap w (by omega) h0 (by omega) (by omega) (by rw [sbh_all]; exact hp) hLd
  rwa [Nat.sub_zero] at this
/-- What the definition gives, and that the parts prove it. -/
theorem row_proves {W V : World} {r : Ending} {v : Value} (l : List (Nat × Nat)) (hl : l.length ≤ 1000) (ha : ∀ s ∈ l, Aln s ∧ s.2 ≤ L.length) (hr : Rwd W V (l.map (hshp L)) r) (hv : Prt V v (l.map cvr)) (hp : Hrs V p L) (hLd : Laid V) :
    ∃ u, r = .returned u ∧ Nw W V ∧ ∀ U, Nw V U → Calls Tryd.prog 18 #[v, .slice p L.length cap, u] U fun e w' => e = .returned (.bool true) ∧ Nw U w' := by
  obtain ⟨u, rfl, ho, n⟩ := hr
  refine ⟨u, rfl, n, fun U nU => ?_⟩
  have hu : Hss V u (l.map (hshp L)) := Hss.of (fun x hx => by obtain ⟨s, _, rfl⟩ := List.mem_map.1 hx; exact hshp_len L h32 s) ho
  exact proves15_any v u l hl L h32 (by omega) p cap hcap U (hv.nw nU) (hu.nw (fun x hx => by obtain ⟨s, _, rfl⟩ := List.mem_map.1 hx; exact hshp_len L h32 s) nU) ha (hp.nw h32 nU) (hLd.nw nU)
end
theorem mod3 (n : Nat) (hn0 : 0 < n) (hn1 : n ≤ 150) (t : Int) : ∃ (r s : Int) (m : Nat), Int.tmod t (n : Int) = r ∧ r + (n : Int) = s ∧ Int.tmod s (n : Int) = (m : Int) ∧ m < n ∧ -150 < r ∧ r < 150 ∧ 0 < s ∧ s < 300 := by
  have a1 := Int.tmod_lt_of_pos t (show (0 : Int) < (n : Int) by omega)
  have a2 : -(n : Int) < Int.tmod t (n : Int) := by
    have := Int.tmod_lt_of_pos (-t) (show (0 : Int) < (n : Int) by omega)
    rw [Int.neg_tmod] at this
    omega
  refine ⟨_, _, (Int.tmod (Int.tmod t (n : Int) + (n : Int)) (n : Int)).toNat, rfl, rfl, ?_, ?_, by omega, by omega, by omega, by omega⟩
  · have := Int.tmod_nonneg (n : Int) (show 0 ≤ Int.tmod t (n : Int) + (n : Int) by omega)
    omega
  · have h1 := Int.tmod_nonneg (n : Int) (show 0 ≤ Int.tmod t (n : Int) + (n : Int) by omega)
    have h2 := Int.tmod_lt_of_pos (Int.tmod t (n : Int) + (n : Int)) (show (0 : Int) < (n : Int) by omega)
    omega
set_option maxRecDepth 100000 in
set_option maxHeartbeats 8000000 in
theorem planproves_any (L : List (List UInt8)) (h32 : ∀ y ∈ L, y.length = 32) (p : Option Addr) (cap : Nat) (hcap : L.length ≤ cap) (x y z : Int) (hx : -9223372036854775808 ≤ x ∧ x ≤ 9223372036854775807) (hy : -9223372036854775808 ≤ y ∧ y ≤ 9223372036854775807) (hz : -9223372036854775808 ≤ z ∧ z ≤ 9223372036854775807) (w : World) (hp : Hrs w p L) (hT : TabAt w) (hLd : Laid w) {B : Nat} {a : Nat → Addr} (hSe : Sent B w a) :
    Calls Tryd.prog 4 #[.agg #[.slice p L.length cap, .int .i64 x, .int .i64 y, .int .i64 z]] w fun e w' => e = .returned (.bool true) ∧ Nw w w' := by
  have QA : Hid (∀ W, Nw w W → Calls Tryd.prog 13 #[] W fun x w' => x = .returned (.bool true) ∧ Nw W w') := fun W nW => alive15_any W (hT.nw nW) (hLd.nw nW) (hSe.fr nW (fun _ _ f => f)) (hLd.nw nW).lt
  obtain ⟨n, hn⟩ : ∃ n, n = L.length := ⟨_, rfl⟩
  have HN : Hid (n = L.length) := hn
  have N0 : Hid (Nw w (w.alloc (.cells #[.slice p n cap, .int .i64 x, .int .i64 y, .int .i64 z] 40))) := nwa w _
  have b0 := heap_new w (.cells #[.slice p n cap, .int .i64 x, .int .i64 y, .int .i64 z] 40)
  obtain ⟨w0, hw0⟩ : ∃ q, q = w.alloc (.cells #[.slice p n cap, .int .i64 x, .int .i64 y, .int .i64 z] 40) := ⟨_, rfl⟩
  rw [← hw0] at N0 b0
  have C : Hid (∀ W, Nw w0 W → W.cell? ⟨w.heap.size, 0, none⟩ = some (.slice p n cap) ∧ W.cell? ⟨w.heap.size, 1, none⟩ = some (.int .i64 x) ∧ W.cell? ⟨w.heap.size, 2, none⟩ = some (.int .i64 y) ∧ W.cell? ⟨w.heap.size, 3, none⟩ = some (.int .i64 z) ∧ w.heap.size < W.heap.size) := fun W nW => by
    have h := (nW.block _ (heap_lt b0) (fun f => f)).trans b0
    exact ⟨(cell_of h 0).trans rfl, (cell_of h 1).trans rfl, (cell_of h 2).trans rfl, (cell_of h 3).trans rfl, heap_lt h⟩
  obtain ⟨c0, c1, c2, c3, l0⟩ := C.out w0 (nwr w0)
  have HP : Hid (∀ W, Nw w W → Hrs W p L) := fun W nW => hp.nw h32 nW
  have HLD : Hid (∀ W, Nw w W → Laid W) := fun W nW => hLd.nw nW
  have HT : Hid (∀ W, Nw w W → TabAt W) := fun W nW => hT.nw nW
  have H32 : Hid (∀ y ∈ L, y.length = 32) := h32
  rw [← hn] at hcap ⊢
  clear hp hLd hT hSe h32 b0 hn
  go_enter Tryd.func4, Tryd.ntmps4
  go_upto_region 1 with fail
  rw [← hw0]
  clear hw0
  obtain ⟨bq, hbq⟩ : ∃ q, q = w.heap.size := ⟨_, rfl⟩
  rw [← hbq] at C c0 c1 c2 c3 l0 ⊢
  clear hbq
  by_cases hz0 : n = 0
  · have e1 : ((n : Int) == 0) = true := by simp; omega
    have e2 : (n : Int) = 0 := by omega
    clear hz0
    go_wp2_with fail
    refine (QA.out _ N0.out).mono ?_
    rintro _ wz ⟨rfl, nz⟩
    go_wp2
    go_ret
    exact ⟨rfl, N0.out.tr nz⟩
  by_cases hbig : 150 < n
  · have e1 : ((n : Int) == 0) = false := by simp; omega
    have e2 : (150 : Int) < (n : Int) := by omega
    have e3 : ¬ (n : Int) = 0 := by omega
    clear hz0 hbig
    go_wp2_with fail
    refine (QA.out _ N0.out).mono ?_
    rintro _ wz ⟨rfl, nz⟩
    go_wp2
    go_ret
    exact ⟨rfl, N0.out.tr nz⟩
  have hn0 : 0 < n := by omega
  have hn1 : n ≤ 150 := by omega
  have e1 : ((n : Int) == 0) = false := by simp; omega
  have e2 : ¬ (150 : Int) < (n : Int) := by omega
  have e3 : ¬ (n : Int) = 0 := by omega
  obtain ⟨xr, xs, m, x1, x2, x3, x4, x5, x6, x7, x8⟩ := mod3 n hn0 hn1 x
  obtain ⟨yr, ys, o', y1, y2, y3, y4, y5, y6, y7, y8⟩ := mod3 n hn0 hn1 y
  obtain ⟨zr, zs, b', z1, z2, z3, z4, z5, z6, z7, z8⟩ := mod3 n hn0 hn1 z
  obtain ⟨o, ho⟩ : ∃ o, o = o' + 1 := ⟨_, rfl⟩
  have Y9 : Hid ((o' : Int) + 1 = (o : Int)) := by show _ = _; omega
  have ho0 : 0 < o := by omega
  have hon : o ≤ n := by omega
  clear hz0 hbig
  have HO : Hid (o = o' + 1) := ho
  clear ho
  go_upto_region 8 with fail
  clear x1 x2 x3 x5 x6 x7 x8 y1 y2 y3 y5 y6 y7 y8 z1 z2 z3 z5 z6 z7 z8
  rw [Y9.out]
  go_upto_if 51 with fail
  go_cut [7] (fun p wx => ∃ b : Nat, p = .int .i64 (b : Int) ∧ b < o ∧ Nw w0 wx)
  case first =>
    by_cases hbo : o ≤ b'
    · have e4 : (o : Int) ≤ (b' : Int) := by omega
      go_wp2
      go_meet
      exact ⟨o', by have := HO.out; simp only [Value.int.injEq, true_and]; omega, by have := HO.out; omega, nwr _⟩
    · have e4 : ¬ (o : Int) ≤ (b' : Int) := by omega
      go_wp2
      go_meet
      exact ⟨b', rfl, by omega, nwr _⟩
  case rest =>
  obtain ⟨b, rfl, hb, nx⟩ := hcut
  obtain ⟨w1, hw1⟩ : ∃ q, q = wc := ⟨_, rfl⟩
  subst hw1
  have N1 : Hid (Nw w w1) := N0.out.tr nx
  clear nx C c0 c1 c2 c3 l0 N0 Y9 HO z4 y4
  have q2 := proot_yes n (by omega) w1 (HT.out w1 N1.out)
  go_wp2_with fail
  refine q2.mono ?_
  rintro _ w2 ⟨v, rfl, o2, n2⟩
  have N2 : Hid (Nw w w2) := N1.out.tr n2
  have V2 : Hid (Crd w2 v (cvr (0, n))) := Crd.of o2
  obtain ⟨va, vc, rfl⟩ := ownsRow_form o2
  clear q2 o2 n2
  go_upto_region 11 with fail
  obtain ⟨w3, hw3⟩ : ∃ q, q = w2.alloc (.cells #[.slice va (cov 0 n).length vc] 43) := ⟨_, rfl⟩
  have b3 : w3.heap[w2.heap.size]? = some (.cells #[.slice va (cov 0 n).length vc] 43) := by rw [hw3]; exact heap_new _ _
  have n3 : Nw w2 w3 := by rw [hw3]; exact nwa _ _
  rw [← hw3]
  have N3 : Hid (Nw w w3) := N2.out.tr n3
  have V3 : Hid (Crd w3 (.slice va (cov 0 n).length vc) (cvr (0, n))) := V2.out.nw n3
  have y3 : w3.cell? ⟨w2.heap.size, 0, none⟩ = some (.slice va (cov 0 n).length vc) := (cell_of b3 0).trans rfl
  obtain ⟨bb, hbb⟩ : ∃ q, q = w2.heap.size := ⟨_, rfl⟩
  rw [← hbb] at y3 ⊢
  obtain ⟨kk, hkk⟩ : ∃ q, q = (cov 0 n).length := ⟨_, rfl⟩
  rw [← hkk] at y3 V3 ⊢
  clear b3 n3 hw3 hbb V2 N2 hkk
  obtain ⟨R, hR⟩ : ∃ R, R = mhh L := ⟨_, rfl⟩
  have R32 : Hid (R.length = 32) := by rw [hR]; exact mhh_len L H32.out
  have hRs : (hbs R).size = 32 := by rw [hbs_size, R32.out]
  have eR : hshp L (0, n) = R := by rw [HN.out, hR]; show mhh (sbh L 0 L.length) = _; rw [sbh_all]
  have QM : Hid (∀ V, Nw w V → Calls Tryd.prog 16 #[.slice p n cap] V fun e w' => e = .returned (.agg (hbs R)) ∧ Nw V w') := fun V nV => by
    have := mth15_any L.length L p cap V (Nat.le_refl _) (by rw [← HN.out]; omega) H32.out (by rw [← HN.out]; exact hcap) (HP.out V nV) (HLD.out V nV)
    rw [← HN.out, ← hR] at this
    exact this
  have q4 := folded15_any (.slice va kk vc) (0, n) L H32.out (by rw [← HN.out]; omega) p cap (by rw [← HN.out]; exact hcap) w3 V3.out (aln_root n hn0) (Nat.le_of_eq HN.out) (HP.out _ N3.out) (HLD.out _ N3.out)
  rw [← HN.out, eR] at q4
  clear eR hR V3
  go_wp2_with fail
  refine q4.mono ?_
  rintro _ w4 ⟨rfl, n4⟩
  have N4 : Hid (Nw w w4) := N3.out.tr n4
  clear q4 n4 y3 N3
  go_wp2_with (refine wp_store_agg rfl (.tmp 10) (.tmp 64) 26 32 rfl Tryd.sizeOf26 w4.heap.size 0 rfl _ 26 (heap_new _ _) (hbs R) rfl hRs (hbs_one _) (by decide) (hbs R) (by simp) ?_; intro w5 j5 f5 zz; clear zz; have N5 : Hid (Nw w w5) := (N4.out.alloc _).trans f5 (fun k hk q => by have := N4.out.size; omega); have J5 : Hid (w5.heap[w4.heap.size]? = some (.cells (hbs R) 26 (0, 0))) := j5; clear j5 f5)
  obtain ⟨b1, hb1⟩ : ∃ q, q = w4.heap.size := ⟨_, rfl⟩
  rw [← hb1] at J5 ⊢
  clear hb1
  (refine wp_region_grown (by kernel_rfl) (by kernel_rfl) ?_; (repeat (first | go_big_quiet_skip | (go_big_quiet_want; first | (refine quiet_load (.tmp 10) rfl b1 0 rfl R R32.out (hash_cells J5.out) ?_; ((try simp only [Act.put, List.setIfInBounds_toArray, List.set_cons_zero, List.set_cons_succ]); go_big_quiet_on)) | (refine quiet_neq (.tmp 73) (.tmp 75) rfl R R32.out rfl rfl ?_; ((try simp only [Act.put, List.setIfInBounds_toArray, List.set_cons_zero, List.set_cons_succ]); go_big_quiet_on)) | (go_big_quiet_op; first | go_big_quiet_on | go_big_quiet_call (first | rfl | with_reducible exact grw_call QM.out N5.out _))))); refine wpQuiet_nil ?_; rintro W ⟨⟨_, nW⟩, rfl⟩)
  have N6 : Hid (Nw w W) := N5.out.tr nW
  clear nW N5 J5 QM N4
  have q7 := ppath_yes m n x4 (by omega) _ (HT.out _ N6.out)
  go_wp2_with fail
  refine q7.mono ?_
  rintro _ w7 ⟨v7, xs7, rfl, p7, n7⟩
  have N7 : Hid (Nw w w7) := N6.out.tr n7
  have P7 : Hid (Prt w7 v7 ((pth m 0 n).map cvr)) := Prt.of p7
  clear q7 p7 n7 N6
  have q8 := path15 L H32.out (by rw [← HN.out]; exact hn0) (by rw [← HN.out]; exact hn1) p cap (by rw [← HN.out]; exact hcap) m (by rw [← HN.out]; exact x4) w7 (HP.out _ N7.out) (HLD.out _ N7.out)
  rw [← HN.out] at q8
  go_wp2_with fail
  refine q8.mono ?_
  rintro r w8 hr
  obtain ⟨_, _, _, n8⟩ := id hr
  have N8 : Hid (Nw w w8) := N7.out.tr n8
  obtain ⟨u7, rfl, _, Q7⟩ := row_proves L H32.out (by rw [← HN.out]; exact hn0) (by rw [← HN.out]; exact hn1) p cap (by rw [← HN.out]; exact hcap) (pth m 0 n) (Nat.le_trans (pth_len 63 m 0 n (by rw [p63]; omega)) (by decide)) (fun s hs => ⟨pth_aln n m 0 n (Nat.dvd_zero _) (by have := Nat.lt_two_pow_self (n := n); omega) s hs, by rw [← HN.out]; have := pth_mem n m 0 n (by omega) s hs; omega⟩) hr (P7.out.nw n8) (HP.out _ N8.out) (HLD.out _ N8.out)
  have QQ7 : Hid (∀ U, Nw w8 U → Calls Tryd.prog 18 #[v7, .slice p n cap, u7] U fun e w' => e = .returned (.bool true) ∧ Nw U w') := by rw [HN.out]; exact Q7
  clear hr Q7 q8 n8 P7 N7
  go_wp2_with fail
  refine (QQ7.out _ (nwr _)).mono ?_
  rintro _ w9 ⟨rfl, n9⟩
  have N9 : Hid (Nw w w9) := N8.out.tr n9
  clear n9 QQ7 N8
  have q10 := pproof_yes o n ho0 hon (by omega) _ (HT.out _ N9.out)
  go_wp2_with fail
  refine q10.mono ?_
  rintro _ w10 ⟨v10, xs10, rfl, p10, n10⟩
  have N10 : Hid (Nw w w10) := N9.out.tr n10
  have P10 : Hid (Prt w10 v10 ((prf o 0 n true).map cvr)) := Prt.of p10
  clear q10 p10 n10 N9
  have q11 := sub15 L H32.out (by rw [← HN.out]; exact hn0) (by rw [← HN.out]; exact hn1) p cap (by rw [← HN.out]; exact hcap) o ho0 (by rw [← HN.out]; exact hon) w10 (HP.out _ N10.out) (HLD.out _ N10.out)
  rw [← HN.out] at q11
  go_wp2_with fail
  refine q11.mono ?_
  rintro r w11 hr
  obtain ⟨_, _, _, n11⟩ := id hr
  have N11 : Hid (Nw w w11) := N10.out.tr n11
  obtain ⟨u10, rfl, _, Q10⟩ := row_proves L H32.out (by rw [← HN.out]; exact hn0) (by rw [← HN.out]; exact hn1) p cap (by rw [← HN.out]; exact hcap) (prf o 0 n true) (Nat.le_trans (prf_len 63 o 0 n true (by rw [p63]; omega) ho0 hon) (by decide)) (fun s hs => ⟨prf_aln n o 0 n true (Nat.dvd_zero _) (by have := Nat.lt_two_pow_self (n := n); omega) ho0 hon s hs, by rw [← HN.out]; have := prf_mem n o 0 n true (by omega) ho0 hon s hs; omega⟩) hr (P10.out.nw n11) (HP.out _ N11.out) (HLD.out _ N11.out)
  have QQ10 : Hid (∀ U, Nw w11 U → Calls Tryd.prog 18 #[v10, .slice p n cap, u10] U fun e w' => e = .returned (.bool true) ∧ Nw U w') := by rw [HN.out]; exact Q10
  clear hr Q10 q11 n11 P10 N10
  go_wp2_with fail
  refine (QQ10.out _ (nwr _)).mono ?_
  rintro _ w12 ⟨rfl, n12⟩
  have N12 : Hid (Nw w w12) := N11.out.tr n12
  clear n12 QQ10 N11
  have q13 := pbatch_yes b o n hb hon (by omega) _ (HT.out _ N12.out)
  go_wp2_with fail
  refine q13.mono ?_
  rintro _ w13 ⟨v13, xs13, rfl, p13, n13⟩
  have N13 : Hid (Nw w w13) := N12.out.tr n13
  have P13 : Hid (Prt w13 v13 ((bat b o 0 n).map cvr)) := Prt.of p13
  clear q13 p13 n13 N12
  have q14 := batch15 L H32.out (by rw [← HN.out]; exact hn0) (by rw [← HN.out]; exact hn1) p cap (by rw [← HN.out]; exact hcap) b o hb (by rw [← HN.out]; exact hon) w13 (HP.out _ N13.out) (HLD.out _ N13.out)
  rw [← HN.out] at q14
  go_wp2_with fail
  refine q14.mono ?_
  rintro r w14 hr
  obtain ⟨_, _, _, n14⟩ := id hr
  have N14 : Hid (Nw w w14) := N13.out.tr n14
  obtain ⟨u13, rfl, _, Q13⟩ := row_proves L H32.out (by rw [← HN.out]; exact hn0) (by rw [← HN.out]; exact hn1) p cap (by rw [← HN.out]; exact hcap) (bat b o 0 n) (Nat.le_trans (bat_len 63 b o 0 n (by rw [p63]; omega)) (by decide)) (fun s hs => ⟨bat_aln n b o 0 n (Nat.dvd_zero _) (by have := Nat.lt_two_pow_self (n := n); omega) hn0 s hs, by rw [← HN.out]; have := bat_mem n b o 0 n (by omega) hn0 s hs; omega⟩) hr (P13.out.nw n14) (HP.out _ N14.out) (HLD.out _ N14.out)
  have QQ13 : Hid (∀ U, Nw w14 U → Calls Tryd.prog 18 #[v13, .slice p n cap, u13] U fun e w' => e = .returned (.bool true) ∧ Nw U w') := by rw [HN.out]; exact Q13
  clear hr Q13 q14 n14 P13 N13
  go_wp2_with fail
  refine (QQ13.out _ (nwr _)).mono ?_
  rintro _ w15 ⟨rfl, n15⟩
  have N15 : Hid (Nw w w15) := N14.out.tr n15
  clear n15 QQ13 N14
  go_wp2_with fail
  refine (QA.out _ N15.out).mono ?_
  rintro _ w16 ⟨rfl, n16⟩
  go_wp2
  go_ret
  exact ⟨rfl, N15.out.tr n16⟩
end Go.Proofs.YtlaiomgebkeldaaDoor
