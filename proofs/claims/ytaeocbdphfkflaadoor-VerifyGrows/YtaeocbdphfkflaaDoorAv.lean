/- VerifyBinds. -/
import Derived.Test.YtaeocbdphfkflaaDoorAv3
import Derived.Test.YtaeocbdphfkflaaDoorAo
import Derived.Deep.DeepCutAuto
namespace Go.Proofs.YtaeocbdphfkflaaDoor
open Go.RowKit
set_option linter.unusedVariables false
set_option linter.unusedSimpArgs false
theorem erv_sen {a : Nat → Addr} {c : Nat} (h : c ≠ 0) : ∃ x, erv a c = sen x := ⟨a (c - 1), by unfold erv; rw [if_neg h]⟩
set_option maxRecDepth 100000 in
set_option maxHeartbeats 16000000 in
theorem VerifyBinds_any (i n : Nat) (hi : i < 18446744073709551616) (hn : n < 18446744073709551616) (A C : List UInt8) (hA : A.length = 32) (hC : C.length = 32) (L : List (List UInt8)) (hL32 : ∀ y ∈ L, y.length = 32) (hLl : L.length < 4611686018427387904) (ad : Option Addr) (cap : Nat) (hcap : L.length ≤ cap) (O : List UInt8) (hO : O.length = 32) (M : List (List UInt8)) (hM32 : ∀ y ∈ M, y.length = 32) (hMl : M.length < 4611686018427387904) (bd : Option Addr) (bap : Nat) (hbap : M.length ≤ bap) (w : World) (hs : Hss w (.slice ad L.length cap) L) (ht : Hss w (.slice bd M.length bap) M) (hLd : Laid w) {B : Nat} {a : Nat → Addr} (hS : Sent B w a) :
    Calls Tryd.prog 6 #[.agg (pcs i n A C (.slice ad L.length cap)), .agg (hbs O), .slice bd M.length bap] w fun e w' => e = .returned (.bool true) ∧ Nw w w' := by
  have HLD : Hid (Laid w) := hLd
  have HSE : Hid (Sent B w a) := hS
  have HIN : Hid (i < 18446744073709551616 ∧ n < 18446744073709551616) := ⟨hi, hn⟩
  have HA := hid_of hA
  have HC := hid_of hC
  have HO := hid_of hO
  have hAs : (hbs A).size = 32 := by rw [hbs_size, hA]
  have hCs : (hbs C).size = 32 := by rw [hbs_size, hC]
  have hOs : (hbs O).size = 32 := by rw [hbs_size, hO]
  have HL32 : Hid (∀ y ∈ L, y.length = 32) := hL32
  have HM32 : Hid (∀ y ∈ M, y.length = 32) := hM32
  obtain ⟨ln, hln⟩ : ∃ q, q = L.length := ⟨_, rfl⟩
  obtain ⟨mn, hmn⟩ : ∃ q, q = M.length := ⟨_, rfl⟩
  have HLE : Hid (ln = L.length) := hln
  have HME : Hid (mn = M.length) := hmn
  have HLN : Hid (ln < 4611686018427387904 ∧ mn < 4611686018427387904) := by refine ⟨?_, ?_⟩ <;> omega
  have HSS : Hid (Hss w (.slice ad ln cap) L) := by rw [hln]; exact hs
  have HTT : Hid (Hss w (.slice bd mn bap) M) := by rw [hmn]; exact ht
  have QAL : Hid (∀ V, Nw w V → Calls Tryd.prog 16 #[] V fun e w' => e = .returned (.bool true) ∧ Nw V w') := fun V hV => alive18_any V (HLD.out.nw hV) (HSE.out.nw hV)
  have QI : Hid (∀ V, Nw w V → Calls Tryd.prog 14 #[.int .u64 (i : Int), .int .u64 (n : Int), .agg (hbs A), .slice ad ln cap, .agg (hbs C)] V fun e w' => e = .returned (erv a (icA i n A L C)) ∧ Nw V w') := fun V hV => by
    have := incl_any i n HIN.out.1 HIN.out.2 A HA.out L HL32.out (by have := HLE.out; have := HLN.out; omega) ad cap C HC.out V (by rw [← HLE.out]; exact HSS.out.nw HL32.out hV) (HLD.out.nw hV) (HSE.out.nw hV)
    rw [← HLE.out] at this
    exact this
  have QJ : Hid (∀ V, Nw w V → Calls Tryd.prog 14 #[.int .u64 (i : Int), .int .u64 (n : Int), .agg (hbs O), .slice bd mn bap, .agg (hbs C)] V fun e w' => e = .returned (erv a (icA i n O M C)) ∧ Nw V w') := fun V hV => by
    have := incl_any i n HIN.out.1 HIN.out.2 O HO.out M HM32.out (by have := HME.out; have := HLN.out; omega) bd bap C HC.out V (by rw [← HME.out]; exact HTT.out.nw HM32.out hV) (HLD.out.nw hV) (HSE.out.nw hV)
    rw [← HME.out] at this
    exact this
  rw [← hln, ← hmn]
  obtain ⟨pv, hpv⟩ : ∃ p, p = pcs i n A C (.slice ad ln cap) := ⟨_, rfl⟩
  have HPV := hid_of hpv
  rw [← hpv]
  clear hA hC hO hL32 hM32 hln hmn hcap hbap hs ht hLd hS hLl hMl hpv hi hn
  go_enter Tryd.func6, Tryd.ntmps6
  go_upto_region 1 with fail
  have b1 := heap_next w (.cells pv 27) (.cells (hbs O) 24)
  have b0 : ((w.alloc (.cells pv 27)).alloc (.cells (hbs O) 24)).heap[w.heap.size]? = some (.cells pv 27) := ((nwa (w.alloc (.cells pv 27)) _).block _ (heap_lt (heap_new _ _)) (fun f => f)).trans (heap_new _ _)
  have nA : Nw w ((w.alloc (.cells pv 27)).alloc (.cells (hbs O) 24)) := (nwa w _).alloc _
  obtain ⟨w1, hw1⟩ : ∃ q, (w.alloc (.cells pv 27)).alloc (.cells (hbs O) 24) = q := ⟨_, rfl⟩
  rw [hw1] at b0 b1 nA ⊢
  clear hw1
  obtain ⟨xb, hxb⟩ : ∃ q, q = w.heap.size := ⟨_, rfl⟩
  rw [← hxb] at b0 b1 ⊢
  obtain ⟨ob, hob⟩ : ∃ q, q = xb + 1 := ⟨_, rfl⟩
  rw [← hob] at b1 ⊢
  have HXB : Hid (w1.heap[xb]? = some (.cells (pcs i n A C (.slice ad ln cap)) 27)) := by rw [← HPV.out]; exact b0
  have HB1 : Hid (w1.heap[ob]? = some (.cells (hbs O) 24)) := b1
  have N1 : Hid (Nw w w1) := nA
  have HPC : Hid (∀ V, Nw w1 V → V.cell? ⟨xb, 0, none⟩ = some (.int .u64 (i : Int)) ∧ V.cell? ⟨xb, 1, none⟩ = some (.int .u64 (n : Int)) ∧ (∀ j, j < 32 → V.cell? ⟨xb, 2 + j, none⟩ = (hbs A)[j]?) ∧ (∀ j, j < 32 → V.cell? ⟨xb, 34 + j, none⟩ = (hbs C)[j]?) ∧ V.cell? ⟨xb, 66, none⟩ = some (.slice ad ln cap)) := fun V hV => pcs_cells HA.out HC.out ((hV.block _ (heap_lt HXB.out) (fun f => f)).trans HXB.out)
  have HOB : Hid (∀ V, Nw w1 V → ∀ j, j < 32 → V.cell? ⟨ob, 0 + j, none⟩ = (hbs O)[j]?) := fun V hV => hash_cells ((hV.block _ (heap_lt HB1.out) (fun f => f)).trans HB1.out)
  clear hxb hob b0 b1 nA
  have c0 := (HPC.out w1 (nwr w1)).1
  have c1 := (HPC.out w1 (nwr w1)).2.1
  have c6 := (HPC.out w1 (nwr w1)).2.2.2.2
  have FA := hid_of (HPC.out w1 (nwr w1)).2.2.1
  have FC := hid_of (HPC.out w1 (nwr w1)).2.2.2.1
  have FO := hid_of (HOB.out w1 (nwr w1))
  go_wp2_with first
    | refine wpl_loadN (by kernel_rfl) (.tmp 16) 24 32 rfl Tryd.isAgg24 Tryd.sizeOf24 xb 2 rfl (hbs A) hAs FA.out ?_
    | refine wpl_loadN (by kernel_rfl) (.tmp 20) 24 32 rfl Tryd.isAgg24 Tryd.sizeOf24 xb 34 rfl (hbs C) hCs FC.out ?_
  refine (QI.out _ N1.out).mono ?_
  rintro e w2 ⟨rfl, n2⟩
  have N2 : Hid (Nw w1 w2) := n2
  clear n2
  by_cases hc : icA i n A L C = 0
  case neg =>
    obtain ⟨ev, hev⟩ := erv_sen (a := a) hc
    rw [hev]
    have hes := fun y W => neq_sen y W
    clear hev hc
    go_wp2_with fail
    refine (QAL.out _ (N1.out.tr N2.out)).mono ?_
    rintro e w3 ⟨rfl, n3⟩
    have N3 : Hid (Nw w2 w3) := n3
    clear n3
    go_wp2
    go_ret
    exact ⟨rfl, (N1.out.tr N2.out).tr N3.out⟩
  have HI1 := hid_of (ic_both hc)
  rw [hc, show erv a 0 = .nilIface from rfl]
  have hen := fun W => neq_nilE W
  clear hc
  clear c0 c1 c6
  have c0 := (HPC.out w2 N2.out).1
  have c1 := (HPC.out w2 N2.out).2.1
  have c6 := (HPC.out w2 N2.out).2.2.2.2
  have FA := hid_of (HPC.out w2 N2.out).2.2.1
  have FC := hid_of (HPC.out w2 N2.out).2.2.2.1
  have FO := hid_of (HOB.out w2 N2.out)
  go_wp2_with first
    | refine wpl_loadN (by kernel_rfl) (.tmp 4) 24 32 rfl Tryd.isAgg24 Tryd.sizeOf24 ob 0 rfl (hbs O) hOs FO.out ?_
    | refine wpl_loadN (by kernel_rfl) (.tmp 31) 24 32 rfl Tryd.isAgg24 Tryd.sizeOf24 xb 34 rfl (hbs C) hCs FC.out ?_
  refine (QJ.out _ (N1.out.tr N2.out)).mono ?_
  rintro e w3 ⟨rfl, n3⟩
  have N3 : Hid (Nw w1 w3) := N2.out.tr n3
  clear n3
  by_cases hc : icA i n O M C = 0
  case neg =>
    obtain ⟨ev, hev⟩ := erv_sen (a := a) hc
    rw [hev]
    have hes := fun y W => neq_sen y W
    clear hev hc
    go_wp2_with fail
    refine (QAL.out _ (N1.out.tr N3.out)).mono ?_
    rintro e w4 ⟨rfl, n4⟩
    have N4 : Hid (Nw w3 w4) := n4
    clear n4
    go_wp2
    go_ret
    exact ⟨rfl, (N1.out.tr N3.out).tr N4.out⟩
  have HI2 := hid_of (ic_both hc)
  rw [hc, show erv a 0 = .nilIface from rfl]
  clear hc QI QJ
  -- both verify
  obtain ⟨s, hs⟩ : ∃ s, s = sds i n := ⟨_, rfl⟩
  have HSD := hid_of hs
  rw [← hs] at HI1 HI2
  obtain ⟨k, hk⟩ : ∃ k, k = s.length := ⟨_, rfl⟩
  have HK := hid_of hk
  have HK64 : Hid (k ≤ 63) := by
    show k ≤ 63
    rw [hk, hs]
    have h63 : n ≤ 9223372036854775808 := by have := HI1.out.1; omega
    exact sds_len 63 n i (Nat.le_trans h63 (by decide))
  obtain rfl : k = ln := by rw [HLE.out, HI1.out.2.1, hk]
  obtain rfl : k = mn := by rw [HME.out, HI2.out.2.1, hk]
  clear hs hk
  have hrg := HI1.out.1
  have hn0 : ((n : Int) == 0) = false := by rw [beq_eq_false_iff_ne]; omega
  have hin : decide (n ≤ i) = false := decide_eq_false (by omega)
  have hnb : decide (9223372036854775808 < n) = false := decide_eq_false (by omega)
  have hnc : decide ((9223372036854775808 : Int) < (n : Int)) = false := decide_eq_false (by omega)
  clear hrg
  clear c0 c1 c6
  have c0 := (HPC.out w3 N3.out).1
  have c1 := (HPC.out w3 N3.out).2.1
  have c6 := (HPC.out w3 N3.out).2.2.2.2
  have FA := hid_of (HPC.out w3 N3.out).2.2.1
  have FC := hid_of (HPC.out w3 N3.out).2.2.2.1
  have FO := hid_of (HOB.out w3 N3.out)
  go_wp2_with fail
  have QSD := sides_any i n (by have := HI1.out.1; omega) (by have := HI1.out.1; omega) w3
  rw [← HSD.out, ← HK.out] at QSD
  refine Calls.mono QSD ?_
  rintro e w4 ⟨v, rfl, o4, n4⟩
  obtain ⟨sa, sc, rfl⟩ := ownB_at o4
  have N4 : Hid (Nw w1 w4) := N3.out.tr n4
  have HBL : Hid (Bls w4 sa s) := Bls.of o4
  clear QSD o4 n4
  clear c0 c1 c6
  have c0 := (HPC.out w4 N4.out).1
  have c1 := (HPC.out w4 N4.out).2.1
  have c6 := (HPC.out w4 N4.out).2.2.2.2
  have FA := hid_of (HPC.out w4 N4.out).2.2.1
  have FC := hid_of (HPC.out w4 N4.out).2.2.2.1
  have FO := hid_of (HOB.out w4 N4.out)
  have hkn : ¬ ((k : Int) < 0) := by omega
  by_cases hk0 : k = 0
  case pos =>
    have hA0 : A = C := by
      have h := HI1.out.2.2
      have h2 : L = [] := List.length_eq_zero_iff.1 (by rw [← HLE.out]; exact hk0)
      rwa [h2, clm] at h
      all_goals simp
    have hO0 : O = C := by
      have h := HI2.out.2.2
      have h2 : M = [] := List.length_eq_zero_iff.1 (by rw [← HME.out]; exact hk0)
      rwa [h2, clm] at h
      all_goals simp
    subst hk0
    have hdA : decide (A = C) = true := decide_eq_true hA0
    have hdO : decide (O = C) = true := decide_eq_true hO0
    clear hA0 hO0
    go_wp2_with first
      | refine wpl_loadN (by kernel_rfl) (.tmp 73) 24 32 rfl Tryd.isAgg24 Tryd.sizeOf24 xb 2 rfl (hbs A) hAs FA.out ?_
      | refine wpl_loadN (by kernel_rfl) (.tmp 75) 24 32 rfl Tryd.isAgg24 Tryd.sizeOf24 xb 34 rfl (hbs C) hCs FC.out ?_
      | refine wpl_loadN (by kernel_rfl) (.tmp 4) 24 32 rfl Tryd.isAgg24 Tryd.sizeOf24 ob 0 rfl (hbs O) hOs FO.out ?_
      | refine wpl_loadN (by kernel_rfl) (.tmp 80) 24 32 rfl Tryd.isAgg24 Tryd.sizeOf24 xb 34 rfl (hbs C) hCs FC.out ?_
      | (refine wpl_eqlA (by kernel_rfl) (.tmp 74) (.tmp 76) rfl A C HA.out HC.out rfl rfl ?_; rw [hdA])
      | (refine wpl_eqlA (by kernel_rfl) (.tmp 79) (.tmp 81) rfl O C HO.out HC.out rfl rfl ?_; rw [hdO])
    refine (QAL.out _ (N1.out.tr N4.out)).mono ?_
    rintro e w5 ⟨rfl, n5⟩
    have N5 : Hid (Nw w4 w5) := n5
    clear n5
    go_wp2
    go_ret
    exact ⟨rfl, (N1.out.tr N4.out).tr N5.out⟩
  obtain ⟨j, hj⟩ : ∃ j, k = j + 1 := ⟨k - 1, by omega⟩
  have HKJ := hid_of hj
  have hk1 : ¬ (k : Int) = 0 := by omega
  clear hj hk0
  go_wp2_with first
    | refine wpl_loadN (by kernel_rfl) (.tmp 87) 24 32 rfl Tryd.isAgg24 Tryd.sizeOf24 xb 2 rfl (hbs A) hAs FA.out ?_
  have hls1 : L.length = s.length := by rw [← HLE.out, ← HK.out]
  have hls2 : M.length = s.length := by rw [← HME.out, ← HK.out]
  have QCL := climbs_any A HA.out L HL32.out s hls1 (by rw [hls1, ← HK.out]; have := HK64.out; omega) ad cap sa sc w4 (by rw [← HLE.out]; exact HSS.out.nw HL32.out (N1.out.tr N4.out)) HBL.out (HLD.out.nw (N1.out.tr N4.out))
  rw [← HLE.out, ← HK.out] at QCL
  refine Calls.mono QCL ?_
  rintro e w5 ⟨v, rfl, o5, n5⟩
  obtain ⟨pa, pc, rfl⟩ := ownP_at o5
  have HP32 : Hid (∀ p ∈ prs A L s, p.1.length = 32 ∧ p.2.length = 32) := prs_32 A L s HA.out HL32.out
  have HQ32 : Hid (∀ p ∈ prs O M s, p.1.length = 32 ∧ p.2.length = 32) := prs_32 O M s HO.out HM32.out
  have HPM : Hid (Pm w5 pa (prs A L s)) := Pm.of HP32.out (by rw [prs_len A L s hls1]; exact HLE.out.symm) o5
  have M5 : Hid (Nw w4 w5) := n5
  have N5 : Hid (Nw w1 w5) := N4.out.tr n5
  clear QCL o5 n5
  clear c0 c1 c6
  have c0 := (HPC.out w5 N5.out).1
  have c1 := (HPC.out w5 N5.out).2.1
  have c6 := (HPC.out w5 N5.out).2.2.2.2
  have FA := hid_of (HPC.out w5 N5.out).2.2.1
  have FC := hid_of (HPC.out w5 N5.out).2.2.2.1
  have FO := hid_of (HOB.out w5 N5.out)
  go_wp2_with first
    | refine wpl_loadN (by kernel_rfl) (.tmp 4) 24 32 rfl Tryd.isAgg24 Tryd.sizeOf24 ob 0 rfl (hbs O) hOs FO.out ?_
  have QCM := climbs_any O HO.out M HM32.out s hls2 (by rw [hls2, ← HK.out]; have := HK64.out; omega) bd bap sa sc w5 (by rw [← HME.out]; exact HTT.out.nw HM32.out (N1.out.tr N5.out)) (HBL.out.nw M5.out) (HLD.out.nw (N1.out.tr N5.out))
  rw [← HME.out, ← HK.out] at QCM
  refine Calls.mono QCM ?_
  rintro e w6 ⟨v, rfl, o6, n6⟩
  obtain ⟨qa, qc, rfl⟩ := ownP_at o6
  have HQM : Hid (Pm w6 qa (prs O M s)) := Pm.of HQ32.out (by rw [prs_len O M s hls2]; exact HME.out.symm) o6
  have HPM6 : Hid (Pm w6 pa (prs A L s)) := HPM.out.nw HP32.out n6
  have N6 : Hid (Nw w1 w6) := N5.out.tr n6
  clear QCM o6 n6 HPM HBL M5
  obtain ⟨p1, p2, hp, hpe⟩ := prs_last A L s j (by rw [← HLE.out, HKJ.out]) (by rw [← HK.out, HKJ.out])
  obtain ⟨q1, q2, hq, hqe⟩ := prs_last O M s j (by rw [← HME.out, HKJ.out]) (by rw [← HK.out, HKJ.out])
  obtain ⟨pg, po, rfl, hpc⟩ := HPM6.out j _ hp
  obtain ⟨qg, qo, rfl, hqc⟩ := HQM.out j _ hq
  have P1L : Hid (p1.length = 32) := (HP32.out _ (List.mem_of_getElem? hp)).1
  have P2L : Hid (p2.length = 32) := (HP32.out _ (List.mem_of_getElem? hp)).2
  have Q1L : Hid (q1.length = 32) := (HQ32.out _ (List.mem_of_getElem? hq)).1
  have Q2L : Hid (q2.length = 32) := (HQ32.out _ (List.mem_of_getElem? hq)).2
  have hp1s : (hbs p1).size = 32 := by rw [hbs_size, P1L.out]
  have hp2s : (hbs p2).size = 32 := by rw [hbs_size, P2L.out]
  have hq1s : (hbs q1).size = 32 := by rw [hbs_size, Q1L.out]
  have hq2s : (hbs q2).size = 32 := by rw [hbs_size, Q2L.out]
  have HPA : Hid (∀ V, Nw w6 V → ∀ k, k < 64 → V.cell? ⟨pg, po + j * 64 + k, none⟩ = (h2c p1 p2)[k]?) := fun V hV k hk => by
    obtain ⟨g', o', e', h6⟩ := (HPM6.out.nw HP32.out hV) j _ hp
    cases e'
    exact h6 k hk
  have HQA : Hid (∀ V, Nw w6 V → ∀ k, k < 64 → V.cell? ⟨qg, qo + j * 64 + k, none⟩ = (h2c q1 q2)[k]?) := fun V hV k hk => by
    obtain ⟨g', o', e', h6⟩ := (HQM.out.nw HQ32.out hV) j _ hq
    cases e'
    exact h6 k hk
  have HPL : Hid (∀ V, Nw w6 V → ∀ k, k < 32 → V.cell? ⟨pg, po + j * 64 + k, none⟩ = (hbs p1)[k]?) := fun V hV k hk => (HPA.out V hV k (by omega)).trans (h2c_l p2 P1L.out k hk)
  have HPR : Hid (∀ V, Nw w6 V → ∀ k, k < 32 → V.cell? ⟨pg, po + j * 64 + 32 + k, none⟩ = (hbs p2)[k]?) := fun V hV k hk => by rw [Nat.add_assoc _ 32 k]; exact (HPA.out V hV (32 + k) (by omega)).trans (h2c_r p2 P1L.out k)
  have HQL : Hid (∀ V, Nw w6 V → ∀ k, k < 32 → V.cell? ⟨qg, qo + j * 64 + k, none⟩ = (hbs q1)[k]?) := fun V hV k hk => (HQA.out V hV k (by omega)).trans (h2c_l q2 Q1L.out k hk)
  have HQR : Hid (∀ V, Nw w6 V → ∀ k, k < 32 → V.cell? ⟨qg, qo + j * 64 + 32 + k, none⟩ = (hbs q2)[k]?) := fun V hV k hk => by rw [Nat.add_assoc _ 32 k]; exact (HQA.out V hV (32 + k) (by omega)).trans (h2c_r q2 Q1L.out k)
  have QN1 : Hid (∀ V, Nw w6 V → Calls Tryd.prog 25 #[.agg (hbs p1), .agg (hbs p2)] V fun e w' => e = .returned (.agg (hbs C)) ∧ Nw V w') := fun V hV => by
    have := node_any p1 p2 P1L.out P2L.out V (HLD.out.nw ((N1.out.tr N6.out).tr hV))
    rw [show Sh (1 :: (p1 ++ p2)) = C from hpe.trans HI1.out.2.2] at this
    exact this
  have QN2 : Hid (∀ V, Nw w6 V → Calls Tryd.prog 25 #[.agg (hbs q1), .agg (hbs q2)] V fun e w' => e = .returned (.agg (hbs C)) ∧ Nw V w') := fun V hV => by
    have := node_any q1 q2 Q1L.out Q2L.out V (HLD.out.nw ((N1.out.tr N6.out).tr hV))
    rw [show Sh (1 :: (q1 ++ q2)) = C from hqe.trans HI2.out.2.2] at this
    exact this
  have HBD := hid_of (clm_bind s A O L M hls1 hls2 (HI1.out.2.2.trans HI2.out.2.2.symm))
  have HSM : Hid (∀ V, Nw w6 V → Calls Tryd.prog 26 #[.slice ad k cap, .slice bd k bap] V fun e w' => e = .returned (.bool (decide (L = M))) ∧ Nw V w') := fun V hV => by
    have := sames_any ad bd cap bap L M HL32.out HM32.out (hls1.trans hls2.symm) V (by rw [← HLE.out]; exact HSS.out.nw HL32.out ((N1.out.tr N6.out).tr hV)) (by rw [← HME.out]; exact HTT.out.nw HM32.out ((N1.out.tr N6.out).tr hV)) (by rw [← HLE.out]; have := HLN.out; omega)
    rw [← HLE.out, ← HME.out] at this
    exact this
  have HBR : Hid (∀ V, Nw w6 V → Calls Tryd.prog 27 #[.slice (some ⟨pg, po, none⟩) k pc, .slice (some ⟨qg, qo, none⟩) k qc] V fun e w' => e = .returned (.bool (brk (prs A L s) (prs O M s))) ∧ Nw V w') := fun V hV => by
    have e1 := prs_len A L s hls1
    have e2 := prs_len O M s hls2
    have := broken_any (prs A L s) (prs O M s) HP32.out HQ32.out (by rw [e1, e2, hls1, hls2]) (by rw [e1, hls1, ← HK.out]; have := HK64.out; omega) (some ⟨pg, po, none⟩) pc (some ⟨qg, qo, none⟩) qc V (HPM6.out.nw HP32.out hV) (HQM.out.nw HQ32.out hV) (HLD.out.nw ((N1.out.tr N6.out).tr hV))
    rw [e1, e2, ← HLE.out, ← HME.out] at this
    exact this
  have hjk : (j : Int) < (k : Int) := by have := HKJ.out; omega
  have hj1 : (k : Int) - 1 = (j : Int) := by have := HKJ.out; omega
  have hjw : IntKind.i64.wrap ((k : Int) - 1) = (j : Int) := by rw [hj1, IntKind.wrap_i64]; have := HK64.out; have := HKJ.out; omega
  have hjv : IntKind.i64.wrap (j : Int) = (j : Int) := by rw [← hj1]; rw [hjw]; exact hj1.symm
  have hj2 : (0 : Int) ≤ (j : Int) := by omega
  have NW6 : Hid (Nw w w6) := N1.out.tr N6.out
  clear hp hq hpe hqe hpc hqc hls1 hls2 hkn
  go_upto_region 12 with fail
  go_cut [10] (fun v wx => ∃ tb, v = .pointer (some ⟨tb, 0, none⟩) ∧ wx.heap[tb]? = some (.cells (hbs C) 24) ∧ Nw w6 wx)
  case first =>
    have nb : Nw w6 w6.drew := (Fr.refl _ _).drew
    refine wp_region_held_drew (S := (fun V => Nw w6 V)) (by kernel_rfl) (nb) ?_
    intro hS0
    refine wpAnyH_take (i := 0) (oi := ({ dst := some 97, op := Op.move (Operand.tmp 8), type := 56, pos := "outright.go:158", after := #[], guard := none } : Oper)) (v := .slice (some ⟨pg, po, none⟩) k pc) rfl (by kernel_rfl) (by kernel_rfl) (by kernel_rfl) (fun _ _ _ h => h) (Or.inl ⟨by rfl, by intro w hw; go_simp⟩) hS0 ?_
    try simp only [Act.put, List.setIfInBounds_toArray, List.set_cons_zero, List.set_cons_succ]
    refine wpAnyH_take (i := 1) (oi := ({ dst := some 98, op := Op.move (Operand.tmp 8), type := 56, pos := "outright.go:158", after := #[], guard := none } : Oper)) (v := .slice (some ⟨pg, po, none⟩) k pc) rfl (by kernel_rfl) (by kernel_rfl) (by kernel_rfl) (fun _ _ _ h => h) (Or.inl ⟨by rfl, by intro w hw; go_simp⟩) hS0 ?_
    try simp only [Act.put, List.setIfInBounds_toArray, List.set_cons_zero, List.set_cons_succ]
    refine wpAnyH_take (i := 2) (oi := ({ dst := some 99, op := Op.call { callee := Callee.builtin Builtin.len, args := #[Operand.tmp 98], argTypes := #[56] }, type := 3, pos := "outright.go:158", after := #[{ on := 1, ground := Ground.data }], guard := none } : Oper)) (v := .int .i64 (k : Int)) rfl (by kernel_rfl) (by kernel_rfl) (by kernel_rfl) (fun _ _ _ h => h) (Or.inl ⟨by kernel_rfl, by intro w hw; go_simp⟩) hS0 ?_
    try simp only [Act.put, List.setIfInBounds_toArray, List.set_cons_zero, List.set_cons_succ]
    refine wpAnyH_take (i := 3) (oi := ({ dst := some 100, op := Op.binOp BinOp.sub 3 (Operand.tmp 99) (Operand.const (Value.int IntKind.i64 1)) 3, type := 3, pos := "outright.go:158", after := #[{ on := 2, ground := Ground.data }], guard := none } : Oper)) (v := .int .i64 (j : Int)) rfl (by kernel_rfl) (by kernel_rfl) (by kernel_rfl) (fun _ _ _ h => h) (Or.inl ⟨by kernel_rfl, by intro w hw; have hx := hjw; have hy := hj1; have hz := hjv; go_simp⟩) hS0 ?_
    try simp only [Act.put, List.setIfInBounds_toArray, List.set_cons_zero, List.set_cons_succ]
    refine wpAnyH_take (i := 4) (oi := ({ dst := some 101, op := Op.indexAddr 56 (Operand.tmp 97) (Operand.tmp 100), type := 0, pos := "outright.go:158", after := #[{ on := 0, ground := Ground.data }, { on := 3, ground := Ground.data }], guard := none } : Oper)) (v := .pointer (some ⟨pg, po + j * 64, none⟩)) rfl (by kernel_rfl) (by kernel_rfl) (by kernel_rfl) (fun _ _ _ h => h) (Or.inl ⟨by kernel_rfl, by intro w hw; have hx := hj2; go_simp; try (intro hq; omega)⟩) hS0 ?_
    try simp only [Act.put, List.setIfInBounds_toArray, List.set_cons_zero, List.set_cons_succ]
    refine wpAnyH_take (i := 5) (oi := ({ dst := some 102, op := Op.fieldAddr 60 (Operand.tmp 101) 0, type := 0, pos := "outright.go:158", after := #[{ on := 4, ground := Ground.data }], guard := none } : Oper)) (v := .pointer (some ⟨pg, po + j * 64, none⟩)) rfl (by kernel_rfl) (by kernel_rfl) (by kernel_rfl) (fun _ _ _ h => h) (Or.inl ⟨by kernel_rfl, by intro w hw; go_simp⟩) hS0 ?_
    try simp only [Act.put, List.setIfInBounds_toArray, List.set_cons_zero, List.set_cons_succ]
    refine wpAnyH_take (i := 6) (oi := ({ dst := some 103, op := Op.load 24 (Operand.tmp 102), type := 24, pos := "outright.go:158", after := #[{ on := 5, ground := Ground.data }], guard := none } : Oper)) (v := .agg (hbs p1)) rfl (by kernel_rfl) (by kernel_rfl) (by kernel_rfl) (fun _ _ _ h => h) (yields_loadV (by kernel_rfl) (.tmp 102) 24 32 rfl Tryd.isAgg24 Tryd.sizeOf24 pg (po + j * 64) rfl (hbs p1) hp1s (fun w hw => HPL.out w hw)) hS0 ?_
    try simp only [Act.put, List.setIfInBounds_toArray, List.set_cons_zero, List.set_cons_succ]
    refine wpAnyH_take (i := 7) (oi := ({ dst := some 104, op := Op.move (Operand.tmp 8), type := 56, pos := "outright.go:158", after := #[], guard := none } : Oper)) (v := .slice (some ⟨pg, po, none⟩) k pc) rfl (by kernel_rfl) (by kernel_rfl) (by kernel_rfl) (fun _ _ _ h => h) (Or.inl ⟨by rfl, by intro w hw; go_simp⟩) hS0 ?_
    try simp only [Act.put, List.setIfInBounds_toArray, List.set_cons_zero, List.set_cons_succ]
    refine wpAnyH_take (i := 8) (oi := ({ dst := some 105, op := Op.move (Operand.tmp 8), type := 56, pos := "outright.go:158", after := #[], guard := none } : Oper)) (v := .slice (some ⟨pg, po, none⟩) k pc) rfl (by kernel_rfl) (by kernel_rfl) (by kernel_rfl) (fun _ _ _ h => h) (Or.inl ⟨by rfl, by intro w hw; go_simp⟩) hS0 ?_
    try simp only [Act.put, List.setIfInBounds_toArray, List.set_cons_zero, List.set_cons_succ]
    refine wpAnyH_take (i := 9) (oi := ({ dst := some 106, op := Op.call { callee := Callee.builtin Builtin.len, args := #[Operand.tmp 105], argTypes := #[56] }, type := 3, pos := "outright.go:158", after := #[{ on := 8, ground := Ground.data }], guard := none } : Oper)) (v := .int .i64 (k : Int)) rfl (by kernel_rfl) (by kernel_rfl) (by kernel_rfl) (fun _ _ _ h => h) (Or.inl ⟨by kernel_rfl, by intro w hw; go_simp⟩) hS0 ?_
    try simp only [Act.put, List.setIfInBounds_toArray, List.set_cons_zero, List.set_cons_succ]
    refine wpAnyH_take (i := 10) (oi := ({ dst := some 107, op := Op.binOp BinOp.sub 3 (Operand.tmp 106) (Operand.const (Value.int IntKind.i64 1)) 3, type := 3, pos := "outright.go:158", after := #[{ on := 9, ground := Ground.data }], guard := none } : Oper)) (v := .int .i64 (j : Int)) rfl (by kernel_rfl) (by kernel_rfl) (by kernel_rfl) (fun _ _ _ h => h) (Or.inl ⟨by kernel_rfl, by intro w hw; have hx := hjw; have hy := hj1; have hz := hjv; go_simp⟩) hS0 ?_
    try simp only [Act.put, List.setIfInBounds_toArray, List.set_cons_zero, List.set_cons_succ]
    refine wpAnyH_take (i := 11) (oi := ({ dst := some 108, op := Op.indexAddr 56 (Operand.tmp 104) (Operand.tmp 107), type := 0, pos := "outright.go:158", after := #[{ on := 7, ground := Ground.data }, { on := 10, ground := Ground.data }], guard := none } : Oper)) (v := .pointer (some ⟨pg, po + j * 64, none⟩)) rfl (by kernel_rfl) (by kernel_rfl) (by kernel_rfl) (fun _ _ _ h => h) (Or.inl ⟨by kernel_rfl, by intro w hw; have hx := hj2; go_simp; try (intro hq; omega)⟩) hS0 ?_
    try simp only [Act.put, List.setIfInBounds_toArray, List.set_cons_zero, List.set_cons_succ]
    refine wpAnyH_take (i := 12) (oi := ({ dst := some 109, op := Op.fieldAddr 60 (Operand.tmp 108) 1, type := 0, pos := "outright.go:158", after := #[{ on := 11, ground := Ground.data }], guard := none } : Oper)) (v := .pointer (some ⟨pg, po + j * 64 + 32, none⟩)) rfl (by kernel_rfl) (by kernel_rfl) (by kernel_rfl) (fun _ _ _ h => h) (Or.inl ⟨by kernel_rfl, by intro w hw; go_simp⟩) hS0 ?_
    try simp only [Act.put, List.setIfInBounds_toArray, List.set_cons_zero, List.set_cons_succ]
    refine wpAnyH_take (i := 13) (oi := ({ dst := some 110, op := Op.load 24 (Operand.tmp 109), type := 24, pos := "outright.go:158", after := #[{ on := 12, ground := Ground.data }], guard := none } : Oper)) (v := .agg (hbs p2)) rfl (by kernel_rfl) (by kernel_rfl) (by kernel_rfl) (fun _ _ _ h => h) (yields_loadV (by kernel_rfl) (.tmp 109) 24 32 rfl Tryd.isAgg24 Tryd.sizeOf24 pg (po + j * 64 + 32) rfl (hbs p2) hp2s (fun w hw => HPR.out w hw)) hS0 ?_
    try simp only [Act.put, List.setIfInBounds_toArray, List.set_cons_zero, List.set_cons_succ]
    refine wpAnyH_ready (rs := [14, 15]) (by kernel_rfl) (by simp) ?_
    refine (AllReadyH.cons (o := ({ dst := some 111, op := Op.call { callee := Callee.value (Operand.func 25), args := #[Operand.tmp 103, Operand.tmp 110], argTypes := #[24, 24] }, type := 24, pos := "outright.go:158", after := #[{ on := 6, ground := Ground.data }, { on := 13, ground := Ground.data }], guard := none } : Oper)) rfl (fun K' hK => ?_) (AllReadyH.cons (o := ({ dst := some 10, op := Op.alloc 24, type := 0, pos := "outright.go:158", after := #[], guard := none } : Oper)) rfl (fun K' hK => ?_) AllReadyH.nil))
    · go_simp
      go_wp2_with (go_at_call 25; refine (QN1.out _ nb).mono ?_; rintro ex w101 ⟨rfl, nw101⟩)
      have nb := nb.tr nw101
      refine hK.out _ _ (nb) (fun hS0 => ?_)
      try simp only [Act.put, List.setIfInBounds_toArray, List.set_cons_zero, List.set_cons_succ]
      refine wpAnyH_ready (rs := [15]) (by kernel_rfl) (by simp) ?_
      refine (AllReadyH.cons (o := ({ dst := some 10, op := Op.alloc 24, type := 0, pos := "outright.go:158", after := #[], guard := none } : Oper)) rfl (fun K' hK => ?_) AllReadyH.nil)
      refine step_alloc24 rfl rfl ?_
      have BA := heap_new (w101) (.cells z32 24)
      have na := nwa (w101) (.cells z32 24)
      obtain ⟨wa, hwa⟩ : ∃ q, (w101).alloc (.cells z32 24) = q := ⟨_, rfl⟩
      rw [hwa] at BA na ⊢
      obtain ⟨pb, hpb⟩ : ∃ q, q = (w101).heap.size := ⟨_, rfl⟩
      rw [← hpb] at BA ⊢
      have LP : w6.heap.size ≤ pb := by rw [hpb]; exact nb.size
      have nb : Nw w6 wa := nb.tr na
      clear hwa hpb na
      refine hK.out _ _ (nb) (fun hS0 => ?_)
      try simp only [Act.put, List.setIfInBounds_toArray, List.set_cons_zero, List.set_cons_succ]
      refine wpAnyH_ready (rs := [16]) (by kernel_rfl) (by simp) ?_
      refine (AllReadyH.cons (o := ({ dst := none, op := Op.store 24 (Operand.tmp 10) (Operand.tmp 111), type := 0, pos := "outright.go:158", after := #[{ on := 15, ground := Ground.data }, { on := 14, ground := Ground.data }, { on := 14, ground := Ground.chain }, { on := 0, ground := Ground.phase }, { on := 1, ground := Ground.phase }, { on := 2, ground := Ground.phase }, { on := 3, ground := Ground.phase }, { on := 4, ground := Ground.phase }, { on := 5, ground := Ground.phase }, { on := 6, ground := Ground.phase }, { on := 7, ground := Ground.phase }, { on := 8, ground := Ground.phase }, { on := 9, ground := Ground.phase }, { on := 10, ground := Ground.phase }, { on := 11, ground := Ground.phase }, { on := 12, ground := Ground.phase }, { on := 13, ground := Ground.phase }, { on := 14, ground := Ground.phase }, { on := 15, ground := Ground.phase }], guard := none } : Oper)) rfl (fun K' hK => ?_) AllReadyH.nil)
      have BZ : wa.heap[pb]? = some (.cells z32 24) := by first | exact BA | exact (nw101.block _ (heap_lt BA) (fun f => f)).trans BA
      refine step_store_agg rfl (.tmp 10) (.tmp 111) 24 32 rfl Tryd.sizeOf24 pb 0 rfl z32 24 BZ (hbs C) rfl hCs (hbs_one _) (by decide) (hbs C) (by rw [dropA z32_size]; simp) ?_
      intro w9 j9 f9 z9
      clear z9
      have nb : Nw w6 w9 := nb.trans f9 (fun k hk q => by omega)
      refine hK.out _ _ (nb) (fun hS0 => ?_)
      try simp only [Act.put, List.setIfInBounds_toArray, List.set_cons_zero, List.set_cons_succ]
      refine wpAnyH_done (by kernel_rfl) ?_ _
      go_wp2_with fail
      go_meet
      exact ⟨pb, rfl, j9, nb⟩
    · refine step_alloc24 rfl rfl ?_
      have BA := heap_new (w6.drew) (.cells z32 24)
      have na := nwa (w6.drew) (.cells z32 24)
      obtain ⟨wa, hwa⟩ : ∃ q, (w6.drew).alloc (.cells z32 24) = q := ⟨_, rfl⟩
      rw [hwa] at BA na ⊢
      obtain ⟨pb, hpb⟩ : ∃ q, q = (w6.drew).heap.size := ⟨_, rfl⟩
      rw [← hpb] at BA ⊢
      have LP : w6.heap.size ≤ pb := by rw [hpb]; exact nb.size
      have nb : Nw w6 wa := nb.tr na
      clear hwa hpb na
      refine hK.out _ _ (nb) (fun hS0 => ?_)
      try simp only [Act.put, List.setIfInBounds_toArray, List.set_cons_zero, List.set_cons_succ]
      refine wpAnyH_ready (rs := [14]) (by kernel_rfl) (by simp) ?_
      refine (AllReadyH.cons (o := ({ dst := some 111, op := Op.call { callee := Callee.value (Operand.func 25), args := #[Operand.tmp 103, Operand.tmp 110], argTypes := #[24, 24] }, type := 24, pos := "outright.go:158", after := #[{ on := 6, ground := Ground.data }, { on := 13, ground := Ground.data }], guard := none } : Oper)) rfl (fun K' hK => ?_) AllReadyH.nil)
      go_simp
      go_wp2_with (go_at_call 25; refine (QN1.out _ nb).mono ?_; rintro ex w102 ⟨rfl, nw102⟩)
      have nb := nb.tr nw102
      refine hK.out _ _ (nb) (fun hS0 => ?_)
      try simp only [Act.put, List.setIfInBounds_toArray, List.set_cons_zero, List.set_cons_succ]
      refine wpAnyH_ready (rs := [16]) (by kernel_rfl) (by simp) ?_
      refine (AllReadyH.cons (o := ({ dst := none, op := Op.store 24 (Operand.tmp 10) (Operand.tmp 111), type := 0, pos := "outright.go:158", after := #[{ on := 15, ground := Ground.data }, { on := 14, ground := Ground.data }, { on := 14, ground := Ground.chain }, { on := 0, ground := Ground.phase }, { on := 1, ground := Ground.phase }, { on := 2, ground := Ground.phase }, { on := 3, ground := Ground.phase }, { on := 4, ground := Ground.phase }, { on := 5, ground := Ground.phase }, { on := 6, ground := Ground.phase }, { on := 7, ground := Ground.phase }, { on := 8, ground := Ground.phase }, { on := 9, ground := Ground.phase }, { on := 10, ground := Ground.phase }, { on := 11, ground := Ground.phase }, { on := 12, ground := Ground.phase }, { on := 13, ground := Ground.phase }, { on := 14, ground := Ground.phase }, { on := 15, ground := Ground.phase }], guard := none } : Oper)) rfl (fun K' hK => ?_) AllReadyH.nil)
      have BZ : w102.heap[pb]? = some (.cells z32 24) := by first | exact BA | exact (nw102.block _ (heap_lt BA) (fun f => f)).trans BA
      refine step_store_agg rfl (.tmp 10) (.tmp 111) 24 32 rfl Tryd.sizeOf24 pb 0 rfl z32 24 BZ (hbs C) rfl hCs (hbs_one _) (by decide) (hbs C) (by rw [dropA z32_size]; simp) ?_
      intro w9 j9 f9 z9
      clear z9
      have nb : Nw w6 w9 := nb.trans f9 (fun k hk q => by omega)
      refine hK.out _ _ (nb) (fun hS0 => ?_)
      try simp only [Act.put, List.setIfInBounds_toArray, List.set_cons_zero, List.set_cons_succ]
      refine wpAnyH_done (by kernel_rfl) ?_ _
      go_wp2_with fail
      go_meet
      exact ⟨pb, rfl, j9, nb⟩
  case rest =>
  obtain ⟨tb, rfl, jt, n7⟩ := hcut
  obtain ⟨w7, hw7⟩ : ∃ q, q = wc := ⟨_, rfl⟩
  rw [← hw7] at jt n7 ⊢
  have HTB := hid_of jt
  have N7 := hid_of n7
  have HQL7 : Hid (∀ V, Nw w7 V → ∀ k, k < 32 → V.cell? ⟨qg, qo + j * 64 + k, none⟩ = (hbs q1)[k]?) := fun V hV => HQL.out V (N7.out.tr hV)
  have HQR7 : Hid (∀ V, Nw w7 V → ∀ k, k < 32 → V.cell? ⟨qg, qo + j * 64 + 32 + k, none⟩ = (hbs q2)[k]?) := fun V hV => HQR.out V (N7.out.tr hV)
  have QN27 : Hid (∀ V, Nw w7 V → Calls Tryd.prog 25 #[.agg (hbs q1), .agg (hbs q2)] V fun e w' => e = .returned (.agg (hbs C)) ∧ Nw V w') := fun V hV => QN2.out V (N7.out.tr hV)
  clear hw7 jt n7 c0 c1 c6
  go_upto_region 13 with fail
  go_cut [11] (fun v wx => ∃ ub, v = .pointer (some ⟨ub, 0, none⟩) ∧ wx.heap[ub]? = some (.cells (hbs C) 24) ∧ Nw w7 wx)
  case first =>
    have nb : Nw w7 w7.drew := (Fr.refl _ _).drew
    refine wp_region_held_drew (S := (fun V => Nw w7 V)) (by kernel_rfl) (nb) ?_
    intro hS0
    refine wpAnyH_take (i := 0) (oi := ({ dst := some 112, op := Op.move (Operand.tmp 9), type := 56, pos := "outright.go:159", after := #[], guard := none } : Oper)) (v := .slice (some ⟨qg, qo, none⟩) k qc) rfl (by kernel_rfl) (by kernel_rfl) (by kernel_rfl) (fun _ _ _ h => h) (Or.inl ⟨by rfl, by intro w hw; go_simp⟩) hS0 ?_
    try simp only [Act.put, List.setIfInBounds_toArray, List.set_cons_zero, List.set_cons_succ]
    refine wpAnyH_take (i := 1) (oi := ({ dst := some 113, op := Op.move (Operand.tmp 9), type := 56, pos := "outright.go:159", after := #[], guard := none } : Oper)) (v := .slice (some ⟨qg, qo, none⟩) k qc) rfl (by kernel_rfl) (by kernel_rfl) (by kernel_rfl) (fun _ _ _ h => h) (Or.inl ⟨by rfl, by intro w hw; go_simp⟩) hS0 ?_
    try simp only [Act.put, List.setIfInBounds_toArray, List.set_cons_zero, List.set_cons_succ]
    refine wpAnyH_take (i := 2) (oi := ({ dst := some 114, op := Op.call { callee := Callee.builtin Builtin.len, args := #[Operand.tmp 113], argTypes := #[56] }, type := 3, pos := "outright.go:159", after := #[{ on := 1, ground := Ground.data }], guard := none } : Oper)) (v := .int .i64 (k : Int)) rfl (by kernel_rfl) (by kernel_rfl) (by kernel_rfl) (fun _ _ _ h => h) (Or.inl ⟨by kernel_rfl, by intro w hw; go_simp⟩) hS0 ?_
    try simp only [Act.put, List.setIfInBounds_toArray, List.set_cons_zero, List.set_cons_succ]
    refine wpAnyH_take (i := 3) (oi := ({ dst := some 115, op := Op.binOp BinOp.sub 3 (Operand.tmp 114) (Operand.const (Value.int IntKind.i64 1)) 3, type := 3, pos := "outright.go:159", after := #[{ on := 2, ground := Ground.data }], guard := none } : Oper)) (v := .int .i64 (j : Int)) rfl (by kernel_rfl) (by kernel_rfl) (by kernel_rfl) (fun _ _ _ h => h) (Or.inl ⟨by kernel_rfl, by intro w hw; have hx := hjw; have hy := hj1; have hz := hjv; go_simp⟩) hS0 ?_
    try simp only [Act.put, List.setIfInBounds_toArray, List.set_cons_zero, List.set_cons_succ]
    refine wpAnyH_take (i := 4) (oi := ({ dst := some 116, op := Op.indexAddr 56 (Operand.tmp 112) (Operand.tmp 115), type := 0, pos := "outright.go:159", after := #[{ on := 0, ground := Ground.data }, { on := 3, ground := Ground.data }], guard := none } : Oper)) (v := .pointer (some ⟨qg, qo + j * 64, none⟩)) rfl (by kernel_rfl) (by kernel_rfl) (by kernel_rfl) (fun _ _ _ h => h) (Or.inl ⟨by kernel_rfl, by intro w hw; have hx := hj2; go_simp; try (intro hq; omega)⟩) hS0 ?_
    try simp only [Act.put, List.setIfInBounds_toArray, List.set_cons_zero, List.set_cons_succ]
    refine wpAnyH_take (i := 5) (oi := ({ dst := some 117, op := Op.fieldAddr 60 (Operand.tmp 116) 0, type := 0, pos := "outright.go:159", after := #[{ on := 4, ground := Ground.data }], guard := none } : Oper)) (v := .pointer (some ⟨qg, qo + j * 64, none⟩)) rfl (by kernel_rfl) (by kernel_rfl) (by kernel_rfl) (fun _ _ _ h => h) (Or.inl ⟨by kernel_rfl, by intro w hw; go_simp⟩) hS0 ?_
    try simp only [Act.put, List.setIfInBounds_toArray, List.set_cons_zero, List.set_cons_succ]
    refine wpAnyH_take (i := 6) (oi := ({ dst := some 118, op := Op.load 24 (Operand.tmp 117), type := 24, pos := "outright.go:159", after := #[{ on := 5, ground := Ground.data }], guard := none } : Oper)) (v := .agg (hbs q1)) rfl (by kernel_rfl) (by kernel_rfl) (by kernel_rfl) (fun _ _ _ h => h) (yields_loadV (by kernel_rfl) (.tmp 117) 24 32 rfl Tryd.isAgg24 Tryd.sizeOf24 qg (qo + j * 64) rfl (hbs q1) hq1s (fun w hw => HQL7.out w hw)) hS0 ?_
    try simp only [Act.put, List.setIfInBounds_toArray, List.set_cons_zero, List.set_cons_succ]
    refine wpAnyH_take (i := 7) (oi := ({ dst := some 119, op := Op.move (Operand.tmp 9), type := 56, pos := "outright.go:159", after := #[], guard := none } : Oper)) (v := .slice (some ⟨qg, qo, none⟩) k qc) rfl (by kernel_rfl) (by kernel_rfl) (by kernel_rfl) (fun _ _ _ h => h) (Or.inl ⟨by rfl, by intro w hw; go_simp⟩) hS0 ?_
    try simp only [Act.put, List.setIfInBounds_toArray, List.set_cons_zero, List.set_cons_succ]
    refine wpAnyH_take (i := 8) (oi := ({ dst := some 120, op := Op.move (Operand.tmp 9), type := 56, pos := "outright.go:159", after := #[], guard := none } : Oper)) (v := .slice (some ⟨qg, qo, none⟩) k qc) rfl (by kernel_rfl) (by kernel_rfl) (by kernel_rfl) (fun _ _ _ h => h) (Or.inl ⟨by rfl, by intro w hw; go_simp⟩) hS0 ?_
    try simp only [Act.put, List.setIfInBounds_toArray, List.set_cons_zero, List.set_cons_succ]
    refine wpAnyH_take (i := 9) (oi := ({ dst := some 121, op := Op.call { callee := Callee.builtin Builtin.len, args := #[Operand.tmp 120], argTypes := #[56] }, type := 3, pos := "outright.go:159", after := #[{ on := 8, ground := Ground.data }], guard := none } : Oper)) (v := .int .i64 (k : Int)) rfl (by kernel_rfl) (by kernel_rfl) (by kernel_rfl) (fun _ _ _ h => h) (Or.inl ⟨by kernel_rfl, by intro w hw; go_simp⟩) hS0 ?_
    try simp only [Act.put, List.setIfInBounds_toArray, List.set_cons_zero, List.set_cons_succ]
    refine wpAnyH_take (i := 10) (oi := ({ dst := some 122, op := Op.binOp BinOp.sub 3 (Operand.tmp 121) (Operand.const (Value.int IntKind.i64 1)) 3, type := 3, pos := "outright.go:159", after := #[{ on := 9, ground := Ground.data }], guard := none } : Oper)) (v := .int .i64 (j : Int)) rfl (by kernel_rfl) (by kernel_rfl) (by kernel_rfl) (fun _ _ _ h => h) (Or.inl ⟨by kernel_rfl, by intro w hw; have hx := hjw; have hy := hj1; have hz := hjv; go_simp⟩) hS0 ?_
    try simp only [Act.put, List.setIfInBounds_toArray, List.set_cons_zero, List.set_cons_succ]
    refine wpAnyH_take (i := 11) (oi := ({ dst := some 123, op := Op.indexAddr 56 (Operand.tmp 119) (Operand.tmp 122), type := 0, pos := "outright.go:159", after := #[{ on := 7, ground := Ground.data }, { on := 10, ground := Ground.data }], guard := none } : Oper)) (v := .pointer (some ⟨qg, qo + j * 64, none⟩)) rfl (by kernel_rfl) (by kernel_rfl) (by kernel_rfl) (fun _ _ _ h => h) (Or.inl ⟨by kernel_rfl, by intro w hw; have hx := hj2; go_simp; try (intro hq; omega)⟩) hS0 ?_
    try simp only [Act.put, List.setIfInBounds_toArray, List.set_cons_zero, List.set_cons_succ]
    refine wpAnyH_take (i := 12) (oi := ({ dst := some 124, op := Op.fieldAddr 60 (Operand.tmp 123) 1, type := 0, pos := "outright.go:159", after := #[{ on := 11, ground := Ground.data }], guard := none } : Oper)) (v := .pointer (some ⟨qg, qo + j * 64 + 32, none⟩)) rfl (by kernel_rfl) (by kernel_rfl) (by kernel_rfl) (fun _ _ _ h => h) (Or.inl ⟨by kernel_rfl, by intro w hw; go_simp⟩) hS0 ?_
    try simp only [Act.put, List.setIfInBounds_toArray, List.set_cons_zero, List.set_cons_succ]
    refine wpAnyH_take (i := 13) (oi := ({ dst := some 125, op := Op.load 24 (Operand.tmp 124), type := 24, pos := "outright.go:159", after := #[{ on := 12, ground := Ground.data }], guard := none } : Oper)) (v := .agg (hbs q2)) rfl (by kernel_rfl) (by kernel_rfl) (by kernel_rfl) (fun _ _ _ h => h) (yields_loadV (by kernel_rfl) (.tmp 124) 24 32 rfl Tryd.isAgg24 Tryd.sizeOf24 qg (qo + j * 64 + 32) rfl (hbs q2) hq2s (fun w hw => HQR7.out w hw)) hS0 ?_
    try simp only [Act.put, List.setIfInBounds_toArray, List.set_cons_zero, List.set_cons_succ]
    refine wpAnyH_ready (rs := [14, 15]) (by kernel_rfl) (by simp) ?_
    refine (AllReadyH.cons (o := ({ dst := some 126, op := Op.call { callee := Callee.value (Operand.func 25), args := #[Operand.tmp 118, Operand.tmp 125], argTypes := #[24, 24] }, type := 24, pos := "outright.go:159", after := #[{ on := 6, ground := Ground.data }, { on := 13, ground := Ground.data }], guard := none } : Oper)) rfl (fun K' hK => ?_) (AllReadyH.cons (o := ({ dst := some 11, op := Op.alloc 24, type := 0, pos := "outright.go:159", after := #[], guard := none } : Oper)) rfl (fun K' hK => ?_) AllReadyH.nil))
    · go_simp
      go_wp2_with (go_at_call 25; refine (QN27.out _ nb).mono ?_; rintro ex w101 ⟨rfl, nw101⟩)
      have nb := nb.tr nw101
      refine hK.out _ _ (nb) (fun hS0 => ?_)
      try simp only [Act.put, List.setIfInBounds_toArray, List.set_cons_zero, List.set_cons_succ]
      refine wpAnyH_ready (rs := [15]) (by kernel_rfl) (by simp) ?_
      refine (AllReadyH.cons (o := ({ dst := some 11, op := Op.alloc 24, type := 0, pos := "outright.go:159", after := #[], guard := none } : Oper)) rfl (fun K' hK => ?_) AllReadyH.nil)
      refine step_alloc24 rfl rfl ?_
      have BA := heap_new (w101) (.cells z32 24)
      have na := nwa (w101) (.cells z32 24)
      obtain ⟨wa, hwa⟩ : ∃ q, (w101).alloc (.cells z32 24) = q := ⟨_, rfl⟩
      rw [hwa] at BA na ⊢
      obtain ⟨pb, hpb⟩ : ∃ q, q = (w101).heap.size := ⟨_, rfl⟩
      rw [← hpb] at BA ⊢
      have LP : w7.heap.size ≤ pb := by rw [hpb]; exact nb.size
      have nb : Nw w7 wa := nb.tr na
      clear hwa hpb na
      refine hK.out _ _ (nb) (fun hS0 => ?_)
      try simp only [Act.put, List.setIfInBounds_toArray, List.set_cons_zero, List.set_cons_succ]
      refine wpAnyH_ready (rs := [16]) (by kernel_rfl) (by simp) ?_
      refine (AllReadyH.cons (o := ({ dst := none, op := Op.store 24 (Operand.tmp 11) (Operand.tmp 126), type := 0, pos := "outright.go:159", after := #[{ on := 15, ground := Ground.data }, { on := 14, ground := Ground.data }, { on := 14, ground := Ground.chain }, { on := 0, ground := Ground.phase }, { on := 1, ground := Ground.phase }, { on := 2, ground := Ground.phase }, { on := 3, ground := Ground.phase }, { on := 4, ground := Ground.phase }, { on := 5, ground := Ground.phase }, { on := 6, ground := Ground.phase }, { on := 7, ground := Ground.phase }, { on := 8, ground := Ground.phase }, { on := 9, ground := Ground.phase }, { on := 10, ground := Ground.phase }, { on := 11, ground := Ground.phase }, { on := 12, ground := Ground.phase }, { on := 13, ground := Ground.phase }, { on := 14, ground := Ground.phase }, { on := 15, ground := Ground.phase }], guard := none } : Oper)) rfl (fun K' hK => ?_) AllReadyH.nil)
      have BZ : wa.heap[pb]? = some (.cells z32 24) := by first | exact BA | exact (nw101.block _ (heap_lt BA) (fun f => f)).trans BA
      refine step_store_agg rfl (.tmp 11) (.tmp 126) 24 32 rfl Tryd.sizeOf24 pb 0 rfl z32 24 BZ (hbs C) rfl hCs (hbs_one _) (by decide) (hbs C) (by rw [dropA z32_size]; simp) ?_
      intro w9 j9 f9 z9
      clear z9
      have nb : Nw w7 w9 := nb.trans f9 (fun k hk q => by omega)
      refine hK.out _ _ (nb) (fun hS0 => ?_)
      try simp only [Act.put, List.setIfInBounds_toArray, List.set_cons_zero, List.set_cons_succ]
      refine wpAnyH_done (by kernel_rfl) ?_ _
      go_wp2_with fail
      go_meet
      exact ⟨pb, rfl, j9, nb⟩
    · refine step_alloc24 rfl rfl ?_
      have BA := heap_new (w7.drew) (.cells z32 24)
      have na := nwa (w7.drew) (.cells z32 24)
      obtain ⟨wa, hwa⟩ : ∃ q, (w7.drew).alloc (.cells z32 24) = q := ⟨_, rfl⟩
      rw [hwa] at BA na ⊢
      obtain ⟨pb, hpb⟩ : ∃ q, q = (w7.drew).heap.size := ⟨_, rfl⟩
      rw [← hpb] at BA ⊢
      have LP : w7.heap.size ≤ pb := by rw [hpb]; exact nb.size
      have nb : Nw w7 wa := nb.tr na
      clear hwa hpb na
      refine hK.out _ _ (nb) (fun hS0 => ?_)
      try simp only [Act.put, List.setIfInBounds_toArray, List.set_cons_zero, List.set_cons_succ]
      refine wpAnyH_ready (rs := [14]) (by kernel_rfl) (by simp) ?_
      refine (AllReadyH.cons (o := ({ dst := some 126, op := Op.call { callee := Callee.value (Operand.func 25), args := #[Operand.tmp 118, Operand.tmp 125], argTypes := #[24, 24] }, type := 24, pos := "outright.go:159", after := #[{ on := 6, ground := Ground.data }, { on := 13, ground := Ground.data }], guard := none } : Oper)) rfl (fun K' hK => ?_) AllReadyH.nil)
      go_simp
      go_wp2_with (go_at_call 25; refine (QN27.out _ nb).mono ?_; rintro ex w102 ⟨rfl, nw102⟩)
      have nb := nb.tr nw102
      refine hK.out _ _ (nb) (fun hS0 => ?_)
      try simp only [Act.put, List.setIfInBounds_toArray, List.set_cons_zero, List.set_cons_succ]
      refine wpAnyH_ready (rs := [16]) (by kernel_rfl) (by simp) ?_
      refine (AllReadyH.cons (o := ({ dst := none, op := Op.store 24 (Operand.tmp 11) (Operand.tmp 126), type := 0, pos := "outright.go:159", after := #[{ on := 15, ground := Ground.data }, { on := 14, ground := Ground.data }, { on := 14, ground := Ground.chain }, { on := 0, ground := Ground.phase }, { on := 1, ground := Ground.phase }, { on := 2, ground := Ground.phase }, { on := 3, ground := Ground.phase }, { on := 4, ground := Ground.phase }, { on := 5, ground := Ground.phase }, { on := 6, ground := Ground.phase }, { on := 7, ground := Ground.phase }, { on := 8, ground := Ground.phase }, { on := 9, ground := Ground.phase }, { on := 10, ground := Ground.phase }, { on := 11, ground := Ground.phase }, { on := 12, ground := Ground.phase }, { on := 13, ground := Ground.phase }, { on := 14, ground := Ground.phase }, { on := 15, ground := Ground.phase }], guard := none } : Oper)) rfl (fun K' hK => ?_) AllReadyH.nil)
      have BZ : w102.heap[pb]? = some (.cells z32 24) := by first | exact BA | exact (nw102.block _ (heap_lt BA) (fun f => f)).trans BA
      refine step_store_agg rfl (.tmp 11) (.tmp 126) 24 32 rfl Tryd.sizeOf24 pb 0 rfl z32 24 BZ (hbs C) rfl hCs (hbs_one _) (by decide) (hbs C) (by rw [dropA z32_size]; simp) ?_
      intro w9 j9 f9 z9
      clear z9
      have nb : Nw w7 w9 := nb.trans f9 (fun k hk q => by omega)
      refine hK.out _ _ (nb) (fun hS0 => ?_)
      try simp only [Act.put, List.setIfInBounds_toArray, List.set_cons_zero, List.set_cons_succ]
      refine wpAnyH_done (by kernel_rfl) ?_ _
      go_wp2_with fail
      go_meet
      exact ⟨pb, rfl, j9, nb⟩
  case rest =>
  obtain ⟨ub, rfl, ju, n8⟩ := hcut
  obtain ⟨w8, hw8⟩ : ∃ q, q = wc := ⟨_, rfl⟩
  rw [← hw8] at ju n8 ⊢
  have N68 : Hid (Nw w6 w8) := N7.out.tr n8
  have N8 : Hid (Nw w1 w8) := N6.out.tr N68.out
  have FU := hid_of (hash_cells ju)
  have FT := hid_of (hash_cells ((n8.block _ (heap_lt HTB.out) (fun f => f)).trans HTB.out))
  have c0 := (HPC.out w8 N8.out).1
  have c1 := (HPC.out w8 N8.out).2.1
  have c6 := (HPC.out w8 N8.out).2.2.2.2
  clear hw8 ju n8
  clear c0 c1 c6
  have c0 := (HPC.out w8 N8.out).1
  have c1 := (HPC.out w8 N8.out).2.1
  have c6 := (HPC.out w8 N8.out).2.2.2.2
  have FA := hid_of (HPC.out w8 N8.out).2.2.1
  have FC := hid_of (HPC.out w8 N8.out).2.2.2.1
  have FO := hid_of (HOB.out w8 N8.out)
  have hcc : (!decide (C = C)) = false := by simp
  go_upto_region 16 with first
    | refine wpl_loadN (by kernel_rfl) (.tmp 10) 24 32 rfl Tryd.isAgg24 Tryd.sizeOf24 tb 0 rfl (hbs C) hCs FT.out ?_
    | refine wpl_loadN (by kernel_rfl) (.tmp 11) 24 32 rfl Tryd.isAgg24 Tryd.sizeOf24 ub 0 rfl (hbs C) hCs FU.out ?_
    | refine wpl_loadN (by kernel_rfl) (.tmp 128) 24 32 rfl Tryd.isAgg24 Tryd.sizeOf24 xb 34 rfl (hbs C) hCs FC.out ?_
    | refine wpl_loadN (by kernel_rfl) (.tmp 133) 24 32 rfl Tryd.isAgg24 Tryd.sizeOf24 xb 34 rfl (hbs C) hCs FC.out ?_
    | (refine wpl_neqA (by kernel_rfl) (.tmp 127) (.tmp 129) rfl C C HC.out HC.out rfl rfl ?_; rw [hcc])
    | (refine wpl_neqA (by kernel_rfl) (.tmp 132) (.tmp 134) rfl C C HC.out HC.out rfl rfl ?_; rw [hcc])
  by_cases he : A = O
  · have hd : decide (A = O) = true := decide_eq_true he
    go_wp2_with first
      | refine wpl_loadN (by kernel_rfl) (.tmp 137) 24 32 rfl Tryd.isAgg24 Tryd.sizeOf24 xb 2 rfl (hbs A) hAs FA.out ?_
      | refine wpl_loadN (by kernel_rfl) (.tmp 4) 24 32 rfl Tryd.isAgg24 Tryd.sizeOf24 ob 0 rfl (hbs O) hOs FO.out ?_
      | (refine wpl_eqlA (by kernel_rfl) (.tmp 138) (.tmp 139) rfl A O HA.out HO.out rfl rfl ?_; rw [hd])
    refine (HSM.out _ N68.out).mono ?_
    rintro e w9 ⟨rfl, n9⟩
    have N9 : Hid (Nw w6 w9) := N68.out.tr n9
    clear n9
    by_cases hm : L = M
    · have hdm : decide (L = M) = true := decide_eq_true hm
      rw [hdm]
      clear hdm hm he
      go_wp2_with fail
      refine (QAL.out _ (NW6.out.tr N9.out)).mono ?_
      rintro e wz ⟨rfl, nz⟩
      have NZ : Hid (Nw w6 wz) := N9.out.tr nz
      clear nz
      go_wp2
      go_ret
      exact ⟨rfl, NW6.out.tr NZ.out⟩
    · have hdm : decide (L = M) = false := decide_eq_false hm
      have hb : brk (prs A L s) (prs O M s) = true := HBD.out.resolve_left (fun q => hm q.2)
      rw [hdm]
      clear hdm hm he
      go_wp2_with fail
      refine (HBR.out _ N9.out).mono ?_
      rintro e w10 ⟨rfl, n10⟩
      rw [hb]
      have N10 : Hid (Nw w6 w10) := N9.out.tr n10
      clear n10 hb
      go_wp2_with fail
      refine (QAL.out _ (NW6.out.tr N10.out)).mono ?_
      rintro e wz ⟨rfl, nz⟩
      have NZ : Hid (Nw w6 wz) := N10.out.tr nz
      clear nz
      go_wp2
      go_ret
      exact ⟨rfl, NW6.out.tr NZ.out⟩
  · have hd : decide (A = O) = false := decide_eq_false he
    have hb : brk (prs A L s) (prs O M s) = true := HBD.out.resolve_left (fun q => he q.1)
    clear he
    go_wp2_with first
      | refine wpl_loadN (by kernel_rfl) (.tmp 137) 24 32 rfl Tryd.isAgg24 Tryd.sizeOf24 xb 2 rfl (hbs A) hAs FA.out ?_
      | refine wpl_loadN (by kernel_rfl) (.tmp 4) 24 32 rfl Tryd.isAgg24 Tryd.sizeOf24 ob 0 rfl (hbs O) hOs FO.out ?_
      | (refine wpl_eqlA (by kernel_rfl) (.tmp 138) (.tmp 139) rfl A O HA.out HO.out rfl rfl ?_; rw [hd])
    refine (HBR.out _ N68.out).mono ?_
    rintro e w10 ⟨rfl, n10⟩
    rw [hb]
    have N10 : Hid (Nw w6 w10) := N68.out.tr n10
    clear n10 hb
    go_wp2_with fail
    refine (QAL.out _ (NW6.out.tr N10.out)).mono ?_
    rintro e wz ⟨rfl, nz⟩
    have NZ : Hid (Nw w6 wz) := N10.out.tr nz
    clear nz
    go_wp2
    go_ret
    exact ⟨rfl, NW6.out.tr NZ.out⟩
end Go.Proofs.YtaeocbdphfkflaaDoor
