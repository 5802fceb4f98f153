/- VerifyGrows. -/
import Derived.Test.YtaeocbdphfkflaaDoorAv
import Derived.Test.YtaeocbdphfkflaaDoorAw0
import Derived.Deep.DeepCutAuto
namespace Go.Proofs.YtaeocbdphfkflaaDoor
open Go.RowKit
set_option linter.unusedVariables false
set_option linter.unusedSimpArgs false
theorem clt_two : ∀ (x y : List UInt8) (l : List (List UInt8)) (s : List Bool), (clt x y l s).2 = clm y l s
  | x, y, [], [] => rfl
  | x, y, [], _ :: _ => rfl
  | x, y, _ :: _, [] => rfl
  | x, y, h :: l, b :: s => by rw [clt, clm]; exact clt_two _ _ l s
theorem cc_both {o n : Nat} {A C : List UInt8} {L : List (List UInt8)} (h : ccA o n A C L = 0) : (¬ (9223372036854775808 < n ∨ o = 0 ∨ n < o)) ∧ L.length = (gds o n).length + (if knb o n true then 0 else 1) ∧ (sbA o n true A L).1 = A ∧ (sbA o n true A L).2 = C := by
  by_cases hr : 9223372036854775808 < n ∨ o = 0 ∨ n < o
  · rw [ccA_range hr] at h
    simp at h
  · rw [ccA_sub hr] at h
    by_cases hl : L.length = (gds o n).length + (if knb o n true then 0 else 1)
    · rw [if_pos hl] at h
      by_cases hc : (sbA o n true A L).1 = A ∧ (sbA o n true A L).2 = C
      · exact ⟨hr, hl, hc.1, hc.2⟩
      · rw [if_neg hc] at h
        simp at h
    · rw [if_neg hl] at h
      simp at h
theorem pkb_len2 {b : Bool} {A : List UInt8} {L : List (List UInt8)} {k : Nat} (hl : L.length = k + (if b then 0 else 1)) (hA : A.length = 32) (h32 : ∀ y ∈ L, y.length = 32) : (pkb b A L).1.length = 32 ∧ (∀ y ∈ (pkb b A L).2, y.length = 32) ∧ (pkb b A L).2.length = k := by
  cases b
  · cases L with
    | nil => simp at hl
    | cons y R =>
      have h6 : R.length = k := by simpa using hl
      exact ⟨h32 y (by simp), fun z hz => h32 z (List.mem_cons_of_mem _ hz), h6⟩
  · have h6 : L.length = k := by simpa using hl
    exact ⟨hA, h32, h6⟩
theorem pkb_inj {b : Bool} {A O : List UInt8} {L M : List (List UInt8)} {k : Nat} (hl : L.length = k + (if b then 0 else 1)) (hm : M.length = k + (if b then 0 else 1)) (h1 : (pkb b A L).1 = (pkb b O M).1) (h2 : (pkb b A L).2 = (pkb b O M).2) : L = M := by
  cases b
  · cases L with
    | nil => simp at hl
    | cons y R =>
      cases M with
      | nil => simp at hm
      | cons z Q =>
        have e1 : y = z := h1
        have e2 : R = Q := h2
        rw [e1, e2]
  · exact h2
theorem grow_same {o n : Nat} {A O : List UInt8} {L : List (List UInt8)} (h1 : (sbA o n true A L).1 = A) (h2 : (sbA o n true O L).1 = O) (he : (pkb (knb o n true) A L).1 = (pkb (knb o n true) O L).1) (hl : L.length = (gds o n).length + (if knb o n true then 0 else 1)) : A = O := by
  cases hb : knb o n true
  · rw [hb] at hl
    cases L with
    | nil => simp at hl
    | cons y R =>
      rw [← h1, ← h2]
      unfold sbA
      rw [hb]
      rfl
  · rw [hb] at he
    exact he
set_option maxRecDepth 100000 in
theorem built_pc (o n : Nat) (A B : List UInt8) (sa : Option Addr) (sk sc : Nat) (hA : A.length = 32) (hB : B.length = 32) (W : World) : (Instr.build 45 #[(0, .int .u64 (o : Int)), (1, .int .u64 (n : Int)), (2, .agg (hbs A)), (3, .agg (hbs B)), (4, .slice sa sk sc)]).run Tryd.prog W = .ok (.agg (pcs o n A B (.slice sa sk sc))) W := by
  refine run_build W _ _ _ ?_
  match A, hA with
  | [a0, a1, a2, a3, a4, a5, a6, a7, a8, a9, a10, a11, a12, a13, a14, a15, a16, a17, a18, a19, a20, a21, a22, a23, a24, a25, a26, a27, a28, a29, a30, a31], _ =>
    match B, hB with
    | [b0, b1, b2, b3, b4, b5, b6, b7, b8, b9, b10, b11, b12, b13, b14, b15, b16, b17, b18, b19, b20, b21, b22, b23, b24, b25, b26, b27, b28, b29, b30, b31], _ =>
      change _ = _
      kernel_rfl
section
variable {w : World} {ops : Array Oper} {rest : List Oper} {o : Oper} {a : Act} {Q : Exit → Act → World → Prop}
theorem wpl_buildpc (hwant : Region.wanted o (yielded ops a.tmps) = true) (x0 x1 x2 x3 x4 : Operand) (ho : o.op = .build 45 #[(0, x0), (1, x1), (2, x2), (3, x3), (4, x4)]) (m n : Nat) (A B : List UInt8) (sa : Option Addr) (sk sc : Nat) (hA : A.length = 32) (hB : B.length = 32) (h0 : a.eval x0 = .int .u64 (m : Int)) (h1 : a.eval x1 = .int .u64 (n : Int)) (h2 : a.eval x2 = .agg (hbs A)) (h3 : a.eval x3 = .agg (hbs B)) (h4 : a.eval x4 = .slice sa sk sc)
    (h : wpList Tryd.prog ops Q rest (a.put o.dst (.agg (pcs m n A B (.slice sa sk sc)))) w) : wpList Tryd.prog ops Q (o :: rest) a w := by
  refine wpList_step fun K hK => ?_
  rw [if_pos hwant]
  unfold Oper.wp execOp
  simp only [ho, Sem.run_bind, Sem.run_pure, Result.andThen_ok, List.map_toArray, List.map_cons, List.map_nil, h0, h1, h2, h3, h4, built_pc m n A B sa sk sc hA hB w]
  exact hK _ _ h
end
theorem pcs_whole {w : World} {b : Nat} {V : Array Value} {t : TypeId} {f : Nat × Nat} (h : w.heap[b]? = some (.cells V t f)) (n : Nat) : ∀ j, j < n → w.cell? ⟨b, 0 + j, none⟩ = V[j]? := fun j _ => by
  rw [Nat.zero_add, cell_of h]
theorem pcs_one (i n : Nat) (A C : List UInt8) (a : Option Addr) (k c : Nat) : ∀ u ∈ (pcs i n A C (.slice a k c)).toList, u.oneCell' = true := by
  intro u hu
  simp only [pcs, Array.toList_append, List.mem_append] at hu
  rcases hu with ((h | h) | h) | h
  · simp at h; rcases h with rfl | rfl <;> rfl
  · exact hbs_one _ u h
  · exact hbs_one _ u h
  · simp at h; subst h; rfl
set_option maxRecDepth 100000 in
set_option maxHeartbeats 16000000 in
theorem VerifyGrows_any (i n : Nat) (hi : i < 18446744073709551616) (hn : n < 18446744073709551616) (A C : List UInt8) (hA : A.length = 32) (hC : C.length = 32) (L : List (List UInt8)) (hL32 : ∀ y ∈ L, y.length = 32) (hLl : L.length < 4611686018427387904) (ad : Option Addr) (cap : Nat) (hcap : L.length ≤ cap) (O : List UInt8) (hO : O.length = 32) (M : List (List UInt8)) (hM32 : ∀ y ∈ M, y.length = 32) (hMl : M.length < 4611686018427387904) (bd : Option Addr) (bap : Nat) (hbap : M.length ≤ bap) (w : World) (hs : Hss w (.slice ad L.length cap) L) (ht : Hss w (.slice bd M.length bap) M) (hLd : Laid w) {B : Nat} {a : Nat → Addr} (hS : Sent B w a) :
    Calls Tryd.prog 7 #[.agg (pcs i n A C (.slice ad L.length cap)), .agg (hbs O), .slice bd M.length bap] w fun e w' => e = .returned (.bool true) ∧ Nw w w' := by
  have HLD : Hid (Laid w) := hLd
  have HSE : Hid (Sent B w a) := hS
  have HIN : Hid (i < 18446744073709551616 ∧ n < 18446744073709551616) := ⟨hi, hn⟩
  have HA := hid_of hA
  have HC := hid_of hC
  have HO := hid_of hO
  have hAs : (hbs A).size = 32 := by rw [hbs_size, hA]
  have hCs : (hbs C).size = 32 := by rw [hbs_size, hC]
  have hOs : (hbs O).size = 32 := by rw [hbs_size, hO]
  have HL32 : Hid (∀ y ∈ L, y.length = 32) := hL32
  have HM32 : Hid (∀ y ∈ M, y.length = 32) := hM32
  obtain ⟨ln, hln⟩ : ∃ q, q = L.length := ⟨_, rfl⟩
  obtain ⟨mn, hmn⟩ : ∃ q, q = M.length := ⟨_, rfl⟩
  have HLE : Hid (ln = L.length) := hln
  have HME : Hid (mn = M.length) := hmn
  have HLN : Hid (ln < 4611686018427387904 ∧ mn < 4611686018427387904) := by refine ⟨?_, ?_⟩ <;> omega
  have HCP : Hid (ln ≤ cap ∧ mn ≤ bap) := by refine ⟨?_, ?_⟩ <;> omega
  have HSS : Hid (Hss w (.slice ad ln cap) L) := by rw [hln]; exact hs
  have HTT : Hid (Hss w (.slice bd mn bap) M) := by rw [hmn]; exact ht
  have QAL : Hid (∀ V, Nw w V → Calls Tryd.prog 16 #[] V fun e w' => e = .returned (.bool true) ∧ Nw V w') := fun V hV => alive18_any V (HLD.out.nw hV) (HSE.out.nw hV)
  have QI : Hid (∀ V, Nw w V → Calls Tryd.prog 17 #[.int .u64 (i : Int), .int .u64 (n : Int), .agg (hbs A), .agg (hbs C), .slice ad ln cap] V fun e w' => e = .returned (erv a (ccA i n A C L)) ∧ Nw V w') := fun V hV => by
    have := cons_any i n HIN.out.1 HIN.out.2 A C HA.out HC.out L HL32.out (by have := HLE.out; have := HLN.out; omega) ad cap (by rw [← HLE.out]; exact HCP.out.1) V (by rw [← HLE.out]; exact HSS.out.nw HL32.out hV) (HLD.out.nw hV) (HSE.out.nw hV)
    rw [← HLE.out] at this
    exact this
  have QJ : Hid (∀ V, Nw w V → Calls Tryd.prog 17 #[.int .u64 (i : Int), .int .u64 (n : Int), .agg (hbs O), .agg (hbs C), .slice bd mn bap] V fun e w' => e = .returned (erv a (ccA i n O C M)) ∧ Nw V w') := fun V hV => by
    have := cons_any i n HIN.out.1 HIN.out.2 O C HO.out HC.out M HM32.out (by have := HME.out; have := HLN.out; omega) bd bap (by rw [← HME.out]; exact HCP.out.2) V (by rw [← HME.out]; exact HTT.out.nw HM32.out hV) (HLD.out.nw hV) (HSE.out.nw hV)
    rw [← HME.out] at this
    exact this
  rw [← hln, ← hmn]
  obtain ⟨pv, hpv⟩ : ∃ p, p = pcs i n A C (.slice ad ln cap) := ⟨_, rfl⟩
  have HPV := hid_of hpv
  rw [← hpv]
  clear hA hC hO hL32 hM32 hln hmn hcap hbap hs ht hLd hS hLl hMl hpv hi hn
  go_enter Tryd.func7, Tryd.ntmps7
  go_upto_region 1 with fail
  have b1 := heap_next w (.cells pv 45) (.cells (hbs O) 24)
  have b0 : ((w.alloc (.cells pv 45)).alloc (.cells (hbs O) 24)).heap[w.heap.size]? = some (.cells pv 45) := ((nwa (w.alloc (.cells pv 45)) _).block _ (heap_lt (heap_new _ _)) (fun f => f)).trans (heap_new _ _)
  have nA : Nw w ((w.alloc (.cells pv 45)).alloc (.cells (hbs O) 24)) := (nwa w _).alloc _
  obtain ⟨w1, hw1⟩ : ∃ q, (w.alloc (.cells pv 45)).alloc (.cells (hbs O) 24) = q := ⟨_, rfl⟩
  rw [hw1] at b0 b1 nA ⊢
  clear hw1
  obtain ⟨xb, hxb⟩ : ∃ q, q = w.heap.size := ⟨_, rfl⟩
  rw [← hxb] at b0 b1 ⊢
  obtain ⟨ob, hob⟩ : ∃ q, q = xb + 1 := ⟨_, rfl⟩
  rw [← hob] at b1 ⊢
  have HXB : Hid (w1.heap[xb]? = some (.cells (pcs i n A C (.slice ad ln cap)) 45)) := by rw [← HPV.out]; exact b0
  have HB1 : Hid (w1.heap[ob]? = some (.cells (hbs O) 24)) := b1
  have N1 : Hid (Nw w w1) := nA
  have HPC : Hid (∀ V, Nw w1 V → V.cell? ⟨xb, 0, none⟩ = some (.int .u64 (i : Int)) ∧ V.cell? ⟨xb, 1, none⟩ = some (.int .u64 (n : Int)) ∧ (∀ j, j < 32 → V.cell? ⟨xb, 2 + j, none⟩ = (hbs A)[j]?) ∧ (∀ j, j < 32 → V.cell? ⟨xb, 34 + j, none⟩ = (hbs C)[j]?) ∧ V.cell? ⟨xb, 66, none⟩ = some (.slice ad ln cap)) := fun V hV => pcs_cells HA.out HC.out ((hV.block _ (heap_lt HXB.out) (fun f => f)).trans HXB.out)
  have HOB : Hid (∀ V, Nw w1 V → ∀ j, j < 32 → V.cell? ⟨ob, 0 + j, none⟩ = (hbs O)[j]?) := fun V hV => hash_cells ((hV.block _ (heap_lt HB1.out) (fun f => f)).trans HB1.out)
  clear hxb hob b0 b1 nA
  have c0 := (HPC.out w1 (nwr w1)).1
  have c1 := (HPC.out w1 (nwr w1)).2.1
  have c6 := (HPC.out w1 (nwr w1)).2.2.2.2
  have FA := hid_of (HPC.out w1 (nwr w1)).2.2.1
  have FC := hid_of (HPC.out w1 (nwr w1)).2.2.2.1
  have FO := hid_of (HOB.out w1 (nwr w1))
  have hys : (pcs i n O C (.slice bd mn bap)).size = 67 := pcs_size _ _ _ HO.out HC.out
  go_upto_region 2 with first
    | refine wpl_loadN (by kernel_rfl) (.tmp 4) 24 32 rfl Tryd.isAgg24 Tryd.sizeOf24 ob 0 rfl (hbs O) hOs FO.out ?_
    | refine wpl_loadN (by kernel_rfl) (.tmp 22) 24 32 rfl Tryd.isAgg24 Tryd.sizeOf24 xb 34 rfl (hbs C) hCs FC.out ?_
    | refine wpl_buildpc (by kernel_rfl) (.tmp 18) (.tmp 20) (.tmp 21) (.tmp 23) (.tmp 24) rfl i n O C bd mn bap HO.out HC.out rfl rfl rfl rfl rfl ?_
    | (refine wp_store_agg rfl (.tmp 7) (.tmp 25) 45 67 rfl Tryd.sizeOf45 w1.heap.size 0 rfl _ 45 (heap_new _ _) (pcs i n O C (.slice bd mn bap)) rfl hys (pcs_one _ _ _ _ _ _ _) (by decide) (pcs i n O C (.slice bd mn bap)) (by rw [dropA (n := 67) rfl]; simp) ?_; intro wx jx fx yx; clear yx)
  obtain ⟨yb, hyb⟩ : ∃ q, q = w1.heap.size := ⟨_, rfl⟩
  rw [← hyb] at jx fx
  have HXW : Hid (w1.heap.size = yb) := hyb.symm
  have N1x : Hid (Nw w1 wx) := (nwa w1 _).trans fx (fun k hk q => by omega)
  rw [← hyb]
  have HYB : Hid (wx.heap[yb]? = some (.cells (pcs i n O C (.slice bd mn bap)) 45)) := jx
  obtain ⟨w0, hw0⟩ : ∃ q, q = wx := ⟨_, rfl⟩
  rw [← hw0] at HYB N1x ⊢
  have HYC : Hid (∀ V, Nw w0 V → ∀ j, j < 67 → V.cell? ⟨yb, 0 + j, none⟩ = (pcs i n O C (.slice bd mn bap))[j]?) := fun V hV => pcs_whole ((hV.block _ (heap_lt HYB.out) (fun f => f)).trans HYB.out) 67
  have HXC : Hid (∀ V, Nw w0 V → ∀ j, j < 67 → V.cell? ⟨xb, 0 + j, none⟩ = (pcs i n A C (.slice ad ln cap))[j]?) := fun V hV => pcs_whole (((N1x.out.tr hV).block _ (heap_lt HXB.out) (fun f => f)).trans HXB.out) 67
  clear hw0 jx fx hyb HXW
  clear c0 c1 c6
  have c0 := (HPC.out w0 N1x.out).1
  have c1 := (HPC.out w0 N1x.out).2.1
  have c6 := (HPC.out w0 N1x.out).2.2.2.2
  have FA := hid_of (HPC.out w0 N1x.out).2.2.1
  have FC := hid_of (HPC.out w0 N1x.out).2.2.2.1
  have FO := hid_of (HOB.out w0 N1x.out)
  go_wp2_with first
    | refine wpl_loadN (by kernel_rfl) (.tmp 30) 24 32 rfl Tryd.isAgg24 Tryd.sizeOf24 xb 2 rfl (hbs A) hAs FA.out ?_
    | refine wpl_loadN (by kernel_rfl) (.tmp 32) 24 32 rfl Tryd.isAgg24 Tryd.sizeOf24 xb 34 rfl (hbs C) hCs FC.out ?_
  refine (QI.out _ (N1.out.tr N1x.out)).mono ?_
  rintro e w2 ⟨rfl, n2⟩
  have N2 : Hid (Nw w1 w2) := N1x.out.tr n2
  have M2 : Hid (Nw w0 w2) := n2
  clear n2
  by_cases hc : ccA i n A C L = 0
  case neg =>
    obtain ⟨ev, hev⟩ := erv_sen (a := a) hc
    rw [hev]
    have hes := fun y W => neq_sen y W
    clear hev hc
    go_wp2_with fail
    refine (QAL.out _ (N1.out.tr N2.out)).mono ?_
    rintro e w3 ⟨rfl, n3⟩
    have N3 : Hid (Nw w2 w3) := n3
    clear n3
    go_wp2
    go_ret
    exact ⟨rfl, (N1.out.tr N2.out).tr N3.out⟩
  have HI1 := hid_of (cc_both hc)
  rw [hc, show erv a 0 = .nilIface from rfl]
  have hen := fun W => neq_nilE W
  clear hc
  clear c0 c1 c6
  have c0 := (HPC.out w2 N2.out).1
  have c1 := (HPC.out w2 N2.out).2.1
  have c6 := (HPC.out w2 N2.out).2.2.2.2
  have FA := hid_of (HPC.out w2 N2.out).2.2.1
  have FC := hid_of (HPC.out w2 N2.out).2.2.2.1
  have FO := hid_of (HOB.out w2 N2.out)
  go_wp2_with first
    | refine wpl_loadN (by kernel_rfl) (.tmp 4) 24 32 rfl Tryd.isAgg24 Tryd.sizeOf24 ob 0 rfl (hbs O) hOs FO.out ?_
    | refine wpl_loadN (by kernel_rfl) (.tmp 44) 24 32 rfl Tryd.isAgg24 Tryd.sizeOf24 xb 34 rfl (hbs C) hCs FC.out ?_
  refine (QJ.out _ (N1.out.tr N2.out)).mono ?_
  rintro e w3 ⟨rfl, n3⟩
  have N3 : Hid (Nw w1 w3) := N2.out.tr n3
  have M3 : Hid (Nw w0 w3) := M2.out.tr n3
  clear n3
  by_cases hc : ccA i n O C M = 0
  case neg =>
    obtain ⟨ev, hev⟩ := erv_sen (a := a) hc
    rw [hev]
    have hes := fun y W => neq_sen y W
    clear hev hc
    go_wp2_with fail
    refine (QAL.out _ (N1.out.tr N3.out)).mono ?_
    rintro e w4 ⟨rfl, n4⟩
    have N4 : Hid (Nw w3 w4) := n4
    clear n4
    go_wp2
    go_ret
    exact ⟨rfl, (N1.out.tr N3.out).tr N4.out⟩
  have HI2 := hid_of (cc_both hc)
  rw [hc, show erv a 0 = .nilIface from rfl]
  clear hc QI QJ
  -- both verify
  have hrg := HI1.out.1
  have hn0 : ((i : Int) == 0) = false := by rw [beq_eq_false_iff_ne]; omega
  have hin : decide (n < i) = false := decide_eq_false (by omega)
  have hnb : decide (9223372036854775808 < n) = false := decide_eq_false (by omega)
  have hnc : decide ((9223372036854775808 : Int) < (n : Int)) = false := decide_eq_false (by omega)
  have HRG : Hid (1 ≤ i ∧ i ≤ n ∧ n ≤ 9223372036854775808) := ⟨by omega, by omega, by omega⟩
  clear hrg
  clear c0 c1 c6
  have c0 := (HPC.out w3 N3.out).1
  have c1 := (HPC.out w3 N3.out).2.1
  have c6 := (HPC.out w3 N3.out).2.2.2.2
  have FA := hid_of (HPC.out w3 N3.out).2.2.1
  have FC := hid_of (HPC.out w3 N3.out).2.2.2.1
  have FO := hid_of (HOB.out w3 N3.out)
  by_cases hon : i = n
  case pos =>
    subst hon
    have hii : ((i : Int) == (i : Int)) = true := by simp
    have hA0 : A = C ∧ ln = 0 := by
      obtain ⟨_, h2, h3, h4⟩ := HI1.out
      rw [gds_same, knb_same] at h2
      have h5 : L = [] := List.length_eq_zero_iff.1 (by simpa using h2)
      refine ⟨?_, by rw [HLE.out, h5]; rfl⟩
      rw [← h4]
      unfold sbA
      rw [knb_same, gds_same, h5]
      rfl
    have hO0 : O = C ∧ mn = 0 := by
      obtain ⟨_, h2, h3, h4⟩ := HI2.out
      rw [gds_same, knb_same] at h2
      have h5 : M = [] := List.length_eq_zero_iff.1 (by simpa using h2)
      refine ⟨?_, by rw [HME.out, h5]; rfl⟩
      rw [← h4]
      unfold sbA
      rw [knb_same, gds_same, h5]
      rfl
    have hdA : decide (A = C) = true := decide_eq_true hA0.1
    have hdO : decide (O = C) = true := decide_eq_true hO0.1
    have hl0 := hA0.2
    have hm0 := hO0.2
    clear hA0 hO0
    subst hl0
    subst hm0
    go_wp2_with first
      | refine wpl_loadN (by kernel_rfl) (.tmp 81) 24 32 rfl Tryd.isAgg24 Tryd.sizeOf24 xb 2 rfl (hbs A) hAs FA.out ?_
      | refine wpl_loadN (by kernel_rfl) (.tmp 83) 24 32 rfl Tryd.isAgg24 Tryd.sizeOf24 xb 34 rfl (hbs C) hCs FC.out ?_
      | refine wpl_loadN (by kernel_rfl) (.tmp 4) 24 32 rfl Tryd.isAgg24 Tryd.sizeOf24 ob 0 rfl (hbs O) hOs FO.out ?_
      | refine wpl_loadN (by kernel_rfl) (.tmp 89) 24 32 rfl Tryd.isAgg24 Tryd.sizeOf24 xb 34 rfl (hbs C) hCs FC.out ?_
      | (refine wpl_eqlA (by kernel_rfl) (.tmp 82) (.tmp 84) rfl A C HA.out HC.out rfl rfl ?_; rw [hdA])
      | (refine wpl_eqlA (by kernel_rfl) (.tmp 88) (.tmp 90) rfl O C HO.out HC.out rfl rfl ?_; rw [hdO])
    refine (QAL.out _ (N1.out.tr N3.out)).mono ?_
    rintro e w5 ⟨rfl, n5⟩
    have N5 : Hid (Nw w3 w5) := n5
    clear n5
    go_wp2
    go_ret
    exact ⟨rfl, (N1.out.tr N3.out).tr N5.out⟩
  have hne : ((i : Int) == (n : Int)) = false := by rw [beq_eq_false_iff_ne]; omega
  have HON : Hid (i < n) := by show i < n; have := HRG.out.2.1; omega
  clear hon
  have QG := grown_any i n HRG.out.1 HON.out HRG.out.2.2 A C HA.out HC.out L HL32.out ad cap (by rw [← HLE.out]; exact HCP.out.1) HI1.out.2.1 w3 (by rw [← HLE.out]; exact HSS.out.nw HL32.out (N1.out.tr N3.out)) (HLD.out.nw (N1.out.tr N3.out))
  have QH := fun V (hV : Nw w3 V) => grown_any i n HRG.out.1 HON.out HRG.out.2.2 O C HO.out HC.out M HM32.out bd bap (by rw [← HME.out]; exact HCP.out.2) HI2.out.2.1 V (by rw [← HME.out]; exact HTT.out.nw HM32.out ((N1.out.tr N3.out).tr hV)) (HLD.out.nw ((N1.out.tr N3.out).tr hV))
  have HP1 := hid_of (pkb_len2 HI1.out.2.1 HA.out HL32.out)
  have HP2 := hid_of (pkb_len2 HI2.out.2.1 HO.out HM32.out)
  have HC1 : Hid (clm (pkb (knb i n true) A L).1 (pkb (knb i n true) A L).2 (gds i n) = C) := (clt_two _ _ _ _).symm.trans HI1.out.2.2.2
  have HC2 : Hid (clm (pkb (knb i n true) O M).1 (pkb (knb i n true) O M).2 (gds i n) = C) := (clt_two _ _ _ _).symm.trans HI2.out.2.2.2
  have HEQ : Hid ((pkb (knb i n true) A L).1 = (pkb (knb i n true) O M).1 → L = M → A = O) := fun h1 h2 => by
    subst h2
    exact grow_same HI1.out.2.2.1 HI2.out.2.2.1 h1 HI1.out.2.1
  have HBD : Hid (¬ ((pkb (knb i n true) A L).1 = (pkb (knb i n true) O M).1 ∧ L = M) → brk (prs (pkb (knb i n true) A L).1 (pkb (knb i n true) A L).2 (gds i n)) (prs (pkb (knb i n true) O M).1 (pkb (knb i n true) O M).2 (gds i n)) = true) := fun h =>
    (clm_bind (gds i n) _ _ _ _ HP1.out.2.2 HP2.out.2.2 (HC1.out.trans HC2.out.symm)).resolve_left (fun q => h ⟨q.1, pkb_inj HI1.out.2.1 HI2.out.2.1 q.1 q.2⟩)
  have HLM : Hid (L.length = M.length) := HI1.out.2.1.trans HI2.out.2.1.symm
  have hS0 : 1 ≤ (gds i n).length := by
    by_cases h : i ≤ spl n
    · rw [gds_left HON.out (by have := HON.out; have := HRG.out.1; omega) h]; simp
    · rw [gds_right HON.out (by have := HON.out; have := HRG.out.1; omega) h]; simp
  have hS63 := gds_len 63 n i (Nat.le_trans HRG.out.2.2 (by decide))
  rw [← HLE.out] at QG
  rw [← HME.out] at QH
  obtain ⟨F1, hF1⟩ : ∃ q, q = (pkb (knb i n true) A L).1 := ⟨_, rfl⟩
  obtain ⟨R1, hR1⟩ : ∃ q, q = (pkb (knb i n true) A L).2 := ⟨_, rfl⟩
  obtain ⟨F2, hF2⟩ : ∃ q, q = (pkb (knb i n true) O M).1 := ⟨_, rfl⟩
  obtain ⟨R2, hR2⟩ : ∃ q, q = (pkb (knb i n true) O M).2 := ⟨_, rfl⟩
  rw [← hF1, ← hR1] at QG HP1 HC1 HBD
  rw [← hF2, ← hR2] at HP2 HC2 HBD
  simp only [← hF2, ← hR2] at QH
  rw [← hF1, ← hF2] at HEQ
  obtain ⟨s, hs⟩ : ∃ s, s = gds i n := ⟨_, rfl⟩
  rw [← hs] at QG HC1 HC2 HBD hS0 hS63 HP1 HP2
  simp only [← hs] at QH
  obtain ⟨k, hk⟩ : ∃ k, k = s.length := ⟨_, rfl⟩
  rw [← hk] at QG hS0 hS63 HP1 HP2
  simp only [← hk] at QH
  have HK := hid_of hk
  have HK64 := hid_of hS63
  have QHH := hid_of QH
  have hF1s : (hbs F1).size = 32 := by rw [hbs_size, HP1.out.1]
  have hF2s : (hbs F2).size = 32 := by rw [hbs_size, HP2.out.1]
  obtain ⟨j, hj⟩ : ∃ j, k = j + 1 := ⟨k - 1, by omega⟩
  have HKJ := hid_of hj
  have hxs : (pcs i n A C (.slice ad ln cap)).size = 67 := pcs_size _ _ _ HA.out HC.out
  have FX := hid_of (HXC.out w3 M3.out)
  clear hF1 hR1 hF2 hR2 hs hk hS63 hj QH HI1 HI2 hS0
  go_wp2_with (refine wpl_loadN (by kernel_rfl) (.tmp 3) 45 67 rfl Tryd.isAgg45 Tryd.sizeOf45 xb 0 rfl (pcs i n A C (.slice ad ln cap)) hxs FX.out ?_)
  refine Calls.mono QG ?_
  rintro e w4 ⟨pa, pc, rfl, hpm, n4⟩
  have N4 : Hid (Nw w1 w4) := N3.out.tr n4
  have L4 : Hid (Nw w3 w4) := n4
  have HPM : Hid (Pm w4 pa (prs F1 R1 s)) := hpm
  clear QG hpm n4
  go_upto_region 9 with (refine wp_store_agg rfl (.tmp 9) (.tmp 100) 24 32 rfl Tryd.sizeOf24 w4.heap.size 0 rfl z32 24 (by rw [← z32_h]; exact heap_new _ _) (hbs F1) rfl hF1s (hbs_one _) (by decide) (hbs F1) (by rw [dropA z32_size]; simp) ?_; intro w5 j5 f5 y5; clear y5)
  have n5 : Nw w4 w5 := (nwa w4 _).trans f5 (fun k hk q => by omega)
  obtain ⟨f1, hf1⟩ : ∃ q, q = w4.heap.size := ⟨_, rfl⟩
  rw [← hf1] at j5 ⊢
  have HF1 : Hid (w5.heap[f1]? = some (.cells (hbs F1) 24)) := j5
  have N5 : Hid (Nw w1 w5) := N4.out.tr n5
  have L5 : Hid (Nw w3 w5) := L4.out.tr n5
  have HP32 : Hid (∀ p ∈ prs F1 R1 s, p.1.length = 32 ∧ p.2.length = 32) := prs_32 F1 R1 s HP1.out.1 HP1.out.2.1
  have HQ32 : Hid (∀ p ∈ prs F2 R2 s, p.1.length = 32 ∧ p.2.length = 32) := prs_32 F2 R2 s HP2.out.1 HP2.out.2.1
  have HPM5 : Hid (Pm w5 pa (prs F1 R1 s)) := HPM.out.nw HP32.out n5
  have FY := hid_of (HYC.out w5 (M3.out.tr L5.out))
  clear hf1 j5 f5 n5 HPM
  go_wp2_with (refine wpl_loadN (by kernel_rfl) (.tmp 7) 45 67 rfl Tryd.isAgg45 Tryd.sizeOf45 yb 0 rfl (pcs i n O C (.slice bd mn bap)) hys FY.out ?_)
  refine Calls.mono (QHH.out _ L5.out) ?_
  rintro e w6 ⟨qa, qc, rfl, hqm, n6⟩
  have HQM0 : Hid (Pm w6 qa (prs F2 R2 s)) := hqm
  have L6 : Hid (Nw w5 w6) := n6
  clear hqm n6
  go_upto_region 10 with (refine wp_store_agg rfl (.tmp 12) (.tmp 106) 24 32 rfl Tryd.sizeOf24 w6.heap.size 0 rfl z32 24 (by rw [← z32_h]; exact heap_new _ _) (hbs F2) rfl hF2s (hbs_one _) (by decide) (hbs F2) (by rw [dropA z32_size]; simp) ?_; intro w7 j7 f7 y7; clear y7)
  have n7 : Nw w6 w7 := (nwa w6 _).trans f7 (fun k hk q => by omega)
  obtain ⟨f2, hf2⟩ : ∃ q, q = w6.heap.size := ⟨_, rfl⟩
  rw [← hf2] at j7 ⊢
  have HF2 : Hid (w7.heap[f2]? = some (.cells (hbs F2) 24)) := j7
  have L57 : Hid (Nw w5 w7) := L6.out.tr n7
  have L37 : Hid (Nw w3 w7) := L5.out.tr L57.out
  have N7 : Hid (Nw w1 w7) := N5.out.tr L57.out
  have NW7 : Hid (Nw w w7) := N1.out.tr N7.out
  have HF17 : Hid (w7.heap[f1]? = some (.cells (hbs F1) 24)) := (L57.out.block _ (heap_lt HF1.out) (fun f => f)).trans HF1.out
  have HPM7 : Hid (Pm w7 pa (prs F1 R1 s)) := HPM5.out.nw HP32.out L57.out
  have HQM : Hid (Pm w7 qa (prs F2 R2 s)) := HQM0.out.nw HQ32.out n7
  clear hf2 j7 f7 n7 HPM5 HQM0 c0 c1 c6 hn0 hin hnb hnc hne
  obtain ⟨p1, p2, hp, hpe⟩ := prs_last F1 R1 s j (by rw [HP1.out.2.2, HKJ.out]) (by rw [← HK.out, HKJ.out])
  obtain ⟨q1, q2, hq, hqe⟩ := prs_last F2 R2 s j (by rw [HP2.out.2.2, HKJ.out]) (by rw [← HK.out, HKJ.out])
  obtain ⟨pg, po, rfl, hpc⟩ := HPM7.out j _ hp
  obtain ⟨qg, qo, rfl, hqc⟩ := HQM.out j _ hq
  have P1L : Hid (p1.length = 32) := (HP32.out _ (List.mem_of_getElem? hp)).1
  have P2L : Hid (p2.length = 32) := (HP32.out _ (List.mem_of_getElem? hp)).2
  have Q1L : Hid (q1.length = 32) := (HQ32.out _ (List.mem_of_getElem? hq)).1
  have Q2L : Hid (q2.length = 32) := (HQ32.out _ (List.mem_of_getElem? hq)).2
  have hp1s : (hbs p1).size = 32 := by rw [hbs_size, P1L.out]
  have hp2s : (hbs p2).size = 32 := by rw [hbs_size, P2L.out]
  have hq1s : (hbs q1).size = 32 := by rw [hbs_size, Q1L.out]
  have hq2s : (hbs q2).size = 32 := by rw [hbs_size, Q2L.out]
  have HPA : Hid (∀ V, Nw w7 V → ∀ k, k < 64 → V.cell? ⟨pg, po + j * 64 + k, none⟩ = (h2c p1 p2)[k]?) := fun V hV k hk => by
    obtain ⟨g', o', e', h6⟩ := (HPM7.out.nw HP32.out hV) j _ hp
    cases e'
    exact h6 k hk
  have HQA : Hid (∀ V, Nw w7 V → ∀ k, k < 64 → V.cell? ⟨qg, qo + j * 64 + k, none⟩ = (h2c q1 q2)[k]?) := fun V hV k hk => by
    obtain ⟨g', o', e', h6⟩ := (HQM.out.nw HQ32.out hV) j _ hq
    cases e'
    exact h6 k hk
  have HPL : Hid (∀ V, Nw w7 V → ∀ k, k < 32 → V.cell? ⟨pg, po + j * 64 + k, none⟩ = (hbs p1)[k]?) := fun V hV k hk => (HPA.out V hV k (by omega)).trans (h2c_l p2 P1L.out k hk)
  have HPR : Hid (∀ V, Nw w7 V → ∀ k, k < 32 → V.cell? ⟨pg, po + j * 64 + 32 + k, none⟩ = (hbs p2)[k]?) := fun V hV k hk => by rw [Nat.add_assoc _ 32 k]; exact (HPA.out V hV (32 + k) (by omega)).trans (h2c_r p2 P1L.out k)
  have HQL : Hid (∀ V, Nw w7 V → ∀ k, k < 32 → V.cell? ⟨qg, qo + j * 64 + k, none⟩ = (hbs q1)[k]?) := fun V hV k hk => (HQA.out V hV k (by omega)).trans (h2c_l q2 Q1L.out k hk)
  have HQR : Hid (∀ V, Nw w7 V → ∀ k, k < 32 → V.cell? ⟨qg, qo + j * 64 + 32 + k, none⟩ = (hbs q2)[k]?) := fun V hV k hk => by rw [Nat.add_assoc _ 32 k]; exact (HQA.out V hV (32 + k) (by omega)).trans (h2c_r q2 Q1L.out k)
  have QN1 : Hid (∀ V, Nw w7 V → Calls Tryd.prog 25 #[.agg (hbs p1), .agg (hbs p2)] V fun e w' => e = .returned (.agg (hbs C)) ∧ Nw V w') := fun V hV => by
    have := node_any p1 p2 P1L.out P2L.out V (HLD.out.nw (NW7.out.tr hV))
    rw [show Sh (1 :: (p1 ++ p2)) = C from hpe.trans HC1.out] at this
    exact this
  have QN2 : Hid (∀ V, Nw w7 V → Calls Tryd.prog 25 #[.agg (hbs q1), .agg (hbs q2)] V fun e w' => e = .returned (.agg (hbs C)) ∧ Nw V w') := fun V hV => by
    have := node_any q1 q2 Q1L.out Q2L.out V (HLD.out.nw (NW7.out.tr hV))
    rw [show Sh (1 :: (q1 ++ q2)) = C from hqe.trans HC2.out] at this
    exact this
  have HSM : Hid (∀ V, Nw w7 V → Calls Tryd.prog 26 #[.slice ad ln cap, .slice bd mn bap] V fun e w' => e = .returned (.bool (decide (L = M))) ∧ Nw V w') := fun V hV => by
    have := sames_any ad bd cap bap L M HL32.out HM32.out HLM.out V (by rw [← HLE.out]; exact HSS.out.nw HL32.out (NW7.out.tr hV)) (by rw [← HME.out]; exact HTT.out.nw HM32.out (NW7.out.tr hV)) (by rw [← HLE.out]; exact HLN.out.1)
    rw [← HLE.out, ← HME.out] at this
    exact this
  have HBR : Hid (∀ V, Nw w7 V → Calls Tryd.prog 27 #[.slice (some ⟨pg, po, none⟩) k pc, .slice (some ⟨qg, qo, none⟩) k qc] V fun e w' => e = .returned (.bool (brk (prs F1 R1 s) (prs F2 R2 s))) ∧ Nw V w') := fun V hV => by
    have e1 : (prs F1 R1 s).length = k := (prs_len F1 R1 s (by rw [HP1.out.2.2]; exact HK.out)).trans HP1.out.2.2
    have e2 : (prs F2 R2 s).length = k := (prs_len F2 R2 s (by rw [HP2.out.2.2]; exact HK.out)).trans HP2.out.2.2
    have := broken_any (prs F1 R1 s) (prs F2 R2 s) HP32.out HQ32.out (by rw [e1, e2]) (by rw [e1]; have := HK64.out; omega) (some ⟨pg, po, none⟩) pc (some ⟨qg, qo, none⟩) qc V (HPM7.out.nw HP32.out hV) (HQM.out.nw HQ32.out hV) (HLD.out.nw (NW7.out.tr hV))
    rw [e1, e2] at this
    exact this
  have hjk : (j : Int) < (k : Int) := by have := HKJ.out; omega
  have hj1 : (k : Int) - 1 = (j : Int) := by have := HKJ.out; omega
  have hjw : IntKind.i64.wrap ((k : Int) - 1) = (j : Int) := by rw [hj1, IntKind.wrap_i64]; have := HK64.out; have := HKJ.out; omega
  have hjv : IntKind.i64.wrap (j : Int) = (j : Int) := by rw [← hj1]; rw [hjw]; exact hj1.symm
  have hj2 : (0 : Int) ≤ (j : Int) := by omega
  clear hp hq hpe hqe hpc hqc
  go_upto_region 12 with fail
  go_cut [14] (fun v wx => ∃ tb, v = .pointer (some ⟨tb, 0, none⟩) ∧ wx.heap[tb]? = some (.cells (hbs C) 24) ∧ Nw w7 wx)
  case first =>
    have nb : Nw w7 w7.drew := (Fr.refl _ _).drew
    refine wp_region_held_drew (S := (fun V => Nw w7 V)) (by kernel_rfl) (nb) ?_
    intro hS0
    refine wpAnyH_take (i := 0) (oi := ({ dst := some 121, op := Op.move (Operand.tmp 8), type := 56, pos := "outright.go:222", after := #[], guard := none } : Oper)) (v := .slice (some ⟨pg, po, none⟩) k pc) rfl (by kernel_rfl) (by kernel_rfl) (by kernel_rfl) (fun _ _ _ h => h) (Or.inl ⟨by rfl, by intro w hw; go_simp⟩) hS0 ?_
    try simp only [Act.put, List.setIfInBounds_toArray, List.set_cons_zero, List.set_cons_succ]
    refine wpAnyH_take (i := 1) (oi := ({ dst := some 122, op := Op.move (Operand.tmp 8), type := 56, pos := "outright.go:222", after := #[], guard := none } : Oper)) (v := .slice (some ⟨pg, po, none⟩) k pc) rfl (by kernel_rfl) (by kernel_rfl) (by kernel_rfl) (fun _ _ _ h => h) (Or.inl ⟨by rfl, by intro w hw; go_simp⟩) hS0 ?_
    try simp only [Act.put, List.setIfInBounds_toArray, List.set_cons_zero, List.set_cons_succ]
    refine wpAnyH_take (i := 2) (oi := ({ dst := some 123, op := Op.call { callee := Callee.builtin Builtin.len, args := #[Operand.tmp 122], argTypes := #[56] }, type := 3, pos := "outright.go:222", after := #[{ on := 1, ground := Ground.data }], guard := none } : Oper)) (v := .int .i64 (k : Int)) rfl (by kernel_rfl) (by kernel_rfl) (by kernel_rfl) (fun _ _ _ h => h) (Or.inl ⟨by kernel_rfl, by intro w hw; go_simp⟩) hS0 ?_
    try simp only [Act.put, List.setIfInBounds_toArray, List.set_cons_zero, List.set_cons_succ]
    refine wpAnyH_take (i := 3) (oi := ({ dst := some 124, op := Op.binOp BinOp.sub 3 (Operand.tmp 123) (Operand.const (Value.int IntKind.i64 1)) 3, type := 3, pos := "outright.go:222", after := #[{ on := 2, ground := Ground.data }], guard := none } : Oper)) (v := .int .i64 (j : Int)) rfl (by kernel_rfl) (by kernel_rfl) (by kernel_rfl) (fun _ _ _ h => h) (Or.inl ⟨by kernel_rfl, by intro w hw; have hx := hjw; have hy := hj1; have hz := hjv; go_simp⟩) hS0 ?_
    try simp only [Act.put, List.setIfInBounds_toArray, List.set_cons_zero, List.set_cons_succ]
    refine wpAnyH_take (i := 4) (oi := ({ dst := some 125, op := Op.indexAddr 56 (Operand.tmp 121) (Operand.tmp 124), type := 0, pos := "outright.go:222", after := #[{ on := 0, ground := Ground.data }, { on := 3, ground := Ground.data }], guard := none } : Oper)) (v := .pointer (some ⟨pg, po + j * 64, none⟩)) rfl (by kernel_rfl) (by kernel_rfl) (by kernel_rfl) (fun _ _ _ h => h) (Or.inl ⟨by kernel_rfl, by intro w hw; have hx := hj2; go_simp; try (intro hq; omega)⟩) hS0 ?_
    try simp only [Act.put, List.setIfInBounds_toArray, List.set_cons_zero, List.set_cons_succ]
    refine wpAnyH_take (i := 5) (oi := ({ dst := some 126, op := Op.fieldAddr 60 (Operand.tmp 125) 0, type := 0, pos := "outright.go:222", after := #[{ on := 4, ground := Ground.data }], guard := none } : Oper)) (v := .pointer (some ⟨pg, po + j * 64, none⟩)) rfl (by kernel_rfl) (by kernel_rfl) (by kernel_rfl) (fun _ _ _ h => h) (Or.inl ⟨by kernel_rfl, by intro w hw; go_simp⟩) hS0 ?_
    try simp only [Act.put, List.setIfInBounds_toArray, List.set_cons_zero, List.set_cons_succ]
    refine wpAnyH_take (i := 6) (oi := ({ dst := some 127, op := Op.load 24 (Operand.tmp 126), type := 24, pos := "outright.go:222", after := #[{ on := 5, ground := Ground.data }], guard := none } : Oper)) (v := .agg (hbs p1)) rfl (by kernel_rfl) (by kernel_rfl) (by kernel_rfl) (fun _ _ _ h => h) (yields_loadV (by kernel_rfl) (.tmp 126) 24 32 rfl Tryd.isAgg24 Tryd.sizeOf24 pg (po + j * 64) rfl (hbs p1) hp1s (fun w hw => HPL.out w hw)) hS0 ?_
    try simp only [Act.put, List.setIfInBounds_toArray, List.set_cons_zero, List.set_cons_succ]
    refine wpAnyH_take (i := 7) (oi := ({ dst := some 128, op := Op.move (Operand.tmp 8), type := 56, pos := "outright.go:222", after := #[], guard := none } : Oper)) (v := .slice (some ⟨pg, po, none⟩) k pc) rfl (by kernel_rfl) (by kernel_rfl) (by kernel_rfl) (fun _ _ _ h => h) (Or.inl ⟨by rfl, by intro w hw; go_simp⟩) hS0 ?_
    try simp only [Act.put, List.setIfInBounds_toArray, List.set_cons_zero, List.set_cons_succ]
    refine wpAnyH_take (i := 8) (oi := ({ dst := some 129, op := Op.move (Operand.tmp 8), type := 56, pos := "outright.go:222", after := #[], guard := none } : Oper)) (v := .slice (some ⟨pg, po, none⟩) k pc) rfl (by kernel_rfl) (by kernel_rfl) (by kernel_rfl) (fun _ _ _ h => h) (Or.inl ⟨by rfl, by intro w hw; go_simp⟩) hS0 ?_
    try simp only [Act.put, List.setIfInBounds_toArray, List.set_cons_zero, List.set_cons_succ]
    refine wpAnyH_take (i := 9) (oi := ({ dst := some 130, op := Op.call { callee := Callee.builtin Builtin.len, args := #[Operand.tmp 129], argTypes := #[56] }, type := 3, pos := "outright.go:222", after := #[{ on := 8, ground := Ground.data }], guard := none } : Oper)) (v := .int .i64 (k : Int)) rfl (by kernel_rfl) (by kernel_rfl) (by kernel_rfl) (fun _ _ _ h => h) (Or.inl ⟨by kernel_rfl, by intro w hw; go_simp⟩) hS0 ?_
    try simp only [Act.put, List.setIfInBounds_toArray, List.set_cons_zero, List.set_cons_succ]
    refine wpAnyH_take (i := 10) (oi := ({ dst := some 131, op := Op.binOp BinOp.sub 3 (Operand.tmp 130) (Operand.const (Value.int IntKind.i64 1)) 3, type := 3, pos := "outright.go:222", after := #[{ on := 9, ground := Ground.data }], guard := none } : Oper)) (v := .int .i64 (j : Int)) rfl (by kernel_rfl) (by kernel_rfl) (by kernel_rfl) (fun _ _ _ h => h) (Or.inl ⟨by kernel_rfl, by intro w hw; have hx := hjw; have hy := hj1; have hz := hjv; go_simp⟩) hS0 ?_
    try simp only [Act.put, List.setIfInBounds_toArray, List.set_cons_zero, List.set_cons_succ]
    refine wpAnyH_take (i := 11) (oi := ({ dst := some 132, op := Op.indexAddr 56 (Operand.tmp 128) (Operand.tmp 131), type := 0, pos := "outright.go:222", after := #[{ on := 7, ground := Ground.data }, { on := 10, ground := Ground.data }], guard := none } : Oper)) (v := .pointer (some ⟨pg, po + j * 64, none⟩)) rfl (by kernel_rfl) (by kernel_rfl) (by kernel_rfl) (fun _ _ _ h => h) (Or.inl ⟨by kernel_rfl, by intro w hw; have hx := hj2; go_simp; try (intro hq; omega)⟩) hS0 ?_
    try simp only [Act.put, List.setIfInBounds_toArray, List.set_cons_zero, List.set_cons_succ]
    refine wpAnyH_take (i := 12) (oi := ({ dst := some 133, op := Op.fieldAddr 60 (Operand.tmp 132) 1, type := 0, pos := "outright.go:222", after := #[{ on := 11, ground := Ground.data }], guard := none } : Oper)) (v := .pointer (some ⟨pg, po + j * 64 + 32, none⟩)) rfl (by kernel_rfl) (by kernel_rfl) (by kernel_rfl) (fun _ _ _ h => h) (Or.inl ⟨by kernel_rfl, by intro w hw; go_simp⟩) hS0 ?_
    try simp only [Act.put, List.setIfInBounds_toArray, List.set_cons_zero, List.set_cons_succ]
    refine wpAnyH_take (i := 13) (oi := ({ dst := some 134, op := Op.load 24 (Operand.tmp 133), type := 24, pos := "outright.go:222", after := #[{ on := 12, ground := Ground.data }], guard := none } : Oper)) (v := .agg (hbs p2)) rfl (by kernel_rfl) (by kernel_rfl) (by kernel_rfl) (fun _ _ _ h => h) (yields_loadV (by kernel_rfl) (.tmp 133) 24 32 rfl Tryd.isAgg24 Tryd.sizeOf24 pg (po + j * 64 + 32) rfl (hbs p2) hp2s (fun w hw => HPR.out w hw)) hS0 ?_
    try simp only [Act.put, List.setIfInBounds_toArray, List.set_cons_zero, List.set_cons_succ]
    refine wpAnyH_ready (rs := [14, 15]) (by kernel_rfl) (by simp) ?_
    refine (AllReadyH.cons (o := ({ dst := some 135, op := Op.call { callee := Callee.value (Operand.func 25), args := #[Operand.tmp 127, Operand.tmp 134], argTypes := #[24, 24] }, type := 24, pos := "outright.go:222", after := #[{ on := 6, ground := Ground.data }, { on := 13, ground := Ground.data }], guard := none } : Oper)) rfl (fun K' hK => ?_) (AllReadyH.cons (o := ({ dst := some 14, op := Op.alloc 24, type := 0, pos := "outright.go:222", after := #[], guard := none } : Oper)) rfl (fun K' hK => ?_) AllReadyH.nil))
    · go_simp
      go_wp2_with (go_at_call 25; refine (QN1.out _ nb).mono ?_; rintro ex w101 ⟨rfl, nw101⟩)
      have nb := nb.tr nw101
      refine hK.out _ _ (nb) (fun hS0 => ?_)
      try simp only [Act.put, List.setIfInBounds_toArray, List.set_cons_zero, List.set_cons_succ]
      refine wpAnyH_ready (rs := [15]) (by kernel_rfl) (by simp) ?_
      refine (AllReadyH.cons (o := ({ dst := some 14, op := Op.alloc 24, type := 0, pos := "outright.go:222", after := #[], guard := none } : Oper)) rfl (fun K' hK => ?_) AllReadyH.nil)
      refine step_alloc24 rfl rfl ?_
      have BA := heap_new (w101) (.cells z32 24)
      have na := nwa (w101) (.cells z32 24)
      obtain ⟨wa, hwa⟩ : ∃ q, (w101).alloc (.cells z32 24) = q := ⟨_, rfl⟩
      rw [hwa] at BA na ⊢
      obtain ⟨pb, hpb⟩ : ∃ q, q = (w101).heap.size := ⟨_, rfl⟩
      rw [← hpb] at BA ⊢
      have LP : w7.heap.size ≤ pb := by rw [hpb]; exact nb.size
      have nb : Nw w7 wa := nb.tr na
      clear hwa hpb na
      refine hK.out _ _ (nb) (fun hS0 => ?_)
      try simp only [Act.put, List.setIfInBounds_toArray, List.set_cons_zero, List.set_cons_succ]
      refine wpAnyH_ready (rs := [16]) (by kernel_rfl) (by simp) ?_
      refine (AllReadyH.cons (o := ({ dst := none, op := Op.store 24 (Operand.tmp 14) (Operand.tmp 135), type := 0, pos := "outright.go:222", after := #[{ on := 15, ground := Ground.data }, { on := 14, ground := Ground.data }, { on := 14, ground := Ground.chain }, { on := 0, ground := Ground.phase }, { on := 1, ground := Ground.phase }, { on := 2, ground := Ground.phase }, { on := 3, ground := Ground.phase }, { on := 4, ground := Ground.phase }, { on := 5, ground := Ground.phase }, { on := 6, ground := Ground.phase }, { on := 7, ground := Ground.phase }, { on := 8, ground := Ground.phase }, { on := 9, ground := Ground.phase }, { on := 10, ground := Ground.phase }, { on := 11, ground := Ground.phase }, { on := 12, ground := Ground.phase }, { on := 13, ground := Ground.phase }, { on := 14, ground := Ground.phase }, { on := 15, ground := Ground.phase }], guard := none } : Oper)) rfl (fun K' hK => ?_) AllReadyH.nil)
      have BZ : wa.heap[pb]? = some (.cells z32 24) := by first | exact BA | exact (nw101.block _ (heap_lt BA) (fun f => f)).trans BA
      refine step_store_agg rfl (.tmp 14) (.tmp 135) 24 32 rfl Tryd.sizeOf24 pb 0 rfl z32 24 BZ (hbs C) rfl hCs (hbs_one _) (by decide) (hbs C) (by rw [dropA z32_size]; simp) ?_
      intro w9 j9 f9 z9
      clear z9
      have nb : Nw w7 w9 := nb.trans f9 (fun k hk q => by omega)
      refine hK.out _ _ (nb) (fun hS0 => ?_)
      try simp only [Act.put, List.setIfInBounds_toArray, List.set_cons_zero, List.set_cons_succ]
      refine wpAnyH_done (by kernel_rfl) ?_ _
      go_wp2_with fail
      go_meet
      exact ⟨pb, rfl, j9, nb⟩
    · refine step_alloc24 rfl rfl ?_
      have BA := heap_new (w7.drew) (.cells z32 24)
      have na := nwa (w7.drew) (.cells z32 24)
      obtain ⟨wa, hwa⟩ : ∃ q, (w7.drew).alloc (.cells z32 24) = q := ⟨_, rfl⟩
      rw [hwa] at BA na ⊢
      obtain ⟨pb, hpb⟩ : ∃ q, q = (w7.drew).heap.size := ⟨_, rfl⟩
      rw [← hpb] at BA ⊢
      have LP : w7.heap.size ≤ pb := by rw [hpb]; exact nb.size
      have nb : Nw w7 wa := nb.tr na
      clear hwa hpb na
      refine hK.out _ _ (nb) (fun hS0 => ?_)
      try simp only [Act.put, List.setIfInBounds_toArray, List.set_cons_zero, List.set_cons_succ]
      refine wpAnyH_ready (rs := [14]) (by kernel_rfl) (by simp) ?_
      refine (AllReadyH.cons (o := ({ dst := some 135, op := Op.call { callee := Callee.value (Operand.func 25), args := #[Operand.tmp 127, Operand.tmp 134], argTypes := #[24, 24] }, type := 24, pos := "outright.go:222", after := #[{ on := 6, ground := Ground.data }, { on := 13, ground := Ground.data }], guard := none } : Oper)) rfl (fun K' hK => ?_) AllReadyH.nil)
      go_simp
      go_wp2_with (go_at_call 25; refine (QN1.out _ nb).mono ?_; rintro ex w102 ⟨rfl, nw102⟩)
      have nb := nb.tr nw102
      refine hK.out _ _ (nb) (fun hS0 => ?_)
      try simp only [Act.put, List.setIfInBounds_toArray, List.set_cons_zero, List.set_cons_succ]
      refine wpAnyH_ready (rs := [16]) (by kernel_rfl) (by simp) ?_
      refine (AllReadyH.cons (o := ({ dst := none, op := Op.store 24 (Operand.tmp 14) (Operand.tmp 135), type := 0, pos := "outright.go:222", after := #[{ on := 15, ground := Ground.data }, { on := 14, ground := Ground.data }, { on := 14, ground := Ground.chain }, { on := 0, ground := Ground.phase }, { on := 1, ground := Ground.phase }, { on := 2, ground := Ground.phase }, { on := 3, ground := Ground.phase }, { on := 4, ground := Ground.phase }, { on := 5, ground := Ground.phase }, { on := 6, ground := Ground.phase }, { on := 7, ground := Ground.phase }, { on := 8, ground := Ground.phase }, { on := 9, ground := Ground.phase }, { on := 10, ground := Ground.phase }, { on := 11, ground := Ground.phase }, { on := 12, ground := Ground.phase }, { on := 13, ground := Ground.phase }, { on := 14, ground := Ground.phase }, { on := 15, ground := Ground.phase }], guard := none } : Oper)) rfl (fun K' hK => ?_) AllReadyH.nil)
      have BZ : w102.heap[pb]? = some (.cells z32 24) := by first | exact BA | exact (nw102.block _ (heap_lt BA) (fun f => f)).trans BA
      refine step_store_agg rfl (.tmp 14) (.tmp 135) 24 32 rfl Tryd.sizeOf24 pb 0 rfl z32 24 BZ (hbs C) rfl hCs (hbs_one _) (by decide) (hbs C) (by rw [dropA z32_size]; simp) ?_
      intro w9 j9 f9 z9
      clear z9
      have nb : Nw w7 w9 := nb.trans f9 (fun k hk q => by omega)
      refine hK.out _ _ (nb) (fun hS0 => ?_)
      try simp only [Act.put, List.setIfInBounds_toArray, List.set_cons_zero, List.set_cons_succ]
      refine wpAnyH_done (by kernel_rfl) ?_ _
      go_wp2_with fail
      go_meet
      exact ⟨pb, rfl, j9, nb⟩
  case rest =>
  obtain ⟨tb, rfl, jt, n8⟩ := hcut
  obtain ⟨w8, hw8⟩ : ∃ q, q = wc := ⟨_, rfl⟩
  rw [← hw8] at jt n8 ⊢
  have HTB := hid_of jt
  have N8 := hid_of n8
  have HQL8 : Hid (∀ V, Nw w8 V → ∀ k, k < 32 → V.cell? ⟨qg, qo + j * 64 + k, none⟩ = (hbs q1)[k]?) := fun V hV => HQL.out V (N8.out.tr hV)
  have HQR8 : Hid (∀ V, Nw w8 V → ∀ k, k < 32 → V.cell? ⟨qg, qo + j * 64 + 32 + k, none⟩ = (hbs q2)[k]?) := fun V hV => HQR.out V (N8.out.tr hV)
  have QN28 : Hid (∀ V, Nw w8 V → Calls Tryd.prog 25 #[.agg (hbs q1), .agg (hbs q2)] V fun e w' => e = .returned (.agg (hbs C)) ∧ Nw V w') := fun V hV => QN2.out V (N8.out.tr hV)
  clear hw8 jt n8
  go_upto_region 13 with fail
  go_cut [15] (fun v wx => ∃ ub, v = .pointer (some ⟨ub, 0, none⟩) ∧ wx.heap[ub]? = some (.cells (hbs C) 24) ∧ Nw w8 wx)
  case first =>
    have nb : Nw w8 w8.drew := (Fr.refl _ _).drew
    refine wp_region_held_drew (S := (fun V => Nw w8 V)) (by kernel_rfl) (nb) ?_
    intro hS0
    refine wpAnyH_take (i := 0) (oi := ({ dst := some 136, op := Op.move (Operand.tmp 11), type := 56, pos := "outright.go:223", after := #[], guard := none } : Oper)) (v := .slice (some ⟨qg, qo, none⟩) k qc) rfl (by kernel_rfl) (by kernel_rfl) (by kernel_rfl) (fun _ _ _ h => h) (Or.inl ⟨by rfl, by intro w hw; go_simp⟩) hS0 ?_
    try simp only [Act.put, List.setIfInBounds_toArray, List.set_cons_zero, List.set_cons_succ]
    refine wpAnyH_take (i := 1) (oi := ({ dst := some 137, op := Op.move (Operand.tmp 11), type := 56, pos := "outright.go:223", after := #[], guard := none } : Oper)) (v := .slice (some ⟨qg, qo, none⟩) k qc) rfl (by kernel_rfl) (by kernel_rfl) (by kernel_rfl) (fun _ _ _ h => h) (Or.inl ⟨by rfl, by intro w hw; go_simp⟩) hS0 ?_
    try simp only [Act.put, List.setIfInBounds_toArray, List.set_cons_zero, List.set_cons_succ]
    refine wpAnyH_take (i := 2) (oi := ({ dst := some 138, op := Op.call { callee := Callee.builtin Builtin.len, args := #[Operand.tmp 137], argTypes := #[56] }, type := 3, pos := "outright.go:223", after := #[{ on := 1, ground := Ground.data }], guard := none } : Oper)) (v := .int .i64 (k : Int)) rfl (by kernel_rfl) (by kernel_rfl) (by kernel_rfl) (fun _ _ _ h => h) (Or.inl ⟨by kernel_rfl, by intro w hw; go_simp⟩) hS0 ?_
    try simp only [Act.put, List.setIfInBounds_toArray, List.set_cons_zero, List.set_cons_succ]
    refine wpAnyH_take (i := 3) (oi := ({ dst := some 139, op := Op.binOp BinOp.sub 3 (Operand.tmp 138) (Operand.const (Value.int IntKind.i64 1)) 3, type := 3, pos := "outright.go:223", after := #[{ on := 2, ground := Ground.data }], guard := none } : Oper)) (v := .int .i64 (j : Int)) rfl (by kernel_rfl) (by kernel_rfl) (by kernel_rfl) (fun _ _ _ h => h) (Or.inl ⟨by kernel_rfl, by intro w hw; have hx := hjw; have hy := hj1; have hz := hjv; go_simp⟩) hS0 ?_
    try simp only [Act.put, List.setIfInBounds_toArray, List.set_cons_zero, List.set_cons_succ]
    refine wpAnyH_take (i := 4) (oi := ({ dst := some 140, op := Op.indexAddr 56 (Operand.tmp 136) (Operand.tmp 139), type := 0, pos := "outright.go:223", after := #[{ on := 0, ground := Ground.data }, { on := 3, ground := Ground.data }], guard := none } : Oper)) (v := .pointer (some ⟨qg, qo + j * 64, none⟩)) rfl (by kernel_rfl) (by kernel_rfl) (by kernel_rfl) (fun _ _ _ h => h) (Or.inl ⟨by kernel_rfl, by intro w hw; have hx := hj2; go_simp; try (intro hq; omega)⟩) hS0 ?_
    try simp only [Act.put, List.setIfInBounds_toArray, List.set_cons_zero, List.set_cons_succ]
    refine wpAnyH_take (i := 5) (oi := ({ dst := some 141, op := Op.fieldAddr 60 (Operand.tmp 140) 0, type := 0, pos := "outright.go:223", after := #[{ on := 4, ground := Ground.data }], guard := none } : Oper)) (v := .pointer (some ⟨qg, qo + j * 64, none⟩)) rfl (by kernel_rfl) (by kernel_rfl) (by kernel_rfl) (fun _ _ _ h => h) (Or.inl ⟨by kernel_rfl, by intro w hw; go_simp⟩) hS0 ?_
    try simp only [Act.put, List.setIfInBounds_toArray, List.set_cons_zero, List.set_cons_succ]
    refine wpAnyH_take (i := 6) (oi := ({ dst := some 142, op := Op.load 24 (Operand.tmp 141), type := 24, pos := "outright.go:223", after := #[{ on := 5, ground := Ground.data }], guard := none } : Oper)) (v := .agg (hbs q1)) rfl (by kernel_rfl) (by kernel_rfl) (by kernel_rfl) (fun _ _ _ h => h) (yields_loadV (by kernel_rfl) (.tmp 141) 24 32 rfl Tryd.isAgg24 Tryd.sizeOf24 qg (qo + j * 64) rfl (hbs q1) hq1s (fun w hw => HQL8.out w hw)) hS0 ?_
    try simp only [Act.put, List.setIfInBounds_toArray, List.set_cons_zero, List.set_cons_succ]
    refine wpAnyH_take (i := 7) (oi := ({ dst := some 143, op := Op.move (Operand.tmp 11), type := 56, pos := "outright.go:223", after := #[], guard := none } : Oper)) (v := .slice (some ⟨qg, qo, none⟩) k qc) rfl (by kernel_rfl) (by kernel_rfl) (by kernel_rfl) (fun _ _ _ h => h) (Or.inl ⟨by rfl, by intro w hw; go_simp⟩) hS0 ?_
    try simp only [Act.put, List.setIfInBounds_toArray, List.set_cons_zero, List.set_cons_succ]
    refine wpAnyH_take (i := 8) (oi := ({ dst := some 144, op := Op.move (Operand.tmp 11), type := 56, pos := "outright.go:223", after := #[], guard := none } : Oper)) (v := .slice (some ⟨qg, qo, none⟩) k qc) rfl (by kernel_rfl) (by kernel_rfl) (by kernel_rfl) (fun _ _ _ h => h) (Or.inl ⟨by rfl, by intro w hw; go_simp⟩) hS0 ?_
    try simp only [Act.put, List.setIfInBounds_toArray, List.set_cons_zero, List.set_cons_succ]
    refine wpAnyH_take (i := 9) (oi := ({ dst := some 145, op := Op.call { callee := Callee.builtin Builtin.len, args := #[Operand.tmp 144], argTypes := #[56] }, type := 3, pos := "outright.go:223", after := #[{ on := 8, ground := Ground.data }], guard := none } : Oper)) (v := .int .i64 (k : Int)) rfl (by kernel_rfl) (by kernel_rfl) (by kernel_rfl) (fun _ _ _ h => h) (Or.inl ⟨by kernel_rfl, by intro w hw; go_simp⟩) hS0 ?_
    try simp only [Act.put, List.setIfInBounds_toArray, List.set_cons_zero, List.set_cons_succ]
    refine wpAnyH_take (i := 10) (oi := ({ dst := some 146, op := Op.binOp BinOp.sub 3 (Operand.tmp 145) (Operand.const (Value.int IntKind.i64 1)) 3, type := 3, pos := "outright.go:223", after := #[{ on := 9, ground := Ground.data }], guard := none } : Oper)) (v := .int .i64 (j : Int)) rfl (by kernel_rfl) (by kernel_rfl) (by kernel_rfl) (fun _ _ _ h => h) (Or.inl ⟨by kernel_rfl, by intro w hw; have hx := hjw; have hy := hj1; have hz := hjv; go_simp⟩) hS0 ?_
    try simp only [Act.put, List.setIfInBounds_toArray, List.set_cons_zero, List.set_cons_succ]
    refine wpAnyH_take (i := 11) (oi := ({ dst := some 147, op := Op.indexAddr 56 (Operand.tmp 143) (Operand.tmp 146), type := 0, pos := "outright.go:223", after := #[{ on := 7, ground := Ground.data }, { on := 10, ground := Ground.data }], guard := none } : Oper)) (v := .pointer (some ⟨qg, qo + j * 64, none⟩)) rfl (by kernel_rfl) (by kernel_rfl) (by kernel_rfl) (fun _ _ _ h => h) (Or.inl ⟨by kernel_rfl, by intro w hw; have hx := hj2; go_simp; try (intro hq; omega)⟩) hS0 ?_
    try simp only [Act.put, List.setIfInBounds_toArray, List.set_cons_zero, List.set_cons_succ]
    refine wpAnyH_take (i := 12) (oi := ({ dst := some 148, op := Op.fieldAddr 60 (Operand.tmp 147) 1, type := 0, pos := "outright.go:223", after := #[{ on := 11, ground := Ground.data }], guard := none } : Oper)) (v := .pointer (some ⟨qg, qo + j * 64 + 32, none⟩)) rfl (by kernel_rfl) (by kernel_rfl) (by kernel_rfl) (fun _ _ _ h => h) (Or.inl ⟨by kernel_rfl, by intro w hw; go_simp⟩) hS0 ?_
    try simp only [Act.put, List.setIfInBounds_toArray, List.set_cons_zero, List.set_cons_succ]
    refine wpAnyH_take (i := 13) (oi := ({ dst := some 149, op := Op.load 24 (Operand.tmp 148), type := 24, pos := "outright.go:223", after := #[{ on := 12, ground := Ground.data }], guard := none } : Oper)) (v := .agg (hbs q2)) rfl (by kernel_rfl) (by kernel_rfl) (by kernel_rfl) (fun _ _ _ h => h) (yields_loadV (by kernel_rfl) (.tmp 148) 24 32 rfl Tryd.isAgg24 Tryd.sizeOf24 qg (qo + j * 64 + 32) rfl (hbs q2) hq2s (fun w hw => HQR8.out w hw)) hS0 ?_
    try simp only [Act.put, List.setIfInBounds_toArray, List.set_cons_zero, List.set_cons_succ]
    refine wpAnyH_ready (rs := [14, 15]) (by kernel_rfl) (by simp) ?_
    refine (AllReadyH.cons (o := ({ dst := some 150, op := Op.call { callee := Callee.value (Operand.func 25), args := #[Operand.tmp 142, Operand.tmp 149], argTypes := #[24, 24] }, type := 24, pos := "outright.go:223", after := #[{ on := 6, ground := Ground.data }, { on := 13, ground := Ground.data }], guard := none } : Oper)) rfl (fun K' hK => ?_) (AllReadyH.cons (o := ({ dst := some 15, op := Op.alloc 24, type := 0, pos := "outright.go:223", after := #[], guard := none } : Oper)) rfl (fun K' hK => ?_) AllReadyH.nil))
    · go_simp
      go_wp2_with (go_at_call 25; refine (QN28.out _ nb).mono ?_; rintro ex w101 ⟨rfl, nw101⟩)
      have nb := nb.tr nw101
      refine hK.out _ _ (nb) (fun hS0 => ?_)
      try simp only [Act.put, List.setIfInBounds_toArray, List.set_cons_zero, List.set_cons_succ]
      refine wpAnyH_ready (rs := [15]) (by kernel_rfl) (by simp) ?_
      refine (AllReadyH.cons (o := ({ dst := some 15, op := Op.alloc 24, type := 0, pos := "outright.go:223", after := #[], guard := none } : Oper)) rfl (fun K' hK => ?_) AllReadyH.nil)
      refine step_alloc24 rfl rfl ?_
      have BA := heap_new (w101) (.cells z32 24)
      have na := nwa (w101) (.cells z32 24)
      obtain ⟨wa, hwa⟩ : ∃ q, (w101).alloc (.cells z32 24) = q := ⟨_, rfl⟩
      rw [hwa] at BA na ⊢
      obtain ⟨pb, hpb⟩ : ∃ q, q = (w101).heap.size := ⟨_, rfl⟩
      rw [← hpb] at BA ⊢
      have LP : w8.heap.size ≤ pb := by rw [hpb]; exact nb.size
      have nb : Nw w8 wa := nb.tr na
      clear hwa hpb na
      refine hK.out _ _ (nb) (fun hS0 => ?_)
      try simp only [Act.put, List.setIfInBounds_toArray, List.set_cons_zero, List.set_cons_succ]
      refine wpAnyH_ready (rs := [16]) (by kernel_rfl) (by simp) ?_
      refine (AllReadyH.cons (o := ({ dst := none, op := Op.store 24 (Operand.tmp 15) (Operand.tmp 150), type := 0, pos := "outright.go:223", after := #[{ on := 15, ground := Ground.data }, { on := 14, ground := Ground.data }, { on := 14, ground := Ground.chain }, { on := 0, ground := Ground.phase }, { on := 1, ground := Ground.phase }, { on := 2, ground := Ground.phase }, { on := 3, ground := Ground.phase }, { on := 4, ground := Ground.phase }, { on := 5, ground := Ground.phase }, { on := 6, ground := Ground.phase }, { on := 7, ground := Ground.phase }, { on := 8, ground := Ground.phase }, { on := 9, ground := Ground.phase }, { on := 10, ground := Ground.phase }, { on := 11, ground := Ground.phase }, { on := 12, ground := Ground.phase }, { on := 13, ground := Ground.phase }, { on := 14, ground := Ground.phase }, { on := 15, ground := Ground.phase }], guard := none } : Oper)) rfl (fun K' hK => ?_) AllReadyH.nil)
      have BZ : wa.heap[pb]? = some (.cells z32 24) := by first | exact BA | exact (nw101.block _ (heap_lt BA) (fun f => f)).trans BA
      refine step_store_agg rfl (.tmp 15) (.tmp 150) 24 32 rfl Tryd.sizeOf24 pb 0 rfl z32 24 BZ (hbs C) rfl hCs (hbs_one _) (by decide) (hbs C) (by rw [dropA z32_size]; simp) ?_
      intro w9 j9 f9 z9
      clear z9
      have nb : Nw w8 w9 := nb.trans f9 (fun k hk q => by omega)
      refine hK.out _ _ (nb) (fun hS0 => ?_)
      try simp only [Act.put, List.setIfInBounds_toArray, List.set_cons_zero, List.set_cons_succ]
      refine wpAnyH_done (by kernel_rfl) ?_ _
      go_wp2_with fail
      go_meet
      exact ⟨pb, rfl, j9, nb⟩
    · refine step_alloc24 rfl rfl ?_
      have BA := heap_new (w8.drew) (.cells z32 24)
      have na := nwa (w8.drew) (.cells z32 24)
      obtain ⟨wa, hwa⟩ : ∃ q, (w8.drew).alloc (.cells z32 24) = q := ⟨_, rfl⟩
      rw [hwa] at BA na ⊢
      obtain ⟨pb, hpb⟩ : ∃ q, q = (w8.drew).heap.size := ⟨_, rfl⟩
      rw [← hpb] at BA ⊢
      have LP : w8.heap.size ≤ pb := by rw [hpb]; exact nb.size
      have nb : Nw w8 wa := nb.tr na
      clear hwa hpb na
      refine hK.out _ _ (nb) (fun hS0 => ?_)
      try simp only [Act.put, List.setIfInBounds_toArray, List.set_cons_zero, List.set_cons_succ]
      refine wpAnyH_ready (rs := [14]) (by kernel_rfl) (by simp) ?_
      refine (AllReadyH.cons (o := ({ dst := some 150, op := Op.call { callee := Callee.value (Operand.func 25), args := #[Operand.tmp 142, Operand.tmp 149], argTypes := #[24, 24] }, type := 24, pos := "outright.go:223", after := #[{ on := 6, ground := Ground.data }, { on := 13, ground := Ground.data }], guard := none } : Oper)) rfl (fun K' hK => ?_) AllReadyH.nil)
      go_simp
      go_wp2_with (go_at_call 25; refine (QN28.out _ nb).mono ?_; rintro ex w102 ⟨rfl, nw102⟩)
      have nb := nb.tr nw102
      refine hK.out _ _ (nb) (fun hS0 => ?_)
      try simp only [Act.put, List.setIfInBounds_toArray, List.set_cons_zero, List.set_cons_succ]
      refine wpAnyH_ready (rs := [16]) (by kernel_rfl) (by simp) ?_
      refine (AllReadyH.cons (o := ({ dst := none, op := Op.store 24 (Operand.tmp 15) (Operand.tmp 150), type := 0, pos := "outright.go:223", after := #[{ on := 15, ground := Ground.data }, { on := 14, ground := Ground.data }, { on := 14, ground := Ground.chain }, { on := 0, ground := Ground.phase }, { on := 1, ground := Ground.phase }, { on := 2, ground := Ground.phase }, { on := 3, ground := Ground.phase }, { on := 4, ground := Ground.phase }, { on := 5, ground := Ground.phase }, { on := 6, ground := Ground.phase }, { on := 7, ground := Ground.phase }, { on := 8, ground := Ground.phase }, { on := 9, ground := Ground.phase }, { on := 10, ground := Ground.phase }, { on := 11, ground := Ground.phase }, { on := 12, ground := Ground.phase }, { on := 13, ground := Ground.phase }, { on := 14, ground := Ground.phase }, { on := 15, ground := Ground.phase }], guard := none } : Oper)) rfl (fun K' hK => ?_) AllReadyH.nil)
      have BZ : w102.heap[pb]? = some (.cells z32 24) := by first | exact BA | exact (nw102.block _ (heap_lt BA) (fun f => f)).trans BA
      refine step_store_agg rfl (.tmp 15) (.tmp 150) 24 32 rfl Tryd.sizeOf24 pb 0 rfl z32 24 BZ (hbs C) rfl hCs (hbs_one _) (by decide) (hbs C) (by rw [dropA z32_size]; simp) ?_
      intro w9 j9 f9 z9
      clear z9
      have nb : Nw w8 w9 := nb.trans f9 (fun k hk q => by omega)
      refine hK.out _ _ (nb) (fun hS0 => ?_)
      try simp only [Act.put, List.setIfInBounds_toArray, List.set_cons_zero, List.set_cons_succ]
      refine wpAnyH_done (by kernel_rfl) ?_ _
      go_wp2_with fail
      go_meet
      exact ⟨pb, rfl, j9, nb⟩
  case rest =>
  obtain ⟨ub, rfl, ju, n9⟩ := hcut
  obtain ⟨w9, hw9⟩ : ∃ q, q = wc := ⟨_, rfl⟩
  rw [← hw9] at ju n9 ⊢
  have N79 : Hid (Nw w7 w9) := N8.out.tr n9
  have N9 : Hid (Nw w1 w9) := N7.out.tr N79.out
  have FU := hid_of (hash_cells ju)
  have FT := hid_of (hash_cells ((n9.block _ (heap_lt HTB.out) (fun f => f)).trans HTB.out))
  have FG1 := hid_of (hash_cells ((N79.out.block _ (heap_lt HF17.out) (fun f => f)).trans HF17.out))
  have FG2 := hid_of (hash_cells ((N79.out.block _ (heap_lt HF2.out) (fun f => f)).trans HF2.out))
  have c0 := (HPC.out w9 N9.out).1
  have c1 := (HPC.out w9 N9.out).2.1
  have c6 := (HPC.out w9 N9.out).2.2.2.2
  clear hw9 ju n9
  clear c0 c1 c6
  have c0 := (HPC.out w9 N9.out).1
  have c1 := (HPC.out w9 N9.out).2.1
  have c6 := (HPC.out w9 N9.out).2.2.2.2
  have FA := hid_of (HPC.out w9 N9.out).2.2.1
  have FC := hid_of (HPC.out w9 N9.out).2.2.2.1
  have FO := hid_of (HOB.out w9 N9.out)
  have hcc : (!decide (C = C)) = false := by simp
  go_upto_region 16 with first
    | refine wpl_loadN (by kernel_rfl) (.tmp 14) 24 32 rfl Tryd.isAgg24 Tryd.sizeOf24 tb 0 rfl (hbs C) hCs FT.out ?_
    | refine wpl_loadN (by kernel_rfl) (.tmp 15) 24 32 rfl Tryd.isAgg24 Tryd.sizeOf24 ub 0 rfl (hbs C) hCs FU.out ?_
    | refine wpl_loadN (by kernel_rfl) (.tmp 152) 24 32 rfl Tryd.isAgg24 Tryd.sizeOf24 xb 34 rfl (hbs C) hCs FC.out ?_
    | refine wpl_loadN (by kernel_rfl) (.tmp 157) 24 32 rfl Tryd.isAgg24 Tryd.sizeOf24 xb 34 rfl (hbs C) hCs FC.out ?_
    | (refine wpl_neqA (by kernel_rfl) (.tmp 151) (.tmp 153) rfl C C HC.out HC.out rfl rfl ?_; rw [hcc])
    | (refine wpl_neqA (by kernel_rfl) (.tmp 156) (.tmp 158) rfl C C HC.out HC.out rfl rfl ?_; rw [hcc])
  by_cases he : F1 = F2
  · have hd : decide (F1 = F2) = true := decide_eq_true he
    go_wp2_with first
      | refine wpl_loadN (by kernel_rfl) (.tmp 9) 24 32 rfl Tryd.isAgg24 Tryd.sizeOf24 f1 0 rfl (hbs F1) hF1s FG1.out ?_
      | refine wpl_loadN (by kernel_rfl) (.tmp 12) 24 32 rfl Tryd.isAgg24 Tryd.sizeOf24 f2 0 rfl (hbs F2) hF2s FG2.out ?_
      | (refine wpl_eqlA (by kernel_rfl) (.tmp 161) (.tmp 162) rfl F1 F2 HP1.out.1 HP2.out.1 rfl rfl ?_; rw [hd])
    refine (HSM.out _ N79.out).mono ?_
    rintro e w10 ⟨rfl, n10⟩
    have N10 : Hid (Nw w7 w10) := N79.out.tr n10
    have NA : Hid (Nw w1 w10) := N7.out.tr N10.out
    clear n10
    by_cases hm : L = M
    · have hdm : decide (L = M) = true := decide_eq_true hm
      have hao : decide (A = O) = true := decide_eq_true (HEQ.out he hm)
      rw [hdm]
      clear hdm hm he
      clear c0 c1 c6
      have c0 := (HPC.out w10 NA.out).1
      have c1 := (HPC.out w10 NA.out).2.1
      have c6 := (HPC.out w10 NA.out).2.2.2.2
      have FA := hid_of (HPC.out w10 NA.out).2.2.1
      have FC := hid_of (HPC.out w10 NA.out).2.2.2.1
      have FO := hid_of (HOB.out w10 NA.out)
      go_wp2_with first
        | refine wpl_loadN (by kernel_rfl) (.tmp 172) 24 32 rfl Tryd.isAgg24 Tryd.sizeOf24 xb 2 rfl (hbs A) hAs FA.out ?_
        | refine wpl_loadN (by kernel_rfl) (.tmp 4) 24 32 rfl Tryd.isAgg24 Tryd.sizeOf24 ob 0 rfl (hbs O) hOs FO.out ?_
        | (refine wpl_eqlA (by kernel_rfl) (.tmp 173) (.tmp 174) rfl A O HA.out HO.out rfl rfl ?_; rw [hao])
      refine (QAL.out _ (NW7.out.tr N10.out)).mono ?_
      rintro e wz ⟨rfl, nz⟩
      have NZ : Hid (Nw w7 wz) := N10.out.tr nz
      clear nz
      go_wp2
      go_ret
      exact ⟨rfl, NW7.out.tr NZ.out⟩
    · have hdm : decide (L = M) = false := decide_eq_false hm
      have hb : brk (prs F1 R1 s) (prs F2 R2 s) = true := HBD.out (fun q => hm q.2)
      rw [hdm]
      clear hdm hm he
      go_wp2_with fail
      refine (HBR.out _ N10.out).mono ?_
      rintro e w11 ⟨rfl, n11⟩
      rw [hb]
      have N11 : Hid (Nw w7 w11) := N10.out.tr n11
      clear n11 hb
      go_wp2_with fail
      refine (QAL.out _ (NW7.out.tr N11.out)).mono ?_
      rintro e wz ⟨rfl, nz⟩
      have NZ : Hid (Nw w7 wz) := N11.out.tr nz
      clear nz
      go_wp2
      go_ret
      exact ⟨rfl, NW7.out.tr NZ.out⟩
  · have hd : decide (F1 = F2) = false := decide_eq_false he
    have hb : brk (prs F1 R1 s) (prs F2 R2 s) = true := HBD.out (fun q => he q.1)
    clear he
    go_wp2_with first
      | refine wpl_loadN (by kernel_rfl) (.tmp 9) 24 32 rfl Tryd.isAgg24 Tryd.sizeOf24 f1 0 rfl (hbs F1) hF1s FG1.out ?_
      | refine wpl_loadN (by kernel_rfl) (.tmp 12) 24 32 rfl Tryd.isAgg24 Tryd.sizeOf24 f2 0 rfl (hbs F2) hF2s FG2.out ?_
      | (refine wpl_eqlA (by kernel_rfl) (.tmp 161) (.tmp 162) rfl F1 F2 HP1.out.1 HP2.out.1 rfl rfl ?_; rw [hd])
    refine (HBR.out _ N79.out).mono ?_
    rintro e w11 ⟨rfl, n11⟩
    rw [hb]
    have N11 : Hid (Nw w7 w11) := N79.out.tr n11
    clear n11 hb
    go_wp2_with fail
    refine (QAL.out _ (NW7.out.tr N11.out)).mono ?_
    rintro e wz ⟨rfl, nz⟩
    have NZ : Hid (Nw w7 wz) := N11.out.tr nz
    clear nz
    go_wp2
    go_ret
    exact ⟨rfl, NW7.out.tr NZ.out⟩
end Go.Proofs.YtaeocbdphfkflaaDoor
