/- EmitGoes: the walk. -/
import Derived.Test.YtlcheobdkkiffaaDoorZ4
namespace Go.Proofs.YtlcheobdkkiffaaDoor
open Go.RowKit Go.Shelf
set_option linter.unusedVariables false
set_option linter.unusedSimpArgs false
theorem yieldsEq {ops : Array Oper} {S : World → Prop} {o : Oper} {a : Act} (hw0 : Region.wanted o (yielded ops a.tmps) = true) (x y : Operand) (ho : o.op = .binOp .eql 32 x y 32) (A : List UInt8) (hA : A.length = 32) (hx : a.eval x = .agg (hbs A)) (hy : a.eval y = .agg (hbs A)) : YieldsIf Tryd.prog ops S o (.bool true) a := by
  refine .inl ⟨hw0, fun w hw => ?_⟩
  unfold execOp
  simp only [ho, hx, hy, run_eqGuard, hbs_eql A hA w, Sem.run_bind, Sem.run_pure, Result.andThen_ok]
set_option maxRecDepth 100000 in
set_option maxHeartbeats 2000000 in
theorem goes10_any (A : List (List UInt8)) (hA32 : ∀ x ∈ A, x.length = 32) (ad : Option Addr) (c : Nat) (hAl : A.length < 4611686018427387904) (B : List (List UInt8)) (hB32 : ∀ x ∈ B, x.length = 32) (bd : Option Addr) (d : Nat) (hBl : B.length < 4611686018427387904) (w : World) (hsA : Hss w (.slice ad A.length c) A) (hsB : Hss w (.slice bd B.length d) B) (hL : Laid w) (hT : TabAt w) {B0 : Nat} {a : Nat → Addr} (hS : Sent B0 w a) :
    Calls Tryd.prog 4 #[.slice ad A.length c, .slice bd B.length d] w fun e w' => e = .returned (.bool true) ∧ Nw w w' := by
  have HL : Hid (Laid w) := hL
  have HT : Hid (TabAt w) := hT
  have SS : Hid (∀ V, Nw w V → Sent B0 V a) := fun V nV => hS.fr nV (fun _ _ f => f)
  have A32 : Hid (∀ y ∈ A, y.length = 32) := hA32
  have B32 : Hid (∀ y ∈ B, y.length = 32) := hB32
  have QA : Hid (∀ V, Nw w V → Calls Tryd.prog 7 #[] V fun e w' => e = .returned (.bool true) ∧ Nw V w') := fun V nV => alive10_any V (HL.out.nw nV) (HT.out.nw nV) (SS.out V nV)
  obtain ⟨m1, hm1⟩ : ∃ m, m = A.length := ⟨_, rfl⟩
  obtain ⟨m2, hm2⟩ : ∃ m, m = B.length := ⟨_, rfl⟩
  have HM1 : Hid (A.length = m1) := hm1.symm
  have HM2 : Hid (B.length = m2) := hm2.symm
  have HSA : Hid (Hss w (.slice ad m1 c) A) := by rw [hm1]; exact hsA
  have HSB : Hid (Hss w (.slice bd m2 d) B) := by rw [hm2]; exact hsB
  rw [← hm1] at hAl ⊢
  rw [← hm2] at hBl ⊢
  have hnn : ∀ W : World, (binOp .neq 28 .nilIface .nilIface).run Tryd.prog W = .ok (.bool false) W := fun W => by kernel_rfl
  clear hL hT hS hA32 hB32 hsA hsB hm1 hm2
  go_enter Tryd.func4, Tryd.ntmps4
  go_wp2_with fail
  refine (QA.out _ (nwr w)).mono ?_
  rintro e w1 ⟨rfl, n1⟩
  have N1 : Hid (Nw w w1) := n1
  clear n1
  have q2 := beyond_any (some ⟨w1.heap.size, 0, none⟩) 2 [m1, m2] _ (two_int w1 m1 m2) (getD_two m1 m2 hAl hBl) (by simp)
  go_wp2_with fail
  refine q2.mono ?_
  rintro e2 w2 ⟨rfl, hw2⟩
  have N2w : Hid (Nw w w2) := by show Nw w w2; rw [hw2]; exact N1.out.alloc _
  clear hw2 q2
  by_cases hbig : 1048576 < m1 + m2
  · have hd : decide (1048576 < [m1, m2].sum) = true := decide_eq_true (by simpa using hbig)
    rw [hd]
    go_wp2_with fail
    refine (QA.out _ N2w.out).mono ?_
    rintro e3 w3 ⟨rfl, n3⟩
    go_wp2
    go_ret
    exact ⟨rfl, N2w.out.tr n3⟩
  have hd : decide (1048576 < [m1, m2].sum) = false := decide_eq_false (by simpa using hbig)
  rw [hd]
  have hm1b : m1 ≤ 1048576 := by omega
  have hm2b : m2 ≤ 1048576 := by omega
  have HMB : Hid (m1 + m2 ≤ 1048576) := by show m1 + m2 ≤ _; omega
  clear hd hbig hAl hBl
  have q3 := pnew w2 (HL.out.nw N2w.out)
  go_wp2_with fail
  refine q3.mono ?_
  rintro e w3 ⟨P0, rfl, p3, l3, n3⟩
  obtain ⟨rb, hrb⟩ : ∃ q, q = w2.heap.size := ⟨_, rfl⟩
  rw [← hrb] at p3 l3 ⊢
  have HRB : Hid (w.heap.size ≤ rb) := by rw [hrb]; exact N2w.out.size
  have P3 : Hid (Bp w3 P0 rb (.slice none 0 0) 0 []) := p3
  have L3 : Hid (∀ g, P0 g → rb ≤ g) := l3
  have N3 : Hid (Nw w w3) := N2w.out.tr n3
  clear hrb q3 p3 l3 n3
  go_wp2_with fail
  go_loopw [6] (fun i wr => ∃ (k : Nat) (v : Value) (L : List (List UInt8)) (P : Nat → Prop), k ≤ m1 ∧ i = .int .i64 (k : Int) ∧ Bp wr P rb v k L ∧ (∀ g, P g → rb ≤ g) ∧ Nw w wr) (fun i _ => m1 - (intOf i).toNat)
  case atStart => exact ⟨0, _, _, P0, by omega, rfl, P3.out, L3.out, N3.out⟩
  case round =>
    obtain ⟨k, v, L, P, hk, rfl, hB, hP, hnw⟩ := hrel
    have HB : Hid (Bp wr P rb v k L) := hB
    have HP : Hid (∀ g, P g → rb ≤ g) := hP
    have NWR : Hid (Nw w wr) := hnw
    clear hB hP hnw
    by_cases hlt : k < m1
    · obtain ⟨y, hy⟩ : ∃ y, A[k]? = some y := ⟨_, List.getElem?_eq_getElem (by rw [HM1.out]; exact hlt)⟩
      have Y32 : Hid (y.length = 32) := A32.out y (List.mem_of_getElem? hy)
      obtain ⟨p, off, rfl, hc⟩ := (HSA.out.nw A32.out NWR.out).atT hy
      have HC : Hid (∀ j, j < 32 → wr.cell? ⟨p, off + k * 32 + j, none⟩ = (hbs y)[j]?) := hc
      have hki : (k : Int) < (m1 : Int) := by omega
      have q4 := padd HB.out (by omega) y Y32.out (HL.out.nw NWR.out) (HT.out.nw NWR.out)
      clear hc hy
      go_wp2_with (refine wpl_load rfl (.tmp 41) rfl p (off + k * 32) rfl y Y32.out HC.out ?_)
      refine q4.mono ?_
      rintro e w4 ⟨ta, tc, v', P', rfl, o4, b4, p4, t4, f4⟩
      clear q4
      have N4 : Hid (Nw w w4) := NWR.out.trans f4 (fun q hq e => by have := HP.out q e; have := HRB.out; omega)
      have B4 : Hid (Bp w4 P' rb v' (k + 1) (addL k L y)) := b4
      have P4 : Hid (∀ g, P' g → rb ≤ g) := fun g hg => (p4 g hg).elim (HP.out g) (fun h => by have := N3.out.size; have := HB.out.plt rb HB.out.pb; omega)
      clear o4 b4 p4 t4 f4
      go_wp2
      exact ⟨⟨k + 1, v', _, P', by omega, by go_num, B4.out, P4.out, N4.out⟩, by simp [intOf]; omega⟩
    obtain rfl : k = m1 := by omega
    have hki : ¬ (k : Int) < (k : Int) := by omega
    have LL : Hid (L.length ≤ 64) := HB.out.len
    go_wp2_with fail
    refine (psize HB.out).mono ?_
    rintro e w4 ⟨rfl, n4⟩
    have N4 : Hid (Nw wr w4) := n4
    clear n4
    go_wp2_with fail
    refine (phashes (HB.out.nw N4.out)).mono ?_
    rintro e w5 ⟨v5, rfl, o5, n5⟩
    have N5 : Hid (Nw wr w5) := N4.out.tr n5
    have O5 : Hid (w5.ownsRow w4.heap.size 32 32 v5 L.length (hsc L)) := o5
    clear n5 o5
    go_wp2_with fail
    refine (pload k (by omega) v5 L O5.out HB.out.ok HB.out.cnt (HL.out.nw (NWR.out.tr N5.out))).mono ?_
    rintro e w6 ⟨b1, v1, P1, rfl, b6, p6, n6⟩
    have N6 : Hid (Nw wr w6) := N5.out.tr n6
    have B6 : Hid (Bp w6 P1 b1 v1 k L) := b6
    have P6 : Hid (∀ g, P1 g → wr.heap.size ≤ g) := fun g hg => by have := p6 g hg; have := N5.out.size; omega
    clear n6 b6 p6 O5
    go_wp2_with fail
    refine (psize (HB.out.nw N6.out)).mono ?_
    rintro e w7 ⟨rfl, n7⟩
    have N7 : Hid (Nw w6 w7) := n7
    clear n7
    go_wp2_with fail
    refine (phashes (HB.out.nw (N6.out.tr N7.out))).mono ?_
    rintro e w8 ⟨v8, rfl, o8, n8⟩
    have N8 : Hid (Nw w6 w8) := N7.out.tr n8
    have O8 : Hid (w8.ownsRow w7.heap.size 32 32 v8 L.length (hsc L)) := o8
    clear n8 o8
    go_wp2_with fail
    refine (pload k (by omega) v8 L O8.out HB.out.ok HB.out.cnt (HL.out.nw (NWR.out.tr (N6.out.tr N8.out)))).mono ?_
    rintro e w9 ⟨b2, v2, P2, rfl, b9, p9, n9⟩
    have N9 : Hid (Nw w6 w9) := N8.out.tr n9
    have B9 : Hid (Bp w9 P2 b2 v2 k L) := b9
    have P9 : Hid (∀ g, P2 g → w6.heap.size ≤ g) := fun g hg => by have := p9 g hg; have := N8.out.size; omega
    clear n9 b9 p9 O8
    obtain ⟨F, hF⟩ : ∃ q, q = fde L := ⟨_, rfl⟩
    have HF : Hid (F = fde L) := hF
    have F32 : Hid (F.length = 32) := by rw [hF]; exact fde_32 _ HB.out.ok
    have hFs : (hbs F).size = 32 := by rw [hbs_size, F32.out]
    have q10 := proot (HB.out.nw (N6.out.tr N9.out)) (HL.out.nw (NWR.out.tr (N6.out.tr N9.out)))
    rw [← hF] at q10
    clear hF
    go_wp2_with fail
    refine q10.mono ?_
    rintro e w10 ⟨rfl, n10⟩
    have N10 : Hid (Nw w9 w10) := n10
    clear n10 q10
    go_wp2_with (refine wp_store_agg rfl (.tmp 13) (.tmp 79) 32 32 rfl Tryd.sizeOf32 w10.heap.size 0 rfl _ 32 (heap_new _ _) (hbs F) rfl hFs (hbs_one _) (by decide) (hbs F) (by simp) ?_; intro w11 j11 f11 zz; clear zz; have N11 : Hid (Nw w9 w11) := (N10.out.alloc _).trans f11 (fun k hk q => by have := N10.out.size; omega); have J11 : Hid (w11.heap[w10.heap.size]? = some (.cells (hbs F) 32 (0, 0))) := j11; clear j11 f11)
    obtain ⟨rt, hrt⟩ : ∃ q, q = w10.heap.size := ⟨_, rfl⟩
    rw [← hrt] at J11 ⊢
    have HRT : Hid (w9.heap.size ≤ rt) := by rw [hrt]; exact N10.out.size
    clear hrt
    obtain ⟨wq, hwq⟩ : ∃ q, q = wr := ⟨_, rfl⟩
    rw [← hwq] at HB NWR N4 N5 N6 P6
    clear hwq
    have NB : Hid (Bp w11 P rb v k L) := HB.out.nw (N6.out.tr (N9.out.tr N11.out))
    have B11 : Hid (Bp w11 P1 b1 v1 k L) := B6.out.nw (N9.out.tr N11.out)
    have C11 : Hid (Bp w11 P2 b2 v2 k L) := B9.out.nw N11.out
    have N11w : Hid (Nw w w11) := NWR.out.tr (N6.out.tr (N9.out.tr N11.out))
    have PLT : Hid ((∀ g, P g → g < wq.heap.size) ∧ (∀ g, P1 g → g < w6.heap.size) ∧ (∀ g, P2 g → g < w9.heap.size) ∧ rt < w11.heap.size) := ⟨HB.out.plt, B6.out.plt, B9.out.plt, heap_lt J11.out⟩
    have SZ : Hid (wq.heap.size ≤ w6.heap.size ∧ w6.heap.size ≤ w9.heap.size ∧ w9.heap.size ≤ w11.heap.size ∧ w.heap.size ≤ wq.heap.size) := ⟨N6.out.size, N9.out.size, N11.out.size, NWR.out.size⟩
    clear N4 N5 N7 N8 N10 B6 B9
    go_wp2_with fail
    go_loopw [14] (fun i wr => ∃ (j : Nat) (va vb : Value) (M : List (List UInt8)) (Pa Pb : Nat → Prop), j ≤ m2 ∧ i = .int .i64 (j : Int) ∧ Bp wr Pa rb va (k + j) M ∧ Bp wr Pb b1 vb (k + j) M ∧ Bp wr P2 b2 v2 k L ∧ wr.heap[rt]? = some (.cells (hbs F) 32 (0, 0)) ∧ (∀ g, Pa g → rb ≤ g ∧ ¬ Pb g ∧ ¬ P2 g ∧ g ≠ rt) ∧ (∀ g, Pb g → rb ≤ g ∧ ¬ P2 g ∧ g ≠ rt) ∧ Nw w wr) (fun i _ => m2 - (intOf i).toNat)
    case atStart =>
      refine ⟨0, v, v1, L, P, P1, by omega, rfl, NB.out, B11.out, C11.out, J11.out, fun g hg => ?_, fun g hg => ?_, N11w.out⟩
      · have h1 := PLT.out.1 g hg
        have h2 := SZ.out
        have h3 := HRT.out
        exact ⟨HP.out g hg, fun q => by have := P6.out g q; omega, fun q => by have := P9.out g q; omega, by omega⟩
      · have h1 := PLT.out.2.1 g hg
        have h2 := SZ.out
        have h3 := HRT.out
        have h4 := P6.out g hg
        have h5 := HB.out.plt rb HB.out.pb
        exact ⟨by omega, fun q => by have := P9.out g q; omega, by omega⟩
    case round =>
      obtain ⟨j, va, vb, M, Pa, Pb, hj, rfl, bA, bB, bC, hr, hPa, hPb, hnw⟩ := hrel
      have BA : Hid (Bp wr Pa rb va (k + j) M) := bA
      have BB : Hid (Bp wr Pb b1 vb (k + j) M) := bB
      have BC : Hid (Bp wr P2 b2 v2 k L) := bC
      have JR : Hid (wr.heap[rt]? = some (.cells (hbs F) 32 (0, 0))) := hr
      have HPA : Hid (∀ g, Pa g → rb ≤ g ∧ ¬ Pb g ∧ ¬ P2 g ∧ g ≠ rt) := hPa
      have HPB : Hid (∀ g, Pb g → rb ≤ g ∧ ¬ P2 g ∧ g ≠ rt) := hPb
      have NWX : Hid (Nw w wr) := hnw
      clear bA bB bC hr hPa hPb hnw
      by_cases hlt2 : j < m2
      · obtain ⟨y, hy⟩ : ∃ y, B[j]? = some y := ⟨_, List.getElem?_eq_getElem (by rw [HM2.out]; exact hlt2)⟩
        have Y32 : Hid (y.length = 32) := B32.out y (List.mem_of_getElem? hy)
        obtain ⟨p, off, rfl, hc⟩ := (HSB.out.nw B32.out NWX.out).atT hy
        have HC : Hid (∀ V, Nw w V → ∀ q, q < 32 → V.cell? ⟨p, off + j * 32 + q, none⟩ = (hbs y)[q]?) := fun V nV => by
          obtain ⟨p', off', e, h⟩ := (HSB.out.nw B32.out nV).atT hy
          cases e
          exact h
        have hji : (j : Int) < (m2 : Int) := by omega
        obtain ⟨s, hs⟩ : ∃ s, s = k + j := ⟨_, rfl⟩
        rw [← hs] at BA BB
        have hsb : s ≤ 1048576 := by have := HMB.out; omega
        have HSE : Hid (s = k + j) := hs
        have q4 := padd BA.out (by omega) y Y32.out (HL.out.nw NWX.out) (HT.out.nw NWX.out)
        have ho63 := ones_63 s (by omega)
        obtain ⟨oj, hoj⟩ : ∃ q, q = ones 64 s := ⟨_, rfl⟩
        rw [← hoj] at q4 ho63
        have HOJ : Hid (oj = ones 64 s) := hoj
        have M64 : Hid (∀ q ∈ nds s M y (oj + 1), q.H.length = 32) := fun q hq => by
          simp only [nds, List.mem_map] at hq
          obtain ⟨i, _, rfl⟩ := hq
          exact nhs_len M y Y32.out i
        clear hc hy hs hoj
        go_wp2_with (refine wpl_load rfl (.tmp 90) rfl p (off + j * 32) rfl y Y32.out (HC.out _ NWX.out) ?_)
        refine q4.mono ?_
        rintro e w12 ⟨ta, tc, va', Pa', rfl, o12, a12, p12, t12, f12⟩
        clear q4
        have N12 : Hid (Nw w w12) := NWX.out.trans f12 (fun q hq e => by have := (HPA.out q e).1; have := HRB.out; omega)
        have A12 : Hid (Bp w12 Pa' rb va' (s + 1) (addL s M y)) := a12
        have BB12 : Hid (Bp w12 Pb b1 vb s M) := BB.out.fr f12 (fun g hg q => (HPA.out g q).2.1 hg)
        have BC12 : Hid (Bp w12 P2 b2 v2 k L) := BC.out.fr f12 (fun g hg q => (HPA.out g q).2.2.1 hg)
        have JR12 : Hid (w12.heap[rt]? = some (.cells (hbs F) 32 (0, 0))) := (f12.block _ (heap_lt JR.out) (fun q => (HPA.out rt q).2.2.2 rfl)).trans JR.out
        have O12 : Hid (w12.ownsRow wr.heap.size 38 34 (.slice ta (oj + 1) tc) (oj + 1) (tsc (nds s M y (oj + 1)))) := o12
        have RLT : Hid (rt < wr.heap.size) := heap_lt JR.out
        have HPA12 : Hid (∀ g, Pa' g → rb ≤ g ∧ ¬ Pb g ∧ ¬ P2 g ∧ g ≠ rt) := fun g hg => by
          rcases p12 g hg with h | h
          · exact HPA.out g h
          · have h1 := BA.out.plt rb BA.out.pb
            exact ⟨by omega, fun q => by have := BB.out.plt g q; omega, fun q => by have := BC.out.plt g q; omega, by have := RLT.out; omega⟩
        clear o12 a12 p12 t12 f12
        have q5 := padd BB12.out (by omega) y Y32.out (HL.out.nw N12.out) (HT.out.nw N12.out)
        rw [← HOJ.out] at q5
        go_wp2_with (refine wpl_load rfl (.tmp 99) rfl p (off + j * 32) rfl y Y32.out (HC.out _ N12.out) ?_)
        refine q5.mono ?_
        rintro e w13 ⟨ua, uc, vb', Pb', rfl, o13, a13, p13, t13, f13⟩
        clear q5
        have N13 : Hid (Nw w w13) := N12.out.trans f13 (fun q hq e => by have := (HPB.out q e).1; have := HRB.out; omega)
        have A13 : Hid (Bp w13 Pa' rb va' (s + 1) (addL s M y)) := A12.out.fr f13 (fun g hg q => (HPA12.out g hg).2.1 q)
        have BB13 : Hid (Bp w13 Pb' b1 vb' (s + 1) (addL s M y)) := a13
        have BC13 : Hid (Bp w13 P2 b2 v2 k L) := BC12.out.fr f13 (fun g hg q => (HPB.out g q).2.1 hg)
        have JR13 : Hid (w13.heap[rt]? = some (.cells (hbs F) 32 (0, 0))) := (f13.block _ (heap_lt JR12.out) (fun q => (HPB.out rt q).2.2 rfl)).trans JR12.out
        have X13 : Hid (Nds w13 (.slice ta (oj + 1) tc) (nds s M y (oj + 1))) := Nds.of M64.out (by rw [nds_len]; exact ownsRow_keep O12.out (fun g hg => f13.block g (O12.out.lt g hg).2 (fun q => by have := BB.out.plt g q; have := (O12.out.lt g hg).1; omega)))
        have Y13 : Hid (Nds w13 (.slice ua (oj + 1) uc) (nds s M y (oj + 1))) := Nds.of M64.out (by rw [nds_len]; exact o13)
        have HPB13 : Hid (∀ g, Pb' g → rb ≤ g ∧ ¬ P2 g ∧ g ≠ rt ∧ ¬ Pa' g) := fun g hg => by
          rcases p13 g hg with h | h
          · have h1 := HPB.out g h
            exact ⟨h1.1, h1.2.1, h1.2.2, fun q => (HPA12.out g q).2.1 h⟩
          · have h1 := A12.out.plt rb A12.out.pb
            exact ⟨by omega, fun q => by have := BC12.out.plt g q; omega, by have := heap_lt JR12.out; omega, fun q => by have := A12.out.plt g q; omega⟩
        have R32 : Hid ((fde (addL s M y)).length = 32) := fde_32 _ A13.out.ok
        obtain ⟨R, hR⟩ : ∃ R, R = fde (addL s M y) := ⟨_, rfl⟩
        have QRA : Hid (∀ V, Nw w13 V → Calls Tryd.prog 20 #[.pointer (some ⟨rb, 0, none⟩)] V fun e w' => e = .returned (.agg (hbs R)) ∧ Nw V w') := fun V nV => by rw [hR]; exact proot (A13.out.nw nV) (HL.out.nw (N13.out.tr nV))
        have QRB : Hid (∀ V, Nw w13 V → Calls Tryd.prog 20 #[.pointer (some ⟨b1, 0, none⟩)] V fun e w' => e = .returned (.agg (hbs R)) ∧ Nw V w') := fun V nV => by rw [hR]; exact proot (BB13.out.nw nV) (HL.out.nw (N13.out.tr nV))
        rw [← hR] at R32
        clear o13 a13 p13 t13 f13 hR
        go_wp2_with fail
        refine (samen_yes _ _ _ M64.out _ X13.out Y13.out (by rw [nds_len]; omega)).mono ?_
        rintro e w14 ⟨rfl, n14⟩
        have NN : Hid (Nw w13 w14) := n14
        clear n14
        go_wp2_with fail
        refine (QRA.out _ NN.out).mono ?_
        rintro e w15 ⟨rfl, n15⟩
        have NN : Hid (Nw w13 w15) := NN.out.tr n15
        clear n15
        go_wp2_with fail
        refine (QRB.out _ NN.out).mono ?_
        rintro e w16 ⟨rfl, n16⟩
        have NN : Hid (Nw w13 w16) := NN.out.tr n16
        clear n16
        go_wp2_with (refine wpl_neq rfl (.tmp 118) (.tmp 120) rfl R R32.out rfl rfl ?_)
        refine (psize (A13.out.nw NN.out)).mono ?_
        rintro e w17 ⟨rfl, n17⟩
        have NN : Hid (Nw w13 w17) := NN.out.tr n17
        clear n17
        go_wp2_with fail
        refine (psize (BB13.out.nw NN.out)).mono ?_
        rintro e w18 ⟨rfl, n18⟩
        have NN : Hid (Nw w13 w18) := NN.out.tr n18
        clear n18
        go_wp2
        have e1 : s + 1 = k + (j + 1) := by have := HSE.out; omega
        refine ⟨⟨j + 1, va', vb', _, Pa', Pb', by omega, by go_num, e1 ▸ A13.out.nw NN.out, e1 ▸ BB13.out.nw NN.out, BC13.out.nw NN.out, (NN.out.block _ (heap_lt JR13.out) (fun f => f)).trans JR13.out, fun g hg => ⟨(HPA12.out g hg).1, fun q => (HPB13.out g q).2.2.2 hg, (HPA12.out g hg).2.2⟩, fun g hg => ⟨(HPB13.out g hg).1, (HPB13.out g hg).2.1, (HPB13.out g hg).2.2.1⟩, N13.out.tr NN.out⟩, by simp [intOf]; omega⟩
      obtain rfl : j = m2 := by omega
      have hji : ¬ (j : Int) < (j : Int) := by omega
      have NWR : Hid (Nw w wr) := NWX.out
      obtain ⟨lm, hlm⟩ : ∃ q, q = M.length := ⟨_, rfl⟩
      have HLM : Hid (M.length = lm) := hlm.symm
      have hlb : lm ≤ 64 := by rw [hlm]; exact BA.out.len
      have LL32 : Hid (∀ x ∈ M, x.length = 32) := BA.out.ok
      have QHA : Hid (∀ V, Nw wr V → Calls Tryd.prog 19 #[.pointer (some ⟨rb, 0, none⟩)] V fun e w' => ∃ v', e = .returned v' ∧ w'.ownsRow V.heap.size 32 32 v' lm (hsc M) ∧ Nw V w') := fun V nV => by rw [hlm]; exact phashes (BA.out.nw nV)
      have QHB : Hid (∀ V, Nw wr V → Calls Tryd.prog 19 #[.pointer (some ⟨b1, 0, none⟩)] V fun e w' => ∃ v', e = .returned v' ∧ w'.ownsRow V.heap.size 32 32 v' lm (hsc M) ∧ Nw V w') := fun V nV => by rw [hlm]; exact phashes (BB.out.nw nV)
      have QRC : Hid (∀ V, Nw wr V → Calls Tryd.prog 20 #[.pointer (some ⟨b2, 0, none⟩)] V fun e w' => e = .returned (.agg (hbs F)) ∧ Nw V w') := fun V nV => by rw [HF.out]; exact proot (BC.out.nw nV) (HL.out.nw (NWX.out.tr nV))
      have QSC : Hid (∀ V, Nw wr V → Calls Tryd.prog 16 #[.pointer (some ⟨b2, 0, none⟩)] V fun e w' => e = .returned (.int .u64 (k : Int)) ∧ Nw V w') := fun V nV => psize (BC.out.nw nV)
      have hwk : IntKind.u64.wrap (k : Int) = (k : Int) := by rw [w64]; omega
      clear hlm
      go_upto_region 22 with fail
      have nb : Nw wr wr.drew := (Fr.refl _ _).drew
      refine wp_region_held_drew (S := fun V => Nw wr V) (by kernel_rfl) (nb) ?_
      intro hS0
      refine wpAnyH_take (i := 0) (oi := ({ dst := some 130, op := Op.move (Operand.tmp 5), type := 24, pos := "outright.go:105", after := #[], guard := none } : Oper)) (v := .pointer (some ⟨rb, 0, none⟩)) rfl (by kernel_rfl) (by kernel_rfl) (by kernel_rfl) (fun _ _ _ h => h) (Or.inl ⟨by rfl, by intro w hw; go_simp⟩) hS0 ?_
      try simp only [Act.put, List.setIfInBounds_toArray, List.set_cons_zero, List.set_cons_succ]
      refine wpAnyH_take (i := 2) (oi := ({ dst := some 132, op := Op.move (Operand.tmp 9), type := 24, pos := "outright.go:105", after := #[], guard := none } : Oper)) (v := .pointer (some ⟨b1, 0, none⟩)) rfl (by kernel_rfl) (by kernel_rfl) (by kernel_rfl) (fun _ _ _ h => h) (Or.inl ⟨by rfl, by intro w hw; go_simp⟩) hS0 ?_
      try simp only [Act.put, List.setIfInBounds_toArray, List.set_cons_zero, List.set_cons_succ]
      refine wpAnyH_ready (rs := [1]) (by kernel_rfl) (by simp) ?_
      refine (AllReadyH.cons (o := ({ dst := some 131, op := Op.call { callee := Callee.value (Operand.func 19), args := #[Operand.tmp 130], argTypes := #[24] }, type := 22, pos := "outright.go:105", after := #[{ on := 0, ground := Ground.data }], guard := none } : Oper)) rfl (fun K' hK => ?_) AllReadyH.nil)
      go_simp
      go_wp2_with (go_at_call 19; refine (QHA.out _ nb).mono ?_; rintro ex w101 ⟨hv, rfl, ho, nw101⟩)
      obtain ⟨ha1, hc1, rfl⟩ := ownsRow_form ho
      have HO1 : Hid (Hss w101 (.slice ha1 lm hc1) M) := Hss.of LL32.out (by rw [HLM.out]; exact ho)
      clear ho
      have nb := nb.tr nw101
      refine hK.out _ _ (nb) (fun hS0 => ?_)
      try simp only [Act.put, List.setIfInBounds_toArray, List.set_cons_zero, List.set_cons_succ]
      refine wpAnyH_ready (rs := [3]) (by kernel_rfl) (by simp) ?_
      refine (AllReadyH.cons (o := ({ dst := some 133, op := Op.call { callee := Callee.value (Operand.func 19), args := #[Operand.tmp 132], argTypes := #[24] }, type := 22, pos := "outright.go:105", after := #[{ on := 2, ground := Ground.data }, { on := 1, ground := Ground.chain }], guard := none } : Oper)) rfl (fun K' hK => ?_) AllReadyH.nil)
      go_simp
      go_wp2_with (go_at_call 19; refine (QHB.out _ nb).mono ?_; rintro ex w102 ⟨hv, rfl, ho, nw102⟩)
      obtain ⟨ha2, hc2, rfl⟩ := ownsRow_form ho
      have HO2 : Hid (Hss w102 (.slice ha2 lm hc2) M) := Hss.of LL32.out (by rw [HLM.out]; exact ho)
      clear ho
      have HO1 : Hid (Hss w102 (.slice ha1 lm hc1) M) := HO1.out.nw LL32.out nw102
      have nb := nb.tr nw102
      refine hK.out _ _ (nb) (fun hS0 => ?_)
      try simp only [Act.put, List.setIfInBounds_toArray, List.set_cons_zero, List.set_cons_succ]
      refine wpAnyH_ready (rs := [4]) (by kernel_rfl) (by simp) ?_
      refine (AllReadyH.cons (o := ({ dst := some 134, op := Op.call { callee := Callee.value (Operand.func 22), args := #[Operand.tmp 131, Operand.tmp 133], argTypes := #[22, 22] }, type := 4, pos := "outright.go:105", after := #[{ on := 1, ground := Ground.data }, { on := 3, ground := Ground.data }, { on := 3, ground := Ground.chain }], guard := none } : Oper)) rfl (fun K' hK => ?_) AllReadyH.nil)
      go_simp
      go_wp2_with (go_at_call 22; refine (sameh_yes _ _ M LL32.out _ HO1.out HO2.out (by rw [HLM.out]; omega)).mono ?_; rintro ex w103 ⟨rfl, nw103⟩)
      have nb := nb.tr nw103
      refine hK.out _ _ (nb) (fun hS0 => ?_)
      try simp only [Act.put, List.setIfInBounds_toArray, List.set_cons_zero, List.set_cons_succ]
      refine wpAnyH_take (i := 5) (oi := ({ dst := some 135, op := Op.move (Operand.tmp 134), type := 4, pos := "outright.go:105", after := #[{ on := 4, ground := Ground.data }, { on := 4, ground := Ground.chain }], guard := none } : Oper)) (v := .bool true) rfl (by kernel_rfl) (by kernel_rfl) (by kernel_rfl) (fun _ _ _ h => h) (Or.inl ⟨by rfl, by intro w hw; go_simp⟩) hS0 ?_
      try simp only [Act.put, List.setIfInBounds_toArray, List.set_cons_zero, List.set_cons_succ]
      refine wpAnyH_take (i := 6) (oi := ({ dst := some 136, op := Op.move (Operand.tmp 11), type := 24, pos := "outright.go:105", after := #[{ on := 5, ground := Ground.guard }], guard := some (5, true) } : Oper)) (v := .pointer (some ⟨b2, 0, none⟩)) rfl (by kernel_rfl) (by kernel_rfl) (by kernel_rfl) (fun _ _ _ h => h) (Or.inl ⟨by rfl, by intro w hw; go_simp⟩) hS0 ?_
      try simp only [Act.put, List.setIfInBounds_toArray, List.set_cons_zero, List.set_cons_succ]
      refine wpAnyH_take (i := 8) (oi := ({ dst := some 138, op := Op.load 32 (Operand.tmp 13), type := 32, pos := "outright.go:105", after := #[{ on := 5, ground := Ground.guard }], guard := some (5, true) } : Oper)) (v := .agg (hbs F)) rfl (by kernel_rfl) (by kernel_rfl) (by kernel_rfl) (fun _ _ _ h => h) (yieldsL (by rfl) (.tmp 13) 32 32 rfl Tryd.isAgg32 Tryd.sizeOf32 rt 0 rfl (hbs F) hFs (fun w hw => hash_cells ((hw.block _ (heap_lt JR.out) (fun f => f)).trans JR.out))) hS0 ?_
      try simp only [Act.put, List.setIfInBounds_toArray, List.set_cons_zero, List.set_cons_succ]
      refine wpAnyH_ready (rs := [7]) (by kernel_rfl) (by simp) ?_
      refine (AllReadyH.cons (o := ({ dst := some 137, op := Op.call { callee := Callee.value (Operand.func 20), args := #[Operand.tmp 136], argTypes := #[24] }, type := 32, pos := "outright.go:105", after := #[{ on := 6, ground := Ground.data }, { on := 5, ground := Ground.chain }, { on := 5, ground := Ground.guard }], guard := some (5, true) } : Oper)) rfl (fun K' hK => ?_) AllReadyH.nil)
      go_simp
      go_wp2_with (go_at_call 20; refine (QRC.out _ nb).mono ?_; rintro ex w104 ⟨rfl, nw104⟩)
      have nb := nb.tr nw104
      refine hK.out _ _ (nb) (fun hS0 => ?_)
      try simp only [Act.put, List.setIfInBounds_toArray, List.set_cons_zero, List.set_cons_succ]
      refine wpAnyH_take (i := 9) (oi := ({ dst := some 139, op := Op.binOp BinOp.eql 32 (Operand.tmp 137) (Operand.tmp 138) 32, type := 4, pos := "outright.go:105", after := #[{ on := 7, ground := Ground.data }, { on := 8, ground := Ground.data }, { on := 5, ground := Ground.guard }], guard := some (5, true) } : Oper)) (v := .bool true) rfl (by kernel_rfl) (by kernel_rfl) (by kernel_rfl) (fun _ _ _ h => h) (yieldsEq (by rfl) (.tmp 137) (.tmp 138) rfl F F32.out rfl rfl) hS0 ?_
      try simp only [Act.put, List.setIfInBounds_toArray, List.set_cons_zero, List.set_cons_succ]
      refine wpAnyH_take (i := 10) (oi := ({ dst := some 140, op := Op.pick (Operand.tmp 135) (Operand.tmp 139) (Operand.const (Value.bool false)), type := 4, pos := "outright.go:105", after := #[{ on := 5, ground := Ground.data }, { on := 9, ground := Ground.data }], guard := none } : Oper)) (v := .bool true) rfl (by kernel_rfl) (by kernel_rfl) (by kernel_rfl) (fun _ _ _ h => h) (Or.inl ⟨by rfl, by intro w hw; go_simp⟩) hS0 ?_
      try simp only [Act.put, List.setIfInBounds_toArray, List.set_cons_zero, List.set_cons_succ]
      refine wpAnyH_take (i := 11) (oi := ({ dst := some 141, op := Op.move (Operand.tmp 140), type := 4, pos := "outright.go:105", after := #[{ on := 10, ground := Ground.data }, { on := 7, ground := Ground.chain }], guard := none } : Oper)) (v := .bool true) rfl (by kernel_rfl) (by kernel_rfl) (by kernel_rfl) (fun _ _ _ h => h) (Or.inl ⟨by rfl, by intro w hw; go_simp⟩) hS0 ?_
      try simp only [Act.put, List.setIfInBounds_toArray, List.set_cons_zero, List.set_cons_succ]
      refine wpAnyH_take (i := 12) (oi := ({ dst := some 142, op := Op.move (Operand.tmp 11), type := 24, pos := "outright.go:105", after := #[{ on := 11, ground := Ground.guard }], guard := some (11, true) } : Oper)) (v := .pointer (some ⟨b2, 0, none⟩)) rfl (by kernel_rfl) (by kernel_rfl) (by kernel_rfl) (fun _ _ _ h => h) (Or.inl ⟨by rfl, by intro w hw; go_simp⟩) hS0 ?_
      try simp only [Act.put, List.setIfInBounds_toArray, List.set_cons_zero, List.set_cons_succ]
      refine wpAnyH_take (i := 14) (oi := ({ dst := some 144, op := Op.move (Operand.tmp 0), type := 22, pos := "outright.go:105", after := #[{ on := 11, ground := Ground.guard }], guard := some (11, true) } : Oper)) (v := .slice ad k c) rfl (by kernel_rfl) (by kernel_rfl) (by kernel_rfl) (fun _ _ _ h => h) (Or.inl ⟨by rfl, by intro w hw; go_simp⟩) hS0 ?_
      try simp only [Act.put, List.setIfInBounds_toArray, List.set_cons_zero, List.set_cons_succ]
      refine wpAnyH_take (i := 15) (oi := ({ dst := some 145, op := Op.call { callee := Callee.builtin Builtin.len, args := #[Operand.tmp 144], argTypes := #[22] }, type := 3, pos := "outright.go:105", after := #[{ on := 14, ground := Ground.data }, { on := 11, ground := Ground.guard }], guard := some (11, true) } : Oper)) (v := .int .i64 (k : Int)) rfl (by kernel_rfl) (by kernel_rfl) (by kernel_rfl) (fun _ _ _ h => h) (Or.inl ⟨by rfl, by intro w hw; go_simp⟩) hS0 ?_
      try simp only [Act.put, List.setIfInBounds_toArray, List.set_cons_zero, List.set_cons_succ]
      refine wpAnyH_take (i := 16) (oi := ({ dst := some 146, op := Op.convert 3 34 (Operand.tmp 145), type := 34, pos := "outright.go:105", after := #[{ on := 15, ground := Ground.data }, { on := 11, ground := Ground.guard }], guard := some (11, true) } : Oper)) (v := .int .u64 (k : Int)) rfl (by kernel_rfl) (by kernel_rfl) (by kernel_rfl) (fun _ _ _ h => h) (Or.inl ⟨by rfl, by intro w hw; go_simp⟩) hS0 ?_
      try simp only [Act.put, List.setIfInBounds_toArray, List.set_cons_zero, List.set_cons_succ]
      refine wpAnyH_ready (rs := [13]) (by kernel_rfl) (by simp) ?_
      refine (AllReadyH.cons (o := ({ dst := some 143, op := Op.call { callee := Callee.value (Operand.func 16), args := #[Operand.tmp 142], argTypes := #[24] }, type := 34, pos := "outright.go:105", after := #[{ on := 12, ground := Ground.data }, { on := 11, ground := Ground.chain }, { on := 11, ground := Ground.guard }], guard := some (11, true) } : Oper)) rfl (fun K' hK => ?_) AllReadyH.nil)
      go_simp
      go_wp2_with (go_at_call 16; refine (QSC.out _ nb).mono ?_; rintro ex w105 ⟨rfl, nw105⟩)
      have nb := nb.tr nw105
      refine hK.out _ _ (nb) (fun hS0 => ?_)
      try simp only [Act.put, List.setIfInBounds_toArray, List.set_cons_zero, List.set_cons_succ]
      refine wpAnyH_take (i := 17) (oi := ({ dst := some 147, op := Op.binOp BinOp.eql 34 (Operand.tmp 143) (Operand.tmp 146) 34, type := 4, pos := "outright.go:105", after := #[{ on := 13, ground := Ground.data }, { on := 16, ground := Ground.data }, { on := 11, ground := Ground.guard }], guard := some (11, true) } : Oper)) (v := .bool true) rfl (by kernel_rfl) (by kernel_rfl) (by kernel_rfl) (fun _ _ _ h => h) (Or.inl ⟨by rfl, by intro w hw; go_simp⟩) hS0 ?_
      try simp only [Act.put, List.setIfInBounds_toArray, List.set_cons_zero, List.set_cons_succ]
      refine wpAnyH_take (i := 18) (oi := ({ dst := some 148, op := Op.pick (Operand.tmp 141) (Operand.tmp 147) (Operand.const (Value.bool false)), type := 4, pos := "outright.go:105", after := #[{ on := 11, ground := Ground.data }, { on := 17, ground := Ground.data }], guard := none } : Oper)) (v := .bool true) rfl (by kernel_rfl) (by kernel_rfl) (by kernel_rfl) (fun _ _ _ h => h) (Or.inl ⟨by rfl, by intro w hw; go_simp⟩) hS0 ?_
      try simp only [Act.put, List.setIfInBounds_toArray, List.set_cons_zero, List.set_cons_succ]
      refine wpAnyH_ready (rs := [19]) (by kernel_rfl) (by simp) ?_
      refine (AllReadyH.cons (o := ({ dst := some 4, op := Op.assign (Operand.tmp 148), type := 4, pos := "outright.go:105", after := #[{ on := 18, ground := Ground.data }, { on := 13, ground := Ground.chain }, { on := 0, ground := Ground.phase }, { on := 1, ground := Ground.phase }, { on := 2, ground := Ground.phase }, { on := 3, ground := Ground.phase }, { on := 4, ground := Ground.phase }, { on := 5, ground := Ground.phase }, { on := 6, ground := Ground.phase }, { on := 7, ground := Ground.phase }, { on := 8, ground := Ground.phase }, { on := 9, ground := Ground.phase }, { on := 10, ground := Ground.phase }, { on := 11, ground := Ground.phase }, { on := 12, ground := Ground.phase }, { on := 13, ground := Ground.phase }, { on := 14, ground := Ground.phase }, { on := 15, ground := Ground.phase }, { on := 16, ground := Ground.phase }, { on := 17, ground := Ground.phase }, { on := 18, ground := Ground.phase }], guard := none } : Oper)) rfl (fun K' hK => ?_) AllReadyH.nil)
      go_simp
      refine hK.out _ _ (nb) (fun hS0 => ?_)
      try simp only [Act.put, List.setIfInBounds_toArray, List.set_cons_zero, List.set_cons_succ]
      refine wpAnyH_done (by kernel_rfl) ?_ _
      go_wp2
      go_ret
      exact ⟨rfl, NWR.out.tr nb⟩
theorem goes10_v (A : List (List UInt8)) (hA32 : ∀ x ∈ A, x.length = 32) (v : Value) (hAl : A.length < 4611686018427387904) (B : List (List UInt8)) (hB32 : ∀ x ∈ B, x.length = 32) (u : Value) (hBl : B.length < 4611686018427387904) (w : World) (hsA : Hss w v A) (hsB : Hss w u B) (hL : Laid w) (hT : TabAt w) {B0 : Nat} {a : Nat → Addr} (hS : Sent B0 w a) :
    Calls Tryd.prog 4 #[v, u] w fun e w' => e = .returned (.bool true) ∧ Nw w w' := by
  obtain ⟨ad, c, rfl⟩ := hsA.form
  obtain ⟨bd, d, rfl⟩ := hsB.form
  exact goes10_any A hA32 ad c hAl B hB32 bd d hBl w hsA hsB hL hT hS
end Go.Proofs.YtlcheobdkkiffaaDoor
