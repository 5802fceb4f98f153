/- CompactRoot: the walk. -/
import Derived.Test.YthbimomhbeoieaaDoorX22
namespace Go.Proofs.YthbimomhbeoieaaDoor
open Go.RowKit Go.Shelf
set_option linter.unusedVariables false
set_option linter.unusedSimpArgs false
theorem Hrs.at {w : World} {ad : Option Addr} {L : List (List UInt8)} (h : Hrs w ad L) (hne : L ≠ []) : ∃ g o, ad = some ⟨g, o, none⟩ := by
  cases L with
  | nil => exact absurd rfl hne
  | cons x r => obtain ⟨g, o, e, _⟩ := h 0 x rfl; exact ⟨g, o, e⟩
theorem row_in : ∀ (l : List (Nat × Nat)) (a c : Nat), Row a c l → ∀ t ∈ l, (t.2 + 1) * 2 ^ t.1 ≤ c
  | [], a, c, _, t, ht => by simp at ht
  | x :: r, a, c, h, t, ht => by
    rcases List.mem_cons.1 ht with rfl | ht
    · have := row_le r _ c h.2
      rw [Nat.succ_mul, h.1]; exact this
    · exact row_in r _ c h.2 t ht
theorem noagg64 (W : World) : (isAgg 22).run Tryd.prog W = .ok false W := by kernel_rfl
section
variable {w : World} {o : Oper} {a : Act} {K : Act → Prop}
theorem quiet_cellx {t : TypeId} (x : Operand) (ho : o.op = .load t x) (g off : Nat) (hx : a.eval x = .pointer (some ⟨g, off, none⟩)) (ht : ∀ W, (isAgg t).run Tryd.prog W = .ok false W) (v : Value) (hc : w.cell? ⟨g, off, none⟩ = some v) (hk : K (a.put o.dst v)) : o.quiet Tryd.prog a (fun w' => ∃ x : Grw w, w' = x.val) K := by
  refine ⟨v, ?_, hk⟩
  rintro W ⟨y, rfl⟩
  have h1 := y.cell hc
  unfold Oper.quietAt execOp
  simp only [ho, hx, Instr.loadAt, sure, loadVar, Sem.run_bind, Sem.run_pure, Sem.run_ite, ht, Result.andThen_ok, run_load, h1, if_false, Bool.false_eq_true]
  exact ⟨rfl, rfl⟩
end
theorem Hss.cell {w : World} {g n c : Nat} {L : List (List UInt8)} (h : Hss w (.slice (some ⟨g, 0, none⟩) n c) L) {k : Nat} {x : List UInt8} (hk : L[k]? = some x) : ∀ j, j < 32 → w.cell? ⟨g, 0 + k * 32 + j, none⟩ = (hbs x)[j]? := by
  obtain ⟨ad', cap', z1, z2⟩ := h
  simp only [Value.slice.injEq] at z1
  obtain ⟨g', o', z3, z4⟩ := z2 k x hk
  rw [z3] at z1
  simp only [Option.some.injEq, Addr.mk.injEq, and_true] at z1
  obtain ⟨⟨e1, e2⟩, _⟩ := z1
  rw [e1, e2]
  exact z4
/-- Root of the first leaves. -/
theorem rroot_mth {w : World} {b base : Nat} {v : Value} {k : Nat} {L : List (List UInt8)} (h : Rg w b base v 0 k (apt 0 L)) (hk : L.length = k) (h32 : ∀ x ∈ L, x.length = 32) (hb : k ≤ 1000000) (hL : Laid w) :
    Calls Tryd.prog 11 #[.pointer (some ⟨b, 0, none⟩)] w fun e w' => e = .returned (.tuple #[.agg (hbs (mhh L)), .nilIface]) ∧ Nw w w' := by
  by_cases h0 : k = 0
  · obtain rfl : L = [] := List.length_eq_zero_iff.1 (by omega)
    rw [mhh_nil]
    exact rroot_empty h hL
  · have ho := apt_ok 0 _ L rfl h32 (by omega)
    have hc := ho.2.cov
    have hlen := ho.2.len (by omega)
    have hne : apt 0 L ≠ [] := by
      intro e
      rw [e] at hc
      rw [cov_step (lev_is (show 0 < 0 + L.length by omega))] at hc
      simp [ats] at hc
    have q := rroot_some h hne (by omega) hL
    obtain ⟨f, hf⟩ : ∃ f : Nat → List UInt8, f = fun i => L.getD i [] := ⟨_, rfl⟩
    have hfi : ∀ i x, L[i]? = some x → f i = x := fun i x hx => by rw [hf]; simp [List.getD_eq_getElem?_getD, hx]
    have hg := apt_gd f 0 _ L rfl h32 (by omega) (fun i x hx => by rw [Nat.zero_add]; exact hfi i x hx)
    have hfo := fold_gd f (apt 0 L) 0 (0 + L.length) 64 (Nat.dvd_zero _) (by omega) hc hg hne
    rw [hfo] at q
    have : sth f 0 (0 + L.length - 0) = mhh L := by
      unfold sth
      rw [← lvs_eq L f hfi 0 (0 + L.length) (by omega)]
      simp
    rw [this] at q
    exact q
set_option maxRecDepth 100000 in
set_option maxHeartbeats 8000000 in
theorem root9_any (L : List (List UInt8)) (h32 : ∀ x ∈ L, x.length = 32) (ad : Option Addr) (cap : Nat) (hcap : L.length ≤ cap) (hll : L.length < 4611686018427387904) (w : World) (hH : Hrs w ad L) (hL : Laid w) (hT : TabAt w) :
    Calls Tryd.prog 4 #[.slice ad L.length cap] w fun e w' => e = .returned (.bool true) ∧ Nw w w' := by
  have HH : Hid (Hrs w ad L) := hH
  have H32 : Hid (∀ x ∈ L, x.length = 32) := h32
  have HL : Hid (Laid w) := hL
  have HT : Hid (TabAt w) := hT
  have QA : Hid (∀ V, Nw w V → Calls Tryd.prog 15 #[] V fun e w' => e = .returned (.bool true) ∧ Nw V w') := fun V nV => alive9_any V (HL.out.nw nV)
  obtain ⟨m, hm⟩ : ∃ m, m = L.length := ⟨_, rfl⟩
  have HM : Hid (L.length = m) := hm.symm
  rw [← hm] at hll hcap ⊢
  clear hH h32 hL hT hm
  by_cases h300 : 300 < m
  · have hi : (300 : Int) < (m : Int) := by omega
    go_enter Tryd.func4, Tryd.ntmps4
    go_wp2_with fail
    refine (QA.out _ (nwr w)).mono ?_
    rintro e w1 ⟨rfl, n1⟩
    go_wp2
    go_ret
    exact ⟨rfl, n1⟩
  · have hi : ¬ (300 : Int) < (m : Int) := by omega
    have hm300 : m ≤ 300 := by omega
    have HCAP : Hid (m ≤ cap) := hcap
    have hee : ∀ W : World, (binOp .neq 34 .nilIface .nilIface).run Tryd.prog W = .ok (.bool false) W := fun W => by kernel_rfl
    have q0 := rnew_any 0 (by decide) w HL.out
    clear h300 hcap hll
    go_enter Tryd.func4, Tryd.ntmps4
    go_wp2_with fail
    refine q0.mono ?_
    rintro e w1 ⟨rfl, g1, s1, n1⟩
    obtain ⟨rb, hrb⟩ : ∃ rb, rb = w.heap.size := ⟨_, rfl⟩
    rw [← hrb] at g1 s1 ⊢
    have HRB : Hid (rb = w.heap.size) := hrb
    have G1 : Hid (Rg w1 rb (rb + 1) (.slice none 0 0) 0 0 []) := g1
    have N1 : Hid (Nw w w1) := n1
    clear hrb s1 g1 n1 q0 hi
    go_wp2_with fail
    go_loopw [4] (fun i wr => ∃ (k q : Nat) (v : Value), k ≤ m + 1 ∧ q = min k m ∧ i = .int .i64 (k : Int) ∧ Rg wr rb (rb + 1) v 0 q (apt 0 (L.take q)) ∧ Nw w wr) (fun i _ => m + 1 - (intOf i).toNat)
    case atStart => exact ⟨0, 0, _, by omega, by omega, rfl, G1.out, N1.out⟩
    case round =>
      obtain ⟨k, q, v, hk, hq, rfl, hR, hW⟩ := hrel
      have HW : Hid (Nw w wr) := hW
      have hlq : (L.take q).length = q := by rw [List.length_take]; have := HM.out; omega
      have HLQ : Hid ((L.take q).length = q) := hlq
      have T32 : Hid (∀ x ∈ L.take q, x.length = 32) := fun x hx => H32.out x (List.mem_of_mem_take hx)
      by_cases hlt : k ≤ m
      · obtain rfl : q = k := by omega
        have HR : Hid (Rg wr rb (rb + 1) v 0 q (apt 0 (L.take q))) := hR
        have q1 := rroot_mth hR hlq T32.out (by omega) (HL.out.nw hW)
        have R32 : Hid ((mhh (L.take q)).length = 32) := mhh_len _ T32.out
        obtain ⟨R, hRe⟩ : ∃ R, R = mhh (L.take q) := ⟨_, rfl⟩
        rw [← hRe] at q1 R32
        have hRs : (hbs R).size = 32 := by rw [hbs_size, R32.out]
        have HRE : Hid (R = mhh (L.take q)) := hRe
        have hki : (q : Int) ≤ (m : Int) := by omega
        have hkc : q ≤ cap := by have := HCAP.out; omega
        have QM : Hid (∀ V, Nw w V → Calls Tryd.prog 16 #[.slice ad q cap] V fun e w' => e = .returned (.agg (hbs R)) ∧ Nw V w') := fun V nV => by
          have qm := mth9_any _ (L.take q) ad cap V (Nat.le_refl _) (by rw [HLQ.out]; omega) T32.out (by rw [HLQ.out]; exact hkc) (fun i x hx => (HH.out.nw H32.out nV) i x (by
            have hk2 := (List.getElem?_eq_some_iff.1 hx).1
            rw [List.length_take] at hk2
            rw [List.getElem?_take, if_pos (by omega)] at hx
            exact hx)) (HL.out.nw nV)
          rw [HLQ.out, ← HRE.out] at qm
          exact qm
        clear hR hW hRe hlq hq hk
        go_wp2_with fail
        refine q1.mono ?_
        rintro e w2 ⟨rfl, n2⟩
        have N2 : Hid (Nw wr w2) := n2
        clear q1 n2
        go_wp2_with (refine wp_store_agg rfl (.tmp 5) (.tmp 29) 24 32 rfl Tryd.sizeOf24 w2.heap.size 0 rfl _ 24 (heap_new _ _) (hbs R) rfl hRs (hbs_one _) (by decide) (hbs R) (by simp) ?_; intro w3 j3 f3 zz; clear zz; have N3 : Hid (Nw wr w3) := (N2.out.alloc _).trans f3 (fun k hk q => by have := N2.out.size; omega); have J3 : Hid (w3.heap[w2.heap.size]? = some (.cells (hbs R) 24 (0, 0))) := j3; clear j3 f3)
        obtain ⟨b5, hb5⟩ : ∃ b5, b5 = w2.heap.size := ⟨_, rfl⟩
        rw [← hb5] at J3 ⊢
        clear hb5
        have N3w : Hid (Nw w w3) := HW.out.tr N3.out
        (refine wp_region_grown (by kernel_rfl) (by kernel_rfl) ?_; (repeat (first | go_big_quiet_skip | (go_big_quiet_want; first | (refine quiet_load (.tmp 5) rfl b5 0 rfl R R32.out (hash_cells J3.out) ?_; ((try simp only [Act.put, List.setIfInBounds_toArray, List.set_cons_zero, List.set_cons_succ]); go_big_quiet_on)) | (refine quiet_neq (.tmp 34) (.tmp 38) rfl R R32.out rfl rfl ?_; ((try simp only [Act.put, List.setIfInBounds_toArray, List.set_cons_zero, List.set_cons_succ]); go_big_quiet_on)) | (go_big_quiet_op; first | go_big_quiet_on | go_big_quiet_call (first | rfl | with_reducible exact grw_call QM.out N3w.out _))))); refine wpQuiet_nil ?_; rintro W ⟨⟨_, nW⟩, rfl⟩)
        have NWW : Hid (Nw wr W) := N3.out.tr nW
        have RW : Hid (Rg W rb (rb + 1) v 0 q (apt 0 (L.take q))) := HR.out.nw NWW.out
        clear nW J3 N3 N3w N2 QM HRE
        by_cases hlt2 : q < m
        · obtain ⟨h, hh⟩ : ∃ h, L[q]? = some h := ⟨_, List.getElem?_eq_getElem (by have := HM.out; omega)⟩
          have H3 : Hid (h.length = 32) := H32.out h (List.mem_of_getElem? hh)
          obtain ⟨hg, hoff, hade, hcs⟩ := (HH.out.nw H32.out (HW.out.tr NWW.out)) q h hh
          subst hade
          have HCS : Hid (∀ j, j < 32 → W.cell? ⟨hg, hoff + q * 32 + j, none⟩ = (hbs h)[j]?) := hcs
          have hap : apt 0 (L.take (q + 1)) = psh (apt 0 (L.take q)) ⟨0, 0 + q, h⟩ := by
            have e : L.take (q + 1) = L.take q ++ [h] := by rw [List.take_add_one, hh]; rfl
            rw [e, apt_snoc, HLQ.out]
          rw [Nat.zero_add] at hap
          have HAP : Hid (apt 0 (L.take (q + 1)) = psh (apt 0 (L.take q)) ⟨0, q, h⟩) := hap
          have hle : (apt 0 (L.take q)).length ≤ 1000000 := Nat.le_trans (apt_len 0 (L.take q) T32.out (by rw [HLQ.out]; omega)) (by decide)
          have q3 := rappend_yes RW.out (by omega) h H3.out hle (HL.out.nw (HW.out.tr NWW.out))
          have hqi : (q : Int) < (m : Int) := by omega
          clear hcs hap hle hh
          go_wp2_with (refine wpl_load rfl (.tmp 49) rfl hg (hoff + q * 32) rfl h H3.out HCS.out ?_)
          refine q3.mono ?_
          rintro e w4 ⟨rfl, v4, R4, S4, F4⟩
          rw [← HAP.out] at R4
          have R4' : Hid (Rg w4 rb (rb + 1) v4 0 (q + 1) (apt 0 (L.take (q + 1)))) := R4
          have N4 : Hid (Nw w w4) := (HW.out.tr NWW.out).trans F4 (fun j hj z => by
            have h1 := HRB.out
            rcases z with z | z
            · omega
            · have := (RW.out.own.lt j z).1; omega)
          clear q3 R4 S4 F4
          go_wp2_with fail
          exact ⟨⟨q + 1, q + 1, _, by omega, by omega, by go_num, R4'.out, N4.out⟩, by simp [intOf]; omega⟩
        · have hqi : ¬ (q : Int) < (m : Int) := by omega
          have HQM : Hid (q = m) := by show q = m; omega
          go_wp2_with fail
          exact ⟨⟨q + 1, q, _, by omega, by have := HQM.out; omega, by go_num, RW.out, HW.out.tr NWW.out⟩, by simp [intOf]; omega⟩
      · obtain rfl : q = m := by omega
        have hki : ¬ (k : Int) ≤ (q : Int) := by omega
        have hap : apt 0 (L.take q) = apt 0 L := by rw [List.take_of_length_le (Nat.le_of_eq HM.out)]
        rw [hap] at hR
        have HR : Hid (Rg wr rb (rb + 1) v 0 q (apt 0 L)) := hR
        have ho := apt_ok 0 _ L rfl H32.out (by rw [HM.out]; omega)
        have hcv := ho.2.cov
        have hln := ho.2.len (by rw [HM.out]; omega)
        rw [Nat.zero_add, HM.out] at hcv
        obtain ⟨T, hTe⟩ : ∃ T, T = apt 0 L := ⟨_, rfl⟩
        rw [← hTe] at HR hcv hln
        have HCV : Hid (ats T = cov 0 q) := hcv
        have TOK : Hid (∀ t ∈ T, t.ok) := HR.out.ok
        have e0 : IntKind.u64.wrap (q : Int) = (q : Int) := by rw [w64]; omega
        have q1 := cover_yes 0 q (by omega) (by omega) wr (HT.out.nw hW)
        obtain ⟨f, hf⟩ : ∃ f : Nat → List UInt8, f = fun i => L.getD i [] := ⟨_, rfl⟩
        have hfi : ∀ i x, L[i]? = some x → f i = x := fun i x hx => by rw [hf]; simp [List.getD_eq_getElem?_getD, hx]
        have GD : Hid (Gd f T) := by
          have := apt_gd f 0 _ L rfl H32.out (by rw [HM.out]; omega) (fun i x hx => by rw [Nat.zero_add]; exact hfi i x hx)
          rw [hTe]; exact this
        have FI : Hid (∀ b e, e ≤ q → (L.take e).drop b = lvs f b (e - b)) := fun b e he => lvs_eq L f hfi b e (by rw [HM.out]; exact he)
        obtain ⟨C, hC⟩ : ∃ C, C = cov 0 q := ⟨_, rfl⟩
        rw [← hC] at HCV q1
        obtain ⟨n, hn⟩ : ∃ n, n = C.length := ⟨_, rfl⟩
        have HNC : Hid (C.length = n) := hn.symm
        have HNT : Hid (T.length = n) := by show T.length = n; rw [hn, ← HCV.out]; simp [ats]
        rw [← hn] at q1
        have hn128 : n ≤ 128 := by have := HNT.out; omega
        have RWC : Hid (Row 0 q C) := by rw [hC]; exact cov_side (by omega)
        clear hR hW hap ho hcv hln hTe hf hfi hC hn hlq hq hlt hk
        go_wp2_with fail
        refine q1.mono ?_
        rintro e w2 ⟨cv, rfl, oc, n2⟩
        obtain ⟨ca, cc, rfl⟩ := ownsRow_form oc
        have OC : Hid (w2.ownsRow wr.heap.size 52 2 (.slice ca n cc) n (fl C)) := oc
        have N2 : Hid (Nw wr w2) := n2
        clear q1 oc n2
        have q2 := rhashes_full (HR.out.nw N2.out) (by rw [HNT.out]; omega)
        rw [HNT.out] at q2
        go_wp2_with fail
        refine q2.mono ?_
        rintro e w3 ⟨hg, hc, rfl, o3, n3⟩
        have O3 : Hid (w3.ownsRow w2.heap.size 24 32 (.slice (some ⟨hg, 0, none⟩) n hc) n (hsc (hss T))) := o3
        have N3 : Hid (Nw w2 w3) := n3
        have NW3 : Hid (Nw w w3) := (HW.out.tr N2.out).tr n3
        clear q2 o3 n3
        go_wp2_with fail
        go_loopw [10] (fun i wx => ∃ k : Nat, k ≤ n ∧ i = .int .i64 (k : Int) ∧ Nw w3 wx) (fun i _ => n - (intOf i).toNat)
        case atStart => exact ⟨0, by omega, rfl, nwr _⟩
        case round =>
          obtain ⟨j, hj, rfl, hX⟩ := hrel
          have NX : Hid (Nw w3 wr) := hX
          by_cases hjn : j < n
          · obtain ⟨c, hc1⟩ : ∃ c, C[j]? = some c := ⟨_, List.getElem?_eq_getElem (by have := HNC.out; omega)⟩
            obtain ⟨t, ht⟩ : ∃ t, T[j]? = some t := ⟨_, List.getElem?_eq_getElem (by have := HNT.out; omega)⟩
            have hct : c = (t.L, t.I) := by
              have := hc1
              rw [← HCV.out] at this
              simp [ats, ht] at this
              exact this.symm
            have htm : t ∈ T := List.mem_of_getElem? ht
            have hgd := GD.out t htm
            have htok := TOK.out t htm
            have hend := row_in C 0 q RWC.out c (List.mem_of_getElem? hc1)
            obtain ⟨f1, f2⟩ := fl_get C j c hc1
            rw [hct] at f1 f2 hend
            simp only at f1 f2 hend
            have hownc := ownsRow_keep OC.out (fun g hg => (N3.out.tr NX.out).block g (OC.out.lt g hg).2 (fun f => f))
            obtain ⟨cg, hcg⟩ : ∃ cg, ca = some ⟨cg, 0, none⟩ := by
              rcases hownc.2 with ⟨_, z⟩ | ⟨g', _, _, z, _⟩
              · omega
              · cases z; exact ⟨_, rfl⟩
            subst hcg
            have k1 : wr.cell? ⟨cg, j * 2, none⟩ = some (.int .u8 (t.L : Int)) := by have := hownc.cells (g := cg) rfl _ _ f1; rwa [addZ] at this
            have k2 : wr.cell? ⟨cg, j * 2 + 1, none⟩ = some (.int .u64 (t.I : Int)) := by have := hownc.cells (g := cg) rfl _ _ f2; rwa [addZ] at this
            have hHs : Hss w3 (.slice (some ⟨hg, 0, none⟩) n hc) (hss T) := Hss.of (fun x hx => by
              simp only [hss, List.mem_map] at hx
              obtain ⟨u, hu, rfl⟩ := hx
              exact (TOK.out u hu).h32) (by rw [show (hss T).length = n by rw [← HNT.out]; simp [hss]]; exact O3.out)
            have HTH : Hid (t.H.length = 32) := htok.h32
            have z4 := hHs.cell (k := j) (x := t.H) (by simp [hss, ht])
            clear hHs
            have HCS : Hid (∀ i, i < 32 → wr.cell? ⟨hg, j * 32 + i, none⟩ = (hbs t.H)[i]?) := fun i hi => by
              have hs : i < (hbs t.H).size := by rw [hbs_size, HTH.out]; exact hi
              have h5 : (hbs t.H)[i]? = some (hbs t.H)[i] := Array.getElem?_eq_getElem hs
              have := z4 i hi
              rw [h5] at this ⊢
              have := NX.out.cellOf this
              rwa [Nat.zero_add] at this
            have q5 := span_yes t.L t.I htok.may wr
            obtain ⟨b, hb⟩ : ∃ b, b = t.I * 2 ^ t.L := ⟨_, rfl⟩
            obtain ⟨e, he⟩ : ∃ e, e = (t.I + 1) * 2 ^ t.L := ⟨_, rfl⟩
            have heb : e = b + 2 ^ t.L := by rw [he, hb, Nat.succ_mul]
            have hpos := Nat.two_pow_pos t.L
            rw [← hb, ← he] at q5
            rw [← hb] at hgd
            rw [← he] at hend
            have hadn : L ≠ [] := by
              intro z
              have := HM.out
              rw [z] at this
              simp at this
              omega
            obtain ⟨g, o, hade⟩ := HH.out.at hadn
            subst hade
            have hmt : mhh ((L.take e).drop b) = t.H := by rw [FI.out b e hend, hgd, show e - b = 2 ^ t.L by omega]; rfl
            have HMT : Hid (mhh ((L.take e).drop b) = t.H) := hmt
            have HLE : Hid (((L.take e).drop b).length = e - b) := by show _ = _; rw [List.length_drop, List.length_take]; have := HM.out; omega
            have HBE : Hid (b < e ∧ e ≤ q) := ⟨by omega, hend⟩
            have QM : Hid (∀ V, Nw w V → Calls Tryd.prog 16 #[.slice (some ⟨g, o + b * 32, none⟩) (e - b) (cap - b)] V fun x w' => x = .returned (.agg (hbs t.H)) ∧ Nw V w') := fun V nV => by
              have h32d : ∀ x ∈ (L.take e).drop b, x.length = 32 := fun x hx => H32.out x (List.mem_of_mem_take (List.mem_of_mem_drop hx))
              have qm := mth9_any _ ((L.take e).drop b) (some ⟨g, o + b * 32, none⟩) (cap - b) V (Nat.le_refl _) (by rw [HLE.out]; omega) h32d (by rw [HLE.out]; have := HCAP.out; have := HBE.out; omega) ((((HH.out.nw H32.out nV).halves e).1).halves b).2 (HL.out.nw nV)
              rw [HLE.out, HMT.out] at qm
              exact qm
            have hji : (j : Int) < (n : Int) := by omega
            have hb1 : b ≤ e := by omega
            have hb2 : e ≤ cap := by have := HCAP.out; omega
            have hb3 : ¬ cap = b := by have := HCAP.out; omega
            have hEB : Hid (b < 9223372036854775808 ∧ e < 9223372036854775808) := ⟨by omega, by omega⟩
            clear f1 f2 hownc hc1 ht hct htm hgd htok hend z4 hb he heb hpos hadn hmt hX
            go_wp2_with fail
            refine q5.mono ?_
            rintro x w4 ⟨rfl, n4⟩
            have N4 : Hid (Nw wr w4) := n4
            clear q5 n4 k1 k2
            go_upto_region 22 with fail
            obtain ⟨w5, hw5⟩ : ∃ z, w4.alloc (.cells #[.int .u64 (b : Int), .int .u64 (e : Int)] 27) = z := ⟨_, rfl⟩
            have N5 : Hid (Nw wr w5) := by show Nw _ _; rw [← hw5]; exact N4.out.alloc _
            have b5 : w5.heap[w4.heap.size]? = some (.cells #[.int .u64 (b : Int), .int .u64 (e : Int)] 27) := by rw [← hw5]; exact heap_new _ _
            rw [hw5]
            obtain ⟨sb, hsb⟩ : ∃ z, z = w4.heap.size := ⟨_, rfl⟩
            rw [← hsb] at b5 ⊢
            have c0 : w5.cell? ⟨sb, 0, none⟩ = some (.int .u64 (b : Int)) := (cell_of b5 0).trans rfl
            have c1 : w5.cell? ⟨sb, 1, none⟩ = some (.int .u64 (e : Int)) := (cell_of b5 1).trans rfl
            have HC5 : Hid (∀ i, i < 32 → w5.cell? ⟨hg, j * 32 + i, none⟩ = (hbs t.H)[i]?) := fun i hi => by
              have hs : i < (hbs t.H).size := by rw [hbs_size, HTH.out]; exact hi
              have h5 : (hbs t.H)[i]? = some (hbs t.H)[i] := Array.getElem?_eq_getElem hs
              have := HCS.out i hi
              rw [h5] at this ⊢
              exact N5.out.cellOf this
            have N5w : Hid (Nw w w5) := NW3.out.tr (NX.out.tr N5.out)
            clear hw5 hsb
            (refine wp_region_grown (by kernel_rfl) (by kernel_rfl) ?_; (repeat (first | go_big_quiet_skip | (go_big_quiet_want; first | (refine quiet_load (.tmp 92) rfl hg (j * 32) rfl t.H HTH.out HC5.out ?_; ((try simp only [Act.put, List.setIfInBounds_toArray, List.set_cons_zero, List.set_cons_succ]); go_big_quiet_on)) | (refine quiet_cellx (.tmp 95) rfl sb 0 rfl noagg64 (.int .u64 (b : Int)) c0 ?_; ((try simp only [Act.put, List.setIfInBounds_toArray, List.set_cons_zero, List.set_cons_succ]); go_big_quiet_on)) | (refine quiet_cellx (.tmp 97) rfl sb 1 rfl noagg64 (.int .u64 (e : Int)) c1 ?_; ((try simp only [Act.put, List.setIfInBounds_toArray, List.set_cons_zero, List.set_cons_succ]); go_big_quiet_on)) | (refine quiet_neq (.tmp 93) (.tmp 100) rfl t.H HTH.out rfl rfl ?_; ((try simp only [Act.put, List.setIfInBounds_toArray, List.set_cons_zero, List.set_cons_succ]); go_big_quiet_on)) | (go_big_quiet_op; first | go_big_quiet_on | go_big_quiet_call (first | rfl | with_reducible exact grw_call QM.out N5w.out _))))); refine wpQuiet_nil ?_; rintro W ⟨⟨_, nW⟩, rfl⟩)
            have NXW : Hid (Nw w3 W) := NX.out.tr (N5.out.tr nW)
            clear nW c0 c1 b5
            go_wp2_with fail
            exact ⟨⟨j + 1, by omega, by go_num, NXW.out⟩, by simp [intOf]; omega⟩
          · obtain rfl : j = n := by omega
            have hji : ¬ (j : Int) < (j : Int) := by omega
            go_wp2_with fail
            refine (QA.out _ (NW3.out.tr NX.out)).mono ?_
            rintro x w4 ⟨rfl, n4⟩
            go_wp2
            go_ret
            exact ⟨rfl, (NW3.out.tr NX.out).tr n4⟩
end Go.Proofs.YthbimomhbeoieaaDoor
