/- VerifyTakes. -/
import Derived.Test.YtaeocbdphfkflaaDoorAq
import Derived.Test.YtaeocbdphfkflaaDoorAn
namespace Go.Proofs.YtaeocbdphfkflaaDoor
open Go.RowKit
set_option linter.unusedVariables false
set_option linter.unusedSimpArgs false
theorem mod_in (x : Int) (n : Nat) (h0 : 0 < n) (hn : n ≤ 200) : ∃ m : Nat, m < n ∧ (x.tmod n + n).tmod n = (m : Int) ∧ -200 < x.tmod n ∧ x.tmod n < 200 := by
  have hnz : (n : Int) ≠ 0 := by omega
  have h1 := Int.tmod_lt_of_pos x (show (0 : Int) < n by omega)
  have h2 : -(n : Int) < x.tmod n := by
    have := Int.lt_tmod_of_pos x (show (0 : Int) < n by omega)
    omega
  have h3 : 0 ≤ x.tmod n + n := by omega
  refine ⟨((x.tmod n + n).tmod n).toNat, ?_, ?_, by omega, by omega⟩
  · have h4 := Int.tmod_lt_of_pos (x.tmod n + n) (show (0 : Int) < n by omega)
    have h5 := Int.tmod_nonneg (n : Int) h3
    omega
  · have h5 := Int.tmod_nonneg (n : Int) h3
    omega
theorem Hss.hrsT {w : World} {ad : Option Addr} {n c : Nat} {L : List (List UInt8)} (h : Hss w (.slice ad n c) L) : Hrs w ad L := fun k x hk => h.atT hk
theorem hss_tailV {w : World} {g m c c' : Nat} {f : List UInt8} {R : List (List UInt8)} {ad2 : Option Addr} (h : Hss w (.slice (some ⟨g, 0, none⟩) (m + 1) c) (f :: R)) (hm : R.length = m) (h2 : 0 < m → ad2 = some ⟨g, 0 + 32, none⟩) : Hss w (.slice ad2 m c') R := by
  subst hm
  refine ⟨ad2, c', rfl, fun k y hk => ?_⟩
  have hk1 := (List.getElem?_eq_some_iff.1 hk).1
  obtain ⟨p1, off1, e1, hc1⟩ := h.atT (k := k + 1) (x := y) (by simpa using hk)
  cases e1
  refine ⟨g, 0 + 32, h2 (by omega), fun j hj => ?_⟩
  rw [← hc1 j hj]
  congr 2
  omega
theorem own_emptyV (W : World) : (W.alloc (.cells #[] 24)).ownsRow W.heap.size 24 32 (.slice (some ⟨W.heap.size, 0, none⟩) 0 0) 0 [] := ⟨rfl, .inr ⟨W.heap.size, 0, #[], rfl, Nat.le_refl _, heap_new _ _, Nat.le_refl _, by unfold maxLen; omega, rfl, rfl⟩⟩
theorem build0V (W : World) : (Instr.buildSlice 25 0 #[]).run Tryd.prog W = .ok (.slice (some ⟨W.heap.size, 0, none⟩) 0 0) (W.alloc (.cells #[] 24)) := by
  simp only [Instr.buildSlice, Sem.run_bind, run_underlying Tryd.underlying25, Tryd.sizeOf24 W, Result.andThen_ok, Sem.run_pure]
  simp [Instr.fill, newRow, Array.range]
theorem step_build0V {ops : Array Oper} {o : Oper} {a : Act} {w : World} {K : Act → World → Prop} {Q : Exit → Act → World → Prop} {E : Prop} (hgd : o.guard = none) (ho : o.op = .buildSlice 25 0 #[])
    (h : K (a.put o.dst (.slice (some ⟨w.heap.size, 0, none⟩) 0 0)) (w.alloc (.cells #[] 24))) : if Region.wanted o (yielded ops a.tmps) = true then Oper.wp Tryd.prog o a w K Q else E := by
  have hw : Region.wanted o (yielded ops a.tmps) = true := by simp [Region.wanted, hgd]
  rw [if_pos hw]
  unfold Oper.wp execOp
  simp only [ho, Sem.run_bind, Sem.run_pure, Result.andThen_ok, List.map_toArray, List.map_nil, build0V]
  exact h
theorem hsc_cellV (l : List (List UInt8)) : ∀ u ∈ hsc l, u.oneCell' = true := by
  intro u hu
  simp only [hsc, List.mem_flatMap] at hu
  obtain ⟨x, _, hu⟩ := hu
  exact hbs_one x u (by simpa [hbs] using hu)
theorem yields_neS {ops : Array Oper} {S : World → Prop} {o : Oper} {a : Act} (hgd : Region.wanted o (yielded ops a.tmps) = true) (x y : Operand) (ho : o.op = .binOp .neq 24 x y 24) (A : List UInt8) (hA : A.length = 32) (hx : a.eval x = .agg (hbs A)) (hy : a.eval y = .agg (hbs A)) : YieldsIf Tryd.prog ops S o (.bool false) a := by
  refine .inl ⟨hgd, fun w hw => ?_⟩
  unfold execOp
  simp only [ho, hx, hy, run_eqGuard, hbs_neq A hA w, Sem.run_bind, Sem.run_pure, Result.andThen_ok]
theorem pth_len18 (L : List (List UInt8)) (m n : Nat) (hm : m < n) (hn : n ≤ 200) : ((pth m 0 n).map (hshp L)).length ≤ 8 := by
  have : (pth m 0 n).length = (sds m n).length := by
    have h : ∀ (N b e i : Nat), e - b ≤ N → b ≤ i → i < e → (pth i b e).length = (sds (i - b) (e - b)).length := by
      intro N
      induction N with
      | zero => intro b e i h1 h2 h3; omega
      | succ N ih =>
        intro b e i h1 h2 h3
        by_cases h : 2 ≤ e - b
        · have hk := spl_lt h
          have hp := spl_pos (e - b)
          by_cases hi : i < b + spl (e - b)
          · rw [pth_left h hi, sds_left h (by omega)]
            have := ih b (b + spl (e - b)) i (by omega) h2 hi
            rw [Nat.add_sub_cancel_left] at this
            simp [this]
          · rw [pth_right h hi, sds_right h (by omega)]
            have := ih (b + spl (e - b)) e i (by omega) (by omega) h3
            rw [show i - (b + spl (e - b)) = i - b - spl (e - b) by omega, show e - (b + spl (e - b)) = e - b - spl (e - b) by omega] at this
            simp [this]
        · rw [pth_one h, sds_one _ _ (by omega)]
          rfl
    exact h n 0 n m (by omega) (by omega) hm
  rw [List.length_map, this]
  exact sds_len 8 n m (by have : (2 : Nat) ^ 8 = 256 := rfl; omega)
set_option maxRecDepth 100000 in
set_option maxHeartbeats 8000000 in
theorem VerifyTakes_any (L : List (List UInt8)) (hL32 : ∀ y ∈ L, y.length = 32) (hLl : L.length < 4611686018427387904) (ad : Option Addr) (cap : Nat) (hcap : L.length ≤ cap) (x1 : Int) (hx1 : -9223372036854775808 ≤ x1 ∧ x1 ≤ 9223372036854775807) (x2 : Int) (hx2 : -9223372036854775808 ≤ x2 ∧ x2 ≤ 9223372036854775807) (w : World) (hs : Hss w (.slice ad L.length cap) L) (hLd : Laid w) {B : Nat} {a : Nat → Addr} (hS : Sent B w a) :
    Calls Tryd.prog 5 #[.slice ad L.length cap, .int .i64 x1, .int .i64 x2] w fun e w' => e = .returned (.bool true) ∧ Nw w w' := by
  have HLD : Hid (Laid w) := hLd
  have HSE : Hid (Sent B w a) := hS
  have HL32 : Hid (∀ y ∈ L, y.length = 32) := hL32
  obtain ⟨n, hln⟩ : ∃ q, q = L.length := ⟨_, rfl⟩
  have HLE : Hid (n = L.length) := hln
  have HSS : Hid (Hss w (.slice ad n cap) L) := by rw [hln]; exact hs
  have QAL : Hid (∀ V, Nw w V → Calls Tryd.prog 16 #[] V fun e w' => e = .returned (.bool true) ∧ Nw V w') := fun V hV => alive18_any V (hLd.nw hV) (hS.nw hV)
  rw [← hln] at hcap hLl ⊢
  by_cases hn : n = 0 ∨ 200 < n
  · have hcase : (n : Int) = 0 ∨ (¬ (n : Int) = 0 ∧ (200 : Int) < (n : Int)) := by omega
    clear hL32 hs hLd hS hln hn
    go_enter Tryd.func5, Tryd.ntmps5
    rcases hcase with h0 | ⟨h0, h1⟩
    · have hb : ((n : Int) == 0) = true := by rw [h0]; rfl
      go_wp2_with fail
      refine (QAL.out _ (nwr w)).mono ?_
      rintro e w2 ⟨rfl, n2⟩
      go_wp2
      go_ret
      exact ⟨rfl, n2⟩
    · have hb : ((n : Int) == 0) = false := by rw [beq_eq_false_iff_ne]; exact h0
      go_wp2_with fail
      refine (QAL.out _ (nwr w)).mono ?_
      rintro e w2 ⟨rfl, n2⟩
      go_wp2
      go_ret
      exact ⟨rfl, n2⟩
  · obtain ⟨m, hm, hme, hmr⟩ := mod_in x1 n (by omega) (by omega)
    obtain ⟨o, ho, hoe, hor⟩ := mod_in x2 n (by omega) (by omega)
    obtain ⟨r1, hr1⟩ : ∃ r, r = x1.tmod n := ⟨_, rfl⟩
    obtain ⟨r2, hr2⟩ : ∃ r, r = x2.tmod n := ⟨_, rfl⟩
    rw [← hr1] at hme hmr
    rw [← hr2] at hoe hor
    have hb : ((n : Int) == 0) = false := by rw [beq_eq_false_iff_ne]; omega
    have hb2 : ¬ (200 : Int) < (n : Int) := by omega
    have hnb : n ≤ 200 := by omega
    have hn0 : 0 < n := by omega
    have hw1 : IntKind.i64.wrap r1 = r1 := by rw [IntKind.wrap_i64]; omega
    have hw2 : IntKind.i64.wrap r2 = r2 := by rw [IntKind.wrap_i64]; omega
    have hwm : IntKind.u64.wrap (m : Int) = (m : Int) := by rw [IntKind.wrap_u64]; omega
    have hwn : IntKind.u64.wrap (n : Int) = (n : Int) := by rw [IntKind.wrap_u64]; omega
    have hwo : IntKind.u64.wrap ((o : Int) + 1) = (o : Int) + 1 := by rw [IntKind.wrap_u64]; omega
    have hwn1 : IntKind.u64.wrap ((n : Int) + 1) = (n : Int) + 1 := by rw [IntKind.wrap_u64]; omega
    have ht1 := hr1.symm
    have ht2 := hr2.symm
    clear hr1 hr2 hL32 hs hLd hS hln hn
    go_enter Tryd.func5, Tryd.ntmps5
    have hm1 : m < L.length := by rw [← HLE.out]; exact hm
    obtain ⟨x, hx⟩ : ∃ x, L[m]? = some x := ⟨_, List.getElem?_eq_getElem hm1⟩
    have hx32 := HL32.out x (List.mem_of_getElem? hx)
    obtain ⟨lg, lo, rfl, hlc⟩ := HSS.out.atT hx
    have HLC0 := hid_of hlc
    have hxs : (hbs x).size = 32 := by rw [hbs_size, hx32]
    have hrs0 : Hrs w (some ⟨lg, lo, none⟩) L := HSS.out.hrsT
    have hl1 : L.length ≤ 1048576 := by rw [← HLE.out]; omega
    have hl2 : L.length ≤ 1000 := by rw [← HLE.out]; omega
    have hsa : sbh L 0 n = L := by rw [HLE.out]; exact sbh_all L
    -- the root, the path, the proof
    have QM : Hid (∀ V, Nw w V → Calls Tryd.prog 19 #[.slice (some ⟨lg, lo, none⟩) n cap] V fun e w' => e = .returned (.agg (hbs (hshp L (0, n)))) ∧ Nw V w') := fun V hV => by
      have := mth_at L hl1 HL32.out (b := 0) (e := n) (by rw [HLE.out]; exact Nat.le_refl _) (p := some ⟨lg, lo, none⟩) (cap := cap) (w := V) (HLD.out.nw hV) (by omega) (by rw [hsa]; exact hrs0.nw HL32.out hV) V (nwr V)
      exact this
    have QP : Hid (∀ V, Nw w V → Calls Tryd.prog 20 #[.int .i64 (m : Int), .slice (some ⟨lg, lo, none⟩) n cap] V fun r w' => Rwd V w' ((pth m 0 n).map (hshp L)) r) := fun V hV => by
      have := rpath_any L hl1 HL32.out n m 0 n (some ⟨lg, lo, none⟩) cap V (by omega) (by omega) hm (by rw [HLE.out]; exact Nat.le_refl _) (by omega) (by rw [hsa]; exact hrs0.nw HL32.out hV) (HLD.out.nw hV)
      exact this
    have QB : Hid (∀ V, Nw w V → Calls Tryd.prog 22 #[.int .i64 ((o : Int) + 1), .slice (some ⟨lg, lo, none⟩) n cap, .bool true] V fun r w' => Rwd V w' ((prf (o + 1) 0 n true).map (hshp L)) r) := fun V hV => by
      have := rsub_any L hl1 HL32.out n (o + 1) 0 n true (some ⟨lg, lo, none⟩) cap V (by omega) (by omega) (by omega) (by rw [HLE.out]; exact Nat.le_refl _) (by omega) (by rw [hsa]; exact hrs0.nw HL32.out hV) (HLD.out.nw hV)
      exact this
    have QO : Hid (∀ V, Nw w V → Calls Tryd.prog 19 #[.slice (some ⟨lg, lo, none⟩) (o + 1) cap] V fun e w' => e = .returned (.agg (hbs (hshp L (0, o + 1)))) ∧ Nw V w') := fun V hV => by
      have := mth_at L hl1 HL32.out (b := 0) (e := o + 1) (by rw [← HLE.out]; omega) (p := some ⟨lg, lo, none⟩) (cap := cap) (w := V) (HLD.out.nw hV) (by omega) (by have h9 := (hrs0.nw HL32.out hV).take (o + 1); unfold sbh; exact h9) V (nwr V)
      exact this
    have hcO := fun W => cut_hh (some ⟨lg, lo, none⟩) n cap (o + 1) (by omega) W
    have hrt := tk_rt L m x hx hl2
    have hic := tk_ic L m x hx hl2
    have hcc := tk_cc L (o + 1) (by omega) (by rw [← HLE.out]; omega) hl2
    rw [← HLE.out] at hrt hic hcc
    have hP := (tk_path L n 0 n m (by omega) (by omega) hm (by rw [HLE.out]; exact Nat.le_refl _)).1
    have hQ := (tk_sub L (hshp L (0, o + 1)) n 0 n (o + 1) true (by omega) (by omega) (by omega) (by rw [HLE.out]; exact Nat.le_refl _) (fun _ => rfl)).1
    rw [Nat.sub_zero, Nat.sub_zero] at hP hQ
    have hpl8 := pth_len18 L m n hm hnb
    have hql9 : ((prf (o + 1) 0 n true).map (hshp L)).length ≤ 9 := by
      have := gds_len 8 n (o + 1) (by have : (2 : Nat) ^ 8 = 256 := rfl; omega)
      rw [hQ]
      split <;> omega
    have hp32 : ∀ y ∈ (pth m 0 n).map (hshp L), y.length = 32 := fun y hy => by
      obtain ⟨t, _, rfl⟩ := List.mem_map.1 hy
      exact hshp_len L HL32.out t
    have hq32 : ∀ y ∈ (prf (o + 1) 0 n true).map (hshp L), y.length = 32 := fun y hy => by
      obtain ⟨t, _, rfl⟩ := List.mem_map.1 hy
      exact hshp_len L HL32.out t
    have hrt32 := hshp_len L HL32.out (0, n)
    have hod32 := hshp_len L HL32.out (0, o + 1)
    obtain ⟨pl, hpl⟩ : ∃ l, l = (pth m 0 n).map (hshp L) := ⟨_, rfl⟩
    obtain ⟨ql, hql⟩ : ∃ l, l = (prf (o + 1) 0 n true).map (hshp L) := ⟨_, rfl⟩
    obtain ⟨rt, hrtt⟩ : ∃ l, l = hshp L (0, n) := ⟨_, rfl⟩
    obtain ⟨od, hodd⟩ : ∃ l, l = hshp L (0, o + 1) := ⟨_, rfl⟩
    rw [← hpl] at QP hrt hic hP hpl8 hp32
    rw [← hql] at QB hcc hQ hql9 hq32
    rw [← hrtt] at QM hrt hic hcc hrt32
    rw [← hodd] at QO hcc hod32
    have HIN : Hid (¬ (9223372036854775808 < n ∨ n ≤ m)) := by show ¬ _; omega
    have HIO : Hid (¬ (9223372036854775808 < n ∨ o + 1 = 0 ∨ n < o + 1)) := by show ¬ _; omega
    have RT32 := hid_of hrt32
    have OD32 := hid_of hod32
    have X32 := hid_of hx32
    have hrts : (hbs rt).size = 32 := by rw [hbs_size, hrt32]
    have hods : (hbs od).size = 32 := by rw [hbs_size, hod32]
    have HP32 := hid_of hp32
    have HQ32 := hid_of hq32
    have HPL := hid_of hP
    have HQL := hid_of hQ
    have HRTV := hid_of hrt
    have HICV := hid_of hic
    have HCCV := hid_of hcc
    have HP8 := hid_of hpl8
    have HQ9 := hid_of hql9
    have HMN : Hid (m < 18446744073709551616 ∧ n < 18446744073709551616 ∧ o + 1 < 18446744073709551616 ∧ n + 1 < 18446744073709551616) := by refine ⟨?_, ?_, ?_, ?_⟩ <;> omega
    have QI : Hid (∀ V (i : Nat) (l : List (List UInt8)) la lc, i < 18446744073709551616 → (∀ y ∈ l, y.length = 32) → l.length ≤ 20 → Nw w V → Hss V (.slice la l.length lc) l → Calls Tryd.prog 14 #[.int .u64 (i : Int), .int .u64 (n : Int), .agg (hbs x), .slice la l.length lc, .agg (hbs rt)] V fun e w' => e = .returned (erv a (icA i n x l rt)) ∧ Nw V w') := fun V i l la lc hi h32 hl hV hs => incl_any i n hi HMN.out.2.1 x X32.out l h32 (by omega) la lc rt RT32.out V hs (HLD.out.nw hV) (HSE.out.nw hV)
    have QC : Hid (∀ V (i : Nat) (l : List (List UInt8)) la lc, i < 18446744073709551616 → (∀ y ∈ l, y.length = 32) → l.length ≤ 20 → l.length ≤ lc → Nw w V → Hss V (.slice la l.length lc) l → Calls Tryd.prog 17 #[.int .u64 (i : Int), .int .u64 (n : Int), .agg (hbs od), .agg (hbs rt), .slice la l.length lc] V fun e w' => e = .returned (erv a (ccA i n od rt l)) ∧ Nw V w') := fun V i l la lc hi h32 hl hc hV hs => cons_any i n hi HMN.out.2.1 od rt OD32.out RT32.out l h32 (by omega) la lc hc V hs (HLD.out.nw hV) (HSE.out.nw hV)
    have QIS10 : Hid (∀ V, Nw w V → Calls Tryd.prog 21 #[sen (a 9), .int .i64 10] V fun e w' => e = .returned (.bool true) ∧ Nw V w') := fun V hV => is_erv (HSE.out.nw hV) 10 (.inr (.inr rfl)) (by decide)
    have QIS5 : Hid (∀ V, Nw w V → Calls Tryd.prog 21 #[sen (a 4), .int .i64 5] V fun e w' => e = .returned (.bool true) ∧ Nw V w') := fun V hV => is_erv (HSE.out.nw hV) 5 (.inr (.inl rfl)) (by decide)
    obtain ⟨i0, hi0, hz00, hz01, hz02⟩ := info_parts infoHs
    have HI0 : Hid (Tryd.prog.info? 24 = some i0 ∧ i0.zero = some (.agg z32) ∧ i0.size = 32 ∧ i0.bytes = 32) := ⟨hi0, hz00, hz01, hz02⟩
    clear hpl hql hrtt hodd hm1 hx32 hlc hrs0 hl1 hl2 hsa hrt hic hcc hP hQ hpl8 hql9 hp32 hq32 hrt32 hod32 hi0 hz00 hz01 hz02 hx
    go_wp2_with fail
    refine (QM.out _ (nwr w)).mono ?_
    rintro e v1 ⟨rfl, m1⟩
    go_upto_region 7 with (refine wp_store_agg rfl (.tmp 8) (.tmp 40) 24 32 rfl Tryd.sizeOf24 v1.heap.size 0 rfl z32 24 (by rw [← z32_h]; exact heap_new _ _) (hbs rt) rfl hrts (hbs_one _) (by decide) (hbs rt) (by rw [dropA z32_size]; simp) ?_; intro w2 j2 f2 y2; clear y2)
    obtain ⟨rb, hrb⟩ : ∃ q, q = v1.heap.size := ⟨_, rfl⟩
    rw [← hrb] at j2 ⊢
    have N2 : Hid (Nw w w2) := m1.tr ((nwa v1 _).trans f2 (fun k hk q => by omega))
    have J2 : Hid (w2.heap[rb]? = some (.cells (hbs rt) 24)) := j2
    clear hrb j2 f2 m1
    go_wp2_with fail
    refine (QP.out _ N2.out).mono ?_
    rintro e w3 ⟨pv, rfl, own3, m3⟩
    have OP3 : Hid (w3.ownsRow w2.heap.size 24 32 pv pl.length (hsc pl)) := own3
    obtain ⟨pa, pc, rfl⟩ := ownsRow_form own3
    obtain ⟨pn, hpn⟩ : ∃ q, q = pl.length := ⟨_, rfl⟩
    have HPN := hid_of hpn
    rw [← hpn] at OP3 ⊢
    have hpn8 : pn ≤ 8 := by rw [hpn]; exact HP8.out
    have N3 : Hid (Nw w w3) := N2.out.tr m3
    have J3 : Hid (w3.heap[rb]? = some (.cells (hbs rt) 24)) := (m3.block _ (heap_lt J2.out) (fun f => f)).trans J2.out
    have HSP : Hid (∀ V, Nw w3 V → Hss V (.slice pa pn pc) pl) := fun V hV => by
      have := (Hss.of HP32.out (by have h9 := OP3.out; rw [HPN.out] at h9; exact h9)).nw HP32.out hV
      rw [← HPN.out] at this
      exact this
    clear own3 m3 hpn J2 N2 QM QP
    have HLV : Hid (∀ V, Nw w V → ∀ j, j < 32 → V.cell? ⟨lg, lo + m * 32 + j, none⟩ = (hbs x)[j]?) := fun V hV j hj => by
      have h5 : (hbs x)[j]? = some (hbs x)[j] := Array.getElem?_eq_getElem (by omega)
      have h6 := HLC0.out j hj
      rw [h5] at h6 ⊢
      exact hV.cellOf h6
    have HLV3 := hid_of (HLV.out w3 N3.out)
    have QR3 := hid_of (root_any m n HMN.out.1 HMN.out.2.1 x X32.out pl HP32.out (by have := HP8.out; omega) pa pc w3 (by rw [← HPN.out]; exact HSP.out w3 (nwr w3)) (HLD.out.nw N3.out) (HSE.out.nw N3.out))
    rw [HRTV.out, ← HPN.out] at QR3
    go_wp2_with (refine wple_load_at rfl (.tmp 51) 24 32 rfl Tryd.isAgg24 Tryd.sizeOf24 lg (lo + m * 32) rfl (hbs x) hxs HLV3.out ?_)
    refine (Calls.mono QR3.out) ?_
    rintro e v4 ⟨rfl, m4⟩
    rw [show erv a 0 = .nilIface from rfl]
    go_upto_region 9 with (refine wp_store_agg rfl (.tmp 10) (.tmp 55) 24 32 rfl Tryd.sizeOf24 v4.heap.size 0 rfl z32 24 (by rw [← z32_h]; exact heap_new _ _) (hbs rt) rfl hrts (hbs_one _) (by decide) (hbs rt) (by rw [dropA z32_size]; simp) ?_; intro w5 j5 f5 y5; clear y5)
    obtain ⟨gb5, hgb⟩ : ∃ q, q = v4.heap.size := ⟨_, rfl⟩
    rw [← hgb] at j5 ⊢
    have m5 : Nw w3 w5 := m4.tr ((nwa v4 _).trans f5 (fun k hk q => by omega))
    have N5 : Hid (Nw w w5) := N3.out.tr m5
    have M5 : Hid (Nw w3 w5) := m5
    have HRG : Hid (∀ V, Nw w5 V → ∀ j, j < 32 → V.cell? ⟨gb5, 0 + j, none⟩ = (hbs rt)[j]?) := fun V hV => hash_cells ((hV.block _ (heap_lt j5) (fun f => f)).trans j5)
    have HRTw3 : Hid (∀ V, Nw w3 V → ∀ j, j < 32 → V.cell? ⟨rb, 0 + j, none⟩ = (hbs rt)[j]?) := fun V hV => hash_cells ((hV.block _ (heap_lt J3.out) (fun f => f)).trans J3.out)
    have HRTw5 : Hid (∀ V, Nw w5 V → ∀ j, j < 32 → V.cell? ⟨rb, 0 + j, none⟩ = (hbs rt)[j]?) := fun V hV => HRTw3.out V (M5.out.tr hV)
    have HLVw5 : Hid (∀ V, Nw w5 V → ∀ j, j < 32 → V.cell? ⟨lg, lo + m * 32 + j, none⟩ = (hbs x)[j]?) := fun V hV => HLV.out V (N5.out.tr hV)
    have QI0 : Hid (∀ V, Nw w3 V → Calls Tryd.prog 14 #[.int .u64 (m : Int), .int .u64 (n : Int), .agg (hbs x), .slice pa pn pc, .agg (hbs rt)] V fun e w' => e = .returned .nilIface ∧ Nw V w') := fun V hV => by
      have := QI.out V m pl pa pc HMN.out.1 HP32.out (by have := HP8.out; omega) (N3.out.tr hV) (by rw [← HPN.out]; exact HSP.out V hV)
      rw [HICV.out, ← HPN.out] at this
      exact this
    clear hgb j5 f5 m4 m5 QR3 HLV3
    go_upto_region 9 with fail
    have nb : Nw w5 w5.drew := (Fr.refl _ _).drew
    refine wp_region_held_drew (S := (fun V => Nw w5 V)) (by kernel_rfl) (nb) ?_
    intro hS0
    refine wpAnyH_take (i := 0) (oi := ({ dst := some 57, op := Op.move (Operand.tmp 11), type := 31, pos := "outright.go:71", after := #[], guard := none } : Oper)) (v := .nilIface) rfl (by kernel_rfl) (by kernel_rfl) (by kernel_rfl) (fun _ _ _ h => h) (Or.inl ⟨by rfl, by intro w hw; go_simp⟩) hS0 ?_
    try simp only [Act.put, List.setIfInBounds_toArray, List.set_cons_zero, List.set_cons_succ]
    refine wpAnyH_take (i := 1) (oi := ({ dst := some 58, op := Op.binOp BinOp.neq 31 (Operand.tmp 57) (Operand.const Value.nilIface) 31, type := 4, pos := "outright.go:71", after := #[{ on := 0, ground := Ground.data }], guard := none } : Oper)) (v := .bool false) rfl (by kernel_rfl) (by kernel_rfl) (by kernel_rfl) (fun _ _ _ h => h) (Or.inl ⟨by kernel_rfl, by intro w hw; have hx := neq_nilE w; go_simp⟩) hS0 ?_
    try simp only [Act.put, List.setIfInBounds_toArray, List.set_cons_zero, List.set_cons_succ]
    refine wpAnyH_take (i := 2) (oi := ({ dst := some 59, op := Op.move (Operand.tmp 58), type := 4, pos := "outright.go:71", after := #[{ on := 1, ground := Ground.data }], guard := none } : Oper)) (v := .bool false) rfl (by kernel_rfl) (by kernel_rfl) (by kernel_rfl) (fun _ _ _ h => h) (Or.inl ⟨by rfl, by intro w hw; go_simp⟩) hS0 ?_
    try simp only [Act.put, List.setIfInBounds_toArray, List.set_cons_zero, List.set_cons_succ]
    refine wpAnyH_take (i := 3) (oi := ({ dst := some 60, op := Op.load 24 (Operand.tmp 10), type := 24, pos := "outright.go:71", after := #[{ on := 2, ground := Ground.guard }], guard := some (2, false) } : Oper)) (v := .agg (hbs rt)) rfl (by kernel_rfl) (by kernel_rfl) (by kernel_rfl) (fun _ _ _ h => h) (yields_loadV (by kernel_rfl) (.tmp 10) 24 32 rfl Tryd.isAgg24 Tryd.sizeOf24 gb5 (0) rfl (hbs rt) hrts (fun w hw => HRG.out w hw)) hS0 ?_
    try simp only [Act.put, List.setIfInBounds_toArray, List.set_cons_zero, List.set_cons_succ]
    refine wpAnyH_take (i := 4) (oi := ({ dst := some 61, op := Op.load 24 (Operand.tmp 8), type := 24, pos := "outright.go:71", after := #[{ on := 2, ground := Ground.guard }], guard := some (2, false) } : Oper)) (v := .agg (hbs rt)) rfl (by kernel_rfl) (by kernel_rfl) (by kernel_rfl) (fun _ _ _ h => h) (yields_loadV (by kernel_rfl) (.tmp 8) 24 32 rfl Tryd.isAgg24 Tryd.sizeOf24 rb (0) rfl (hbs rt) hrts (fun w hw => HRTw5.out w hw)) hS0 ?_
    try simp only [Act.put, List.setIfInBounds_toArray, List.set_cons_zero, List.set_cons_succ]
    refine wpAnyH_take (i := 5) (oi := ({ dst := some 62, op := Op.binOp BinOp.neq 24 (Operand.tmp 60) (Operand.tmp 61) 24, type := 4, pos := "outright.go:71", after := #[{ on := 3, ground := Ground.data }, { on := 4, ground := Ground.data }, { on := 2, ground := Ground.guard }], guard := some (2, false) } : Oper)) (v := .bool false) rfl (by kernel_rfl) (by kernel_rfl) (by kernel_rfl) (fun _ _ _ h => h) (yields_neS (by kernel_rfl) (.tmp 60) (.tmp 61) rfl rt RT32.out rfl rfl) hS0 ?_
    try simp only [Act.put, List.setIfInBounds_toArray, List.set_cons_zero, List.set_cons_succ]
    refine wpAnyH_take (i := 6) (oi := ({ dst := some 63, op := Op.pick (Operand.tmp 59) (Operand.const (Value.bool true)) (Operand.tmp 62), type := 4, pos := "outright.go:71", after := #[{ on := 2, ground := Ground.data }, { on := 5, ground := Ground.data }], guard := none } : Oper)) (v := .bool false) rfl (by kernel_rfl) (by kernel_rfl) (by kernel_rfl) (fun _ _ _ h => h) (Or.inl ⟨by rfl, by intro w hw; go_simp⟩) hS0 ?_
    try simp only [Act.put, List.setIfInBounds_toArray, List.set_cons_zero, List.set_cons_succ]
    refine wpAnyH_take (i := 7) (oi := ({ dst := some 64, op := Op.move (Operand.tmp 63), type := 4, pos := "outright.go:71", after := #[{ on := 6, ground := Ground.data }, { on := 2, ground := Ground.chain }], guard := none } : Oper)) (v := .bool false) rfl (by kernel_rfl) (by kernel_rfl) (by kernel_rfl) (fun _ _ _ h => h) (Or.inl ⟨by rfl, by intro w hw; go_simp⟩) hS0 ?_
    try simp only [Act.put, List.setIfInBounds_toArray, List.set_cons_zero, List.set_cons_succ]
    refine wpAnyH_take (i := 8) (oi := ({ dst := some 65, op := Op.move (Operand.tmp 1), type := 3, pos := "outright.go:71", after := #[{ on := 7, ground := Ground.guard }], guard := some (7, false) } : Oper)) (v := .int .i64 (m : Int)) rfl (by kernel_rfl) (by kernel_rfl) (by kernel_rfl) (fun _ _ _ h => h) (Or.inl ⟨by kernel_rfl, by intro w hw; go_simp⟩) hS0 ?_
    try simp only [Act.put, List.setIfInBounds_toArray, List.set_cons_zero, List.set_cons_succ]
    refine wpAnyH_take (i := 9) (oi := ({ dst := some 66, op := Op.convert 3 22 (Operand.tmp 65), type := 22, pos := "outright.go:71", after := #[{ on := 8, ground := Ground.data }, { on := 7, ground := Ground.guard }], guard := some (7, false) } : Oper)) (v := .int .u64 (m : Int)) rfl (by kernel_rfl) (by kernel_rfl) (by kernel_rfl) (fun _ _ _ h => h) (Or.inl ⟨by kernel_rfl, by intro w hw; go_simp⟩) hS0 ?_
    try simp only [Act.put, List.setIfInBounds_toArray, List.set_cons_zero, List.set_cons_succ]
    refine wpAnyH_take (i := 10) (oi := ({ dst := some 67, op := Op.move (Operand.tmp 7), type := 3, pos := "outright.go:71", after := #[{ on := 7, ground := Ground.guard }], guard := some (7, false) } : Oper)) (v := .int .i64 (n : Int)) rfl (by kernel_rfl) (by kernel_rfl) (by kernel_rfl) (fun _ _ _ h => h) (Or.inl ⟨by kernel_rfl, by intro w hw; go_simp⟩) hS0 ?_
    try simp only [Act.put, List.setIfInBounds_toArray, List.set_cons_zero, List.set_cons_succ]
    refine wpAnyH_take (i := 11) (oi := ({ dst := some 68, op := Op.convert 3 22 (Operand.tmp 67), type := 22, pos := "outright.go:71", after := #[{ on := 10, ground := Ground.data }, { on := 7, ground := Ground.guard }], guard := some (7, false) } : Oper)) (v := .int .u64 (n : Int)) rfl (by kernel_rfl) (by kernel_rfl) (by kernel_rfl) (fun _ _ _ h => h) (Or.inl ⟨by kernel_rfl, by intro w hw; go_simp⟩) hS0 ?_
    try simp only [Act.put, List.setIfInBounds_toArray, List.set_cons_zero, List.set_cons_succ]
    refine wpAnyH_take (i := 12) (oi := ({ dst := some 69, op := Op.move (Operand.tmp 0), type := 25, pos := "outright.go:71", after := #[{ on := 7, ground := Ground.guard }], guard := some (7, false) } : Oper)) (v := .slice (some ⟨lg, lo, none⟩) n cap) rfl (by kernel_rfl) (by kernel_rfl) (by kernel_rfl) (fun _ _ _ h => h) (Or.inl ⟨by kernel_rfl, by intro w hw; go_simp⟩) hS0 ?_
    try simp only [Act.put, List.setIfInBounds_toArray, List.set_cons_zero, List.set_cons_succ]
    refine wpAnyH_take (i := 13) (oi := ({ dst := some 70, op := Op.move (Operand.tmp 1), type := 3, pos := "outright.go:71", after := #[{ on := 7, ground := Ground.guard }], guard := some (7, false) } : Oper)) (v := .int .i64 (m : Int)) rfl (by kernel_rfl) (by kernel_rfl) (by kernel_rfl) (fun _ _ _ h => h) (Or.inl ⟨by kernel_rfl, by intro w hw; go_simp⟩) hS0 ?_
    try simp only [Act.put, List.setIfInBounds_toArray, List.set_cons_zero, List.set_cons_succ]
    refine wpAnyH_take (i := 14) (oi := ({ dst := some 71, op := Op.indexAddr 25 (Operand.tmp 69) (Operand.tmp 70), type := 0, pos := "outright.go:71", after := #[{ on := 12, ground := Ground.data }, { on := 13, ground := Ground.data }, { on := 7, ground := Ground.guard }], guard := some (7, false) } : Oper)) (v := .pointer (some ⟨lg, lo + m * 32, none⟩)) rfl (by kernel_rfl) (by kernel_rfl) (by kernel_rfl) (fun _ _ _ h => h) (Or.inl ⟨by kernel_rfl, by intro w hw; go_simp; try (intro hq; omega)⟩) hS0 ?_
    try simp only [Act.put, List.setIfInBounds_toArray, List.set_cons_zero, List.set_cons_succ]
    refine wpAnyH_take (i := 15) (oi := ({ dst := some 72, op := Op.load 24 (Operand.tmp 71), type := 24, pos := "outright.go:71", after := #[{ on := 14, ground := Ground.data }, { on := 7, ground := Ground.guard }], guard := some (7, false) } : Oper)) (v := .agg (hbs x)) rfl (by kernel_rfl) (by kernel_rfl) (by kernel_rfl) (fun _ _ _ h => h) (yields_loadV (by kernel_rfl) (.tmp 71) 24 32 rfl Tryd.isAgg24 Tryd.sizeOf24 lg (lo + m * 32) rfl (hbs x) hxs (fun w hw => HLVw5.out w hw)) hS0 ?_
    try simp only [Act.put, List.setIfInBounds_toArray, List.set_cons_zero, List.set_cons_succ]
    refine wpAnyH_take (i := 16) (oi := ({ dst := some 73, op := Op.move (Operand.tmp 9), type := 25, pos := "outright.go:71", after := #[{ on := 7, ground := Ground.guard }], guard := some (7, false) } : Oper)) (v := .slice pa pn pc) rfl (by kernel_rfl) (by kernel_rfl) (by kernel_rfl) (fun _ _ _ h => h) (Or.inl ⟨by kernel_rfl, by intro w hw; go_simp⟩) hS0 ?_
    try simp only [Act.put, List.setIfInBounds_toArray, List.set_cons_zero, List.set_cons_succ]
    refine wpAnyH_take (i := 17) (oi := ({ dst := some 74, op := Op.load 24 (Operand.tmp 8), type := 24, pos := "outright.go:71", after := #[{ on := 7, ground := Ground.guard }], guard := some (7, false) } : Oper)) (v := .agg (hbs rt)) rfl (by kernel_rfl) (by kernel_rfl) (by kernel_rfl) (fun _ _ _ h => h) (yields_loadV (by kernel_rfl) (.tmp 8) 24 32 rfl Tryd.isAgg24 Tryd.sizeOf24 rb (0) rfl (hbs rt) hrts (fun w hw => HRTw5.out w hw)) hS0 ?_
    try simp only [Act.put, List.setIfInBounds_toArray, List.set_cons_zero, List.set_cons_succ]
    refine wpAnyH_ready (rs := [18]) (by kernel_rfl) (by simp) ?_
    refine (AllReadyH.cons (o := ({ dst := some 75, op := Op.call { callee := Callee.value (Operand.func 14), args := #[Operand.tmp 66, Operand.tmp 68, Operand.tmp 72, Operand.tmp 73, Operand.tmp 74], argTypes := #[22, 22, 24, 25, 24] }, type := 31, pos := "outright.go:71", after := #[{ on := 9, ground := Ground.data }, { on := 11, ground := Ground.data }, { on := 15, ground := Ground.data }, { on := 16, ground := Ground.data }, { on := 17, ground := Ground.data }, { on := 7, ground := Ground.chain }, { on := 7, ground := Ground.guard }], guard := some (7, false) } : Oper)) rfl (fun K' hK => ?_) AllReadyH.nil)
    go_simp
    go_wp2_with (go_at_call 14; refine (QI0.out _ (M5.out.tr nb)).mono ?_; rintro ex w101 ⟨rfl, nw101⟩)
    have nb := nb.tr nw101
    refine hK.out _ _ (nb) (fun hS0 => ?_)
    try simp only [Act.put, List.setIfInBounds_toArray, List.set_cons_zero, List.set_cons_succ]
    refine wpAnyH_take (i := 19) (oi := ({ dst := some 76, op := Op.binOp BinOp.neq 31 (Operand.tmp 75) (Operand.const Value.nilIface) 31, type := 4, pos := "outright.go:71", after := #[{ on := 18, ground := Ground.data }, { on := 7, ground := Ground.guard }], guard := some (7, false) } : Oper)) (v := .bool false) rfl (by kernel_rfl) (by kernel_rfl) (by kernel_rfl) (fun _ _ _ h => h) (Or.inl ⟨by kernel_rfl, by intro w hw; have hx := neq_nilE w; go_simp⟩) hS0 ?_
    try simp only [Act.put, List.setIfInBounds_toArray, List.set_cons_zero, List.set_cons_succ]
    refine wpAnyH_take (i := 20) (oi := ({ dst := some 77, op := Op.pick (Operand.tmp 64) (Operand.const (Value.bool true)) (Operand.tmp 76), type := 4, pos := "outright.go:71", after := #[{ on := 7, ground := Ground.data }, { on := 19, ground := Ground.data }], guard := none } : Oper)) (v := .bool false) rfl (by kernel_rfl) (by kernel_rfl) (by kernel_rfl) (fun _ _ _ h => h) (Or.inl ⟨by rfl, by intro w hw; go_simp⟩) hS0 ?_
    try simp only [Act.put, List.setIfInBounds_toArray, List.set_cons_zero, List.set_cons_succ]
    refine wpAnyH_done (by kernel_rfl) ?_ _
    obtain ⟨w6, hw6⟩ : ∃ x, x = w101 := ⟨_, rfl⟩
    rw [← hw6] at nb ⊢
    have Nw6 : Hid (Nw w5 w6) := nb
    clear hw6 nb
    have N6 : Hid (Nw w w6) := N5.out.tr Nw6.out
    have M6 : Hid (Nw w3 w6) := M5.out.tr Nw6.out
    have HRTw6 : Hid (∀ V, Nw w6 V → ∀ j, j < 32 → V.cell? ⟨rb, 0 + j, none⟩ = (hbs rt)[j]?) := fun V hV => HRTw3.out V (M6.out.tr hV)
    have OP6 : Hid (w6.ownsRow w2.heap.size 24 32 (.slice pa pn pc) pn (hsc pl)) := ownsRow_keep OP3.out (fun q hq => M6.out.block q (OP3.out.lt q hq).2 (fun f => f))
    have hcase : (pa = none ∧ pn = 0 ∧ pc = 0 ∧ pl = []) ∨ ∃ pg, pa = some ⟨pg, 0, none⟩ := by
      rcases OP6.out.2 with ⟨h1, h2⟩ | ⟨g, c, cur, h1, _⟩
      · injection h1 with h3 h4 h5
        exact .inl ⟨h3, h2, h5, List.length_eq_zero_iff.1 (by rw [← HPN.out]; exact h2)⟩
      · injection h1 with h3 h4 h5
        exact .inr ⟨g, h3⟩
    have HCASE := hid_of hcase
    clear hcase
    go_upto_region 11 with fail
    go_cut [12] (fun v wx => ∃ ma mc, v = .slice ma (pn + 1) mc ∧ wx.ownsRow w6.heap.size 24 32 (.slice ma (pn + 1) mc) (pn + 1) (hsc (pl ++ [rt])) ∧ Nw w6 wx)
    case first => as_aux_lemma =>
      rcases HCASE.out with ⟨rfl, rfl, rfl, rfl⟩ | ⟨pg, rfl⟩
      · skip
        have nb : Nw w6 w6.drew := (Fr.refl _ _).drew
        refine wp_region_held_drew (S := (fun V => Nw w6 V)) (by kernel_rfl) (nb) ?_
        intro hS0
        refine wpAnyH_take (i := 1) (oi := ({ dst := some 79, op := Op.move (Operand.tmp 9), type := 25, pos := "outright.go:74", after := #[], guard := none } : Oper)) (v := .slice none 0 0) rfl (by kernel_rfl) (by kernel_rfl) (by kernel_rfl) (fun _ _ _ h => h) (Or.inl ⟨by rfl, by intro w hw; go_simp⟩) hS0 ?_
        try simp only [Act.put, List.setIfInBounds_toArray, List.set_cons_zero, List.set_cons_succ]
        refine wpAnyH_take (i := 3) (oi := ({ dst := some 81, op := Op.load 24 (Operand.tmp 8), type := 24, pos := "outright.go:74", after := #[], guard := none } : Oper)) (v := .agg (hbs rt)) rfl (by kernel_rfl) (by kernel_rfl) (by kernel_rfl) (fun _ _ _ h => h) (yields_loadV (by kernel_rfl) (.tmp 8) 24 32 rfl Tryd.isAgg24 Tryd.sizeOf24 rb (0) rfl (hbs rt) hrts (fun w hw => HRTw6.out w hw)) hS0 ?_
        try simp only [Act.put, List.setIfInBounds_toArray, List.set_cons_zero, List.set_cons_succ]
        refine wpAnyH_ready (rs := [0, 4]) (by kernel_rfl) (by simp) ?_
        refine (AllReadyH.cons (o := ({ dst := some 78, op := Op.buildSlice 25 0 #[], type := 25, pos := "outright.go:74", after := #[], guard := none } : Oper)) rfl (fun K' hK => ?_) (AllReadyH.cons (o := ({ dst := some 82, op := Op.buildSlice 25 1 #[(0, Operand.tmp 81)], type := 25, pos := "outright.go:74", after := #[{ on := 3, ground := Ground.data }], guard := none } : Oper)) rfl (fun K' hK => ?_) AllReadyH.nil))
        · refine step_build0V rfl rfl ?_
          have OW := own_emptyV (w6.drew)
          obtain ⟨u1, hu1⟩ : ∃ q, (w6.drew).alloc (.cells #[] 24) = q := ⟨_, rfl⟩
          have nu1 : Nw (w6.drew) u1 := by rw [← hu1]; exact nwa _ _
          rw [hu1] at OW ⊢
          obtain ⟨ga, hga⟩ : ∃ q, q = (w6.drew).heap.size := ⟨_, rfl⟩
          have LA : w6.heap.size ≤ ga := by rw [hga]; exact nb.size
          rw [← hga] at OW ⊢
          have nb := nb.tr nu1
          clear hu1 hga nu1
          refine hK.out _ _ (nb) (fun hS0 => ?_)
          try simp only [Act.put, List.setIfInBounds_toArray, List.set_cons_zero, List.set_cons_succ]
          refine wpAnyH_ready (rs := [2, 4]) (by kernel_rfl) (by simp) ?_
          refine (AllReadyH.cons (o := ({ dst := some 80, op := Op.call { callee := Callee.builtin Builtin.append, args := #[Operand.tmp 78, Operand.tmp 79], argTypes := #[25, 25] }, type := 25, pos := "outright.go:74", after := #[{ on := 0, ground := Ground.data }, { on := 1, ground := Ground.data }], guard := none } : Oper)) rfl (fun K' hK => ?_) (AllReadyH.cons (o := ({ dst := some 82, op := Op.buildSlice 25 1 #[(0, Operand.tmp 81)], type := 25, pos := "outright.go:74", after := #[{ on := 3, ground := Ground.data }], guard := none } : Oper)) rfl (fun K' hK => ?_) AllReadyH.nil))
          · refine step_app_none rfl (.tmp 78) (.tmp 79) 25 rfl 24 i0 Tryd.underlying25 HI0.out.1 (.slice (some ⟨ga, 0, none⟩) 0 0) (by kernel_rfl) OW (by kernel_rfl) ?_
            refine hK.out _ _ (nb) (fun hS0 => ?_)
            try simp only [Act.put, List.setIfInBounds_toArray, List.set_cons_zero, List.set_cons_succ]
            refine wpAnyH_ready (rs := [4]) (by kernel_rfl) (by simp) ?_
            refine (AllReadyH.cons (o := ({ dst := some 82, op := Op.buildSlice 25 1 #[(0, Operand.tmp 81)], type := 25, pos := "outright.go:74", after := #[{ on := 3, ground := Ground.data }], guard := none } : Oper)) rfl (fun K' hK => ?_) AllReadyH.nil)
            refine step_build1 rfl (.tmp 81) rfl (hbs rt) (by kernel_rfl) hrts ?_
            have BB := heap_new (u1) (.cells (hbs rt) 24)
            obtain ⟨u3, hu3⟩ : ∃ q, (u1).alloc (.cells (hbs rt) 24) = q := ⟨_, rfl⟩
            have nu3 : Nw (u1) u3 := by rw [← hu3]; exact nwa _ _
            rw [hu3] at BB ⊢
            obtain ⟨gb, hgb⟩ : ∃ q, q = (u1).heap.size := ⟨_, rfl⟩
            rw [← hgb] at BB ⊢
            have HNE : True := trivial
            have OW := ownsRow_keep OW (fun q hq => nu3.block q (OW.lt q hq).2 (fun f => f))
            have nb := nb.tr nu3
            clear hu3 hgb nu3
            refine hK.out _ _ (nb) (fun hS0 => ?_)
            try simp only [Act.put, List.setIfInBounds_toArray, List.set_cons_zero, List.set_cons_succ]
            refine wpAnyH_ready (rs := [5]) (by kernel_rfl) (by simp) ?_
            refine (AllReadyH.cons (o := ({ dst := some 83, op := Op.call { callee := Callee.builtin Builtin.append, args := #[Operand.tmp 80, Operand.tmp 82], argTypes := #[25, 25] }, type := 25, pos := "outright.go:74", after := #[{ on := 2, ground := Ground.data }, { on := 4, ground := Ground.data }, { on := 2, ground := Ground.chain }], guard := none } : Oper)) rfl (fun K' hK => ?_) AllReadyH.nil)
            refine step_two rfl (.tmp 80) (.tmp 82) 25 rfl w6.heap.size 24 i0 (.agg z32) 32 32 Tryd.underlying25 HI0.out.1 HI0.out.2.1 HI0.out.2.2.1 HI0.out.2.2.2 z32_size (by decide) (.slice (some ⟨ga, 0, none⟩) 0 0) (0) ([]) (by kernel_rfl) (own_mono OW LA) ⟨gb, 0, none⟩ 1 1 (hbs rt).toList (by kernel_rfl) (by simp [hrts]) (fun j u hu => by rw [addZ, cell_of BB]; simpa using hu) (hbs_one _) (by unfold maxLen; omega) (by omega) nb.size ?_
            intro v2 u4 o2 t2
            have nb : Nw w6 u4 := nb.trans t2.fr (fun j hj e => by have := (own_mono OW LA).lt j e; omega)
            obtain ⟨ya, yc, rfl⟩ := ownsRow_form o2
            clear t2
            refine hK.out _ _ (nb) (fun hS0 => ?_)
            try simp only [Act.put, List.setIfInBounds_toArray, List.set_cons_zero, List.set_cons_succ]
            refine wpAnyH_ready (rs := [6]) (by kernel_rfl) (by simp) ?_
            refine (AllReadyH.cons (o := ({ dst := some 12, op := Op.assign (Operand.tmp 83), type := 25, pos := "outright.go:74", after := #[{ on := 5, ground := Ground.data }, { on := 5, ground := Ground.chain }, { on := 0, ground := Ground.phase }, { on := 1, ground := Ground.phase }, { on := 2, ground := Ground.phase }, { on := 3, ground := Ground.phase }, { on := 4, ground := Ground.phase }, { on := 5, ground := Ground.phase }], guard := none } : Oper)) rfl (fun K' hK => ?_) AllReadyH.nil)
            go_simp
            refine hK.out _ _ (nb) (fun hS0 => ?_)
            try simp only [Act.put, List.setIfInBounds_toArray, List.set_cons_zero, List.set_cons_succ]
            refine wpAnyH_done (by kernel_rfl) ?_ _
            go_wp2_with fail
            go_meet
            exact ⟨ya, yc, rfl, by simpa [hsc_app, hsc_one] using o2, nb⟩
          · refine step_build1 rfl (.tmp 81) rfl (hbs rt) (by kernel_rfl) hrts ?_
            have BB := heap_new (u1) (.cells (hbs rt) 24)
            obtain ⟨u5, hu5⟩ : ∃ q, (u1).alloc (.cells (hbs rt) 24) = q := ⟨_, rfl⟩
            have nu5 : Nw (u1) u5 := by rw [← hu5]; exact nwa _ _
            rw [hu5] at BB ⊢
            obtain ⟨gb, hgb⟩ : ∃ q, q = (u1).heap.size := ⟨_, rfl⟩
            rw [← hgb] at BB ⊢
            have HNE : gb ≠ ga := by rw [hgb]; have := (OW.lt ga rfl).2; omega
            have OW := ownsRow_keep OW (fun q hq => nu5.block q (OW.lt q hq).2 (fun f => f))
            have nb := nb.tr nu5
            clear hu5 hgb nu5
            refine hK.out _ _ (nb) (fun hS0 => ?_)
            try simp only [Act.put, List.setIfInBounds_toArray, List.set_cons_zero, List.set_cons_succ]
            refine wpAnyH_ready (rs := [2]) (by kernel_rfl) (by simp) ?_
            refine (AllReadyH.cons (o := ({ dst := some 80, op := Op.call { callee := Callee.builtin Builtin.append, args := #[Operand.tmp 78, Operand.tmp 79], argTypes := #[25, 25] }, type := 25, pos := "outright.go:74", after := #[{ on := 0, ground := Ground.data }, { on := 1, ground := Ground.data }], guard := none } : Oper)) rfl (fun K' hK => ?_) AllReadyH.nil)
            refine step_app_none rfl (.tmp 78) (.tmp 79) 25 rfl 24 i0 Tryd.underlying25 HI0.out.1 (.slice (some ⟨ga, 0, none⟩) 0 0) (by kernel_rfl) OW (by kernel_rfl) ?_
            refine hK.out _ _ (nb) (fun hS0 => ?_)
            try simp only [Act.put, List.setIfInBounds_toArray, List.set_cons_zero, List.set_cons_succ]
            refine wpAnyH_ready (rs := [5]) (by kernel_rfl) (by simp) ?_
            refine (AllReadyH.cons (o := ({ dst := some 83, op := Op.call { callee := Callee.builtin Builtin.append, args := #[Operand.tmp 80, Operand.tmp 82], argTypes := #[25, 25] }, type := 25, pos := "outright.go:74", after := #[{ on := 2, ground := Ground.data }, { on := 4, ground := Ground.data }, { on := 2, ground := Ground.chain }], guard := none } : Oper)) rfl (fun K' hK => ?_) AllReadyH.nil)
            refine step_two rfl (.tmp 80) (.tmp 82) 25 rfl w6.heap.size 24 i0 (.agg z32) 32 32 Tryd.underlying25 HI0.out.1 HI0.out.2.1 HI0.out.2.2.1 HI0.out.2.2.2 z32_size (by decide) (.slice (some ⟨ga, 0, none⟩) 0 0) (0) ([]) (by kernel_rfl) (own_mono OW LA) ⟨gb, 0, none⟩ 1 1 (hbs rt).toList (by kernel_rfl) (by simp [hrts]) (fun j u hu => by rw [addZ, cell_of BB]; simpa using hu) (hbs_one _) (by unfold maxLen; omega) (by omega) nb.size ?_
            intro v2 u7 o2 t2
            have nb : Nw w6 u7 := nb.trans t2.fr (fun j hj e => by have := (own_mono OW LA).lt j e; omega)
            obtain ⟨ya, yc, rfl⟩ := ownsRow_form o2
            clear t2
            refine hK.out _ _ (nb) (fun hS0 => ?_)
            try simp only [Act.put, List.setIfInBounds_toArray, List.set_cons_zero, List.set_cons_succ]
            refine wpAnyH_ready (rs := [6]) (by kernel_rfl) (by simp) ?_
            refine (AllReadyH.cons (o := ({ dst := some 12, op := Op.assign (Operand.tmp 83), type := 25, pos := "outright.go:74", after := #[{ on := 5, ground := Ground.data }, { on := 5, ground := Ground.chain }, { on := 0, ground := Ground.phase }, { on := 1, ground := Ground.phase }, { on := 2, ground := Ground.phase }, { on := 3, ground := Ground.phase }, { on := 4, ground := Ground.phase }, { on := 5, ground := Ground.phase }], guard := none } : Oper)) rfl (fun K' hK => ?_) AllReadyH.nil)
            go_simp
            refine hK.out _ _ (nb) (fun hS0 => ?_)
            try simp only [Act.put, List.setIfInBounds_toArray, List.set_cons_zero, List.set_cons_succ]
            refine wpAnyH_done (by kernel_rfl) ?_ _
            go_wp2_with fail
            go_meet
            exact ⟨ya, yc, rfl, by simpa [hsc_app, hsc_one] using o2, nb⟩
        · refine step_build1 rfl (.tmp 81) rfl (hbs rt) (by kernel_rfl) hrts ?_
          have BB := heap_new (w6.drew) (.cells (hbs rt) 24)
          obtain ⟨u8, hu8⟩ : ∃ q, (w6.drew).alloc (.cells (hbs rt) 24) = q := ⟨_, rfl⟩
          have nu8 : Nw (w6.drew) u8 := by rw [← hu8]; exact nwa _ _
          rw [hu8] at BB ⊢
          obtain ⟨gb, hgb⟩ : ∃ q, q = (w6.drew).heap.size := ⟨_, rfl⟩
          rw [← hgb] at BB ⊢
          have nb := nb.tr nu8
          clear hu8 hgb nu8
          refine hK.out _ _ (nb) (fun hS0 => ?_)
          try simp only [Act.put, List.setIfInBounds_toArray, List.set_cons_zero, List.set_cons_succ]
          refine wpAnyH_ready (rs := [0]) (by kernel_rfl) (by simp) ?_
          refine (AllReadyH.cons (o := ({ dst := some 78, op := Op.buildSlice 25 0 #[], type := 25, pos := "outright.go:74", after := #[], guard := none } : Oper)) rfl (fun K' hK => ?_) AllReadyH.nil)
          refine step_build0V rfl rfl ?_
          have OW := own_emptyV (u8)
          obtain ⟨u9, hu9⟩ : ∃ q, (u8).alloc (.cells #[] 24) = q := ⟨_, rfl⟩
          have nu9 : Nw (u8) u9 := by rw [← hu9]; exact nwa _ _
          rw [hu9] at OW ⊢
          obtain ⟨ga, hga⟩ : ∃ q, q = (u8).heap.size := ⟨_, rfl⟩
          have LA : w6.heap.size ≤ ga := by rw [hga]; exact nb.size
          rw [← hga] at OW ⊢
          have HNE : gb ≠ ga := by rw [hga]; have := heap_lt BB; omega
          have BB := (nu9.block _ (heap_lt BB) (fun f => f)).trans BB
          have nb := nb.tr nu9
          clear hu9 hga nu9
          refine hK.out _ _ (nb) (fun hS0 => ?_)
          try simp only [Act.put, List.setIfInBounds_toArray, List.set_cons_zero, List.set_cons_succ]
          refine wpAnyH_ready (rs := [2]) (by kernel_rfl) (by simp) ?_
          refine (AllReadyH.cons (o := ({ dst := some 80, op := Op.call { callee := Callee.builtin Builtin.append, args := #[Operand.tmp 78, Operand.tmp 79], argTypes := #[25, 25] }, type := 25, pos := "outright.go:74", after := #[{ on := 0, ground := Ground.data }, { on := 1, ground := Ground.data }], guard := none } : Oper)) rfl (fun K' hK => ?_) AllReadyH.nil)
          refine step_app_none rfl (.tmp 78) (.tmp 79) 25 rfl 24 i0 Tryd.underlying25 HI0.out.1 (.slice (some ⟨ga, 0, none⟩) 0 0) (by kernel_rfl) OW (by kernel_rfl) ?_
          refine hK.out _ _ (nb) (fun hS0 => ?_)
          try simp only [Act.put, List.setIfInBounds_toArray, List.set_cons_zero, List.set_cons_succ]
          refine wpAnyH_ready (rs := [5]) (by kernel_rfl) (by simp) ?_
          refine (AllReadyH.cons (o := ({ dst := some 83, op := Op.call { callee := Callee.builtin Builtin.append, args := #[Operand.tmp 80, Operand.tmp 82], argTypes := #[25, 25] }, type := 25, pos := "outright.go:74", after := #[{ on := 2, ground := Ground.data }, { on := 4, ground := Ground.data }, { on := 2, ground := Ground.chain }], guard := none } : Oper)) rfl (fun K' hK => ?_) AllReadyH.nil)
          refine step_two rfl (.tmp 80) (.tmp 82) 25 rfl w6.heap.size 24 i0 (.agg z32) 32 32 Tryd.underlying25 HI0.out.1 HI0.out.2.1 HI0.out.2.2.1 HI0.out.2.2.2 z32_size (by decide) (.slice (some ⟨ga, 0, none⟩) 0 0) (0) ([]) (by kernel_rfl) (own_mono OW LA) ⟨gb, 0, none⟩ 1 1 (hbs rt).toList (by kernel_rfl) (by simp [hrts]) (fun j u hu => by rw [addZ, cell_of BB]; simpa using hu) (hbs_one _) (by unfold maxLen; omega) (by omega) nb.size ?_
          intro v2 u11 o2 t2
          have nb : Nw w6 u11 := nb.trans t2.fr (fun j hj e => by have := (own_mono OW LA).lt j e; omega)
          obtain ⟨ya, yc, rfl⟩ := ownsRow_form o2
          clear t2
          refine hK.out _ _ (nb) (fun hS0 => ?_)
          try simp only [Act.put, List.setIfInBounds_toArray, List.set_cons_zero, List.set_cons_succ]
          refine wpAnyH_ready (rs := [6]) (by kernel_rfl) (by simp) ?_
          refine (AllReadyH.cons (o := ({ dst := some 12, op := Op.assign (Operand.tmp 83), type := 25, pos := "outright.go:74", after := #[{ on := 5, ground := Ground.data }, { on := 5, ground := Ground.chain }, { on := 0, ground := Ground.phase }, { on := 1, ground := Ground.phase }, { on := 2, ground := Ground.phase }, { on := 3, ground := Ground.phase }, { on := 4, ground := Ground.phase }, { on := 5, ground := Ground.phase }], guard := none } : Oper)) rfl (fun K' hK => ?_) AllReadyH.nil)
          go_simp
          refine hK.out _ _ (nb) (fun hS0 => ?_)
          try simp only [Act.put, List.setIfInBounds_toArray, List.set_cons_zero, List.set_cons_succ]
          refine wpAnyH_done (by kernel_rfl) ?_ _
          go_wp2_with fail
          go_meet
          exact ⟨ya, yc, rfl, by simpa [hsc_app, hsc_one] using o2, nb⟩
      · have CLp : Hid ((hsc pl).length = pn * 32) := OP6.out.1
        have CWp : Hid (∀ V, Nw w6 V → ∀ j u, (hsc pl)[j]? = some u → V.cell? ((⟨pg, 0, none⟩ : Addr).add j) = some u) := fun V nV j u hu => nV.cellOf (OP6.out.cells (g := pg) rfl j u hu)
        have C1p : Hid (∀ u ∈ hsc pl, u.oneCell' = true) := hsc_cellV _
        have nb : Nw w6 w6.drew := (Fr.refl _ _).drew
        refine wp_region_held_drew (S := (fun V => Nw w6 V)) (by kernel_rfl) (nb) ?_
        intro hS0
        refine wpAnyH_take (i := 1) (oi := ({ dst := some 79, op := Op.move (Operand.tmp 9), type := 25, pos := "outright.go:74", after := #[], guard := none } : Oper)) (v := .slice (some ⟨pg, 0, none⟩) pn pc) rfl (by kernel_rfl) (by kernel_rfl) (by kernel_rfl) (fun _ _ _ h => h) (Or.inl ⟨by rfl, by intro w hw; go_simp⟩) hS0 ?_
        try simp only [Act.put, List.setIfInBounds_toArray, List.set_cons_zero, List.set_cons_succ]
        refine wpAnyH_take (i := 3) (oi := ({ dst := some 81, op := Op.load 24 (Operand.tmp 8), type := 24, pos := "outright.go:74", after := #[], guard := none } : Oper)) (v := .agg (hbs rt)) rfl (by kernel_rfl) (by kernel_rfl) (by kernel_rfl) (fun _ _ _ h => h) (yields_loadV (by kernel_rfl) (.tmp 8) 24 32 rfl Tryd.isAgg24 Tryd.sizeOf24 rb (0) rfl (hbs rt) hrts (fun w hw => HRTw6.out w hw)) hS0 ?_
        try simp only [Act.put, List.setIfInBounds_toArray, List.set_cons_zero, List.set_cons_succ]
        refine wpAnyH_ready (rs := [0, 4]) (by kernel_rfl) (by simp) ?_
        refine (AllReadyH.cons (o := ({ dst := some 78, op := Op.buildSlice 25 0 #[], type := 25, pos := "outright.go:74", after := #[], guard := none } : Oper)) rfl (fun K' hK => ?_) (AllReadyH.cons (o := ({ dst := some 82, op := Op.buildSlice 25 1 #[(0, Operand.tmp 81)], type := 25, pos := "outright.go:74", after := #[{ on := 3, ground := Ground.data }], guard := none } : Oper)) rfl (fun K' hK => ?_) AllReadyH.nil))
        · refine step_build0V rfl rfl ?_
          have OW := own_emptyV (w6.drew)
          obtain ⟨u1, hu1⟩ : ∃ q, (w6.drew).alloc (.cells #[] 24) = q := ⟨_, rfl⟩
          have nu1 : Nw (w6.drew) u1 := by rw [← hu1]; exact nwa _ _
          rw [hu1] at OW ⊢
          obtain ⟨ga, hga⟩ : ∃ q, q = (w6.drew).heap.size := ⟨_, rfl⟩
          have LA : w6.heap.size ≤ ga := by rw [hga]; exact nb.size
          rw [← hga] at OW ⊢
          have nb := nb.tr nu1
          clear hu1 hga nu1
          refine hK.out _ _ (nb) (fun hS0 => ?_)
          try simp only [Act.put, List.setIfInBounds_toArray, List.set_cons_zero, List.set_cons_succ]
          refine wpAnyH_ready (rs := [2, 4]) (by kernel_rfl) (by simp) ?_
          refine (AllReadyH.cons (o := ({ dst := some 80, op := Op.call { callee := Callee.builtin Builtin.append, args := #[Operand.tmp 78, Operand.tmp 79], argTypes := #[25, 25] }, type := 25, pos := "outright.go:74", after := #[{ on := 0, ground := Ground.data }, { on := 1, ground := Ground.data }], guard := none } : Oper)) rfl (fun K' hK => ?_) (AllReadyH.cons (o := ({ dst := some 82, op := Op.buildSlice 25 1 #[(0, Operand.tmp 81)], type := 25, pos := "outright.go:74", after := #[{ on := 3, ground := Ground.data }], guard := none } : Oper)) rfl (fun K' hK => ?_) AllReadyH.nil))
          · refine step_two rfl (.tmp 78) (.tmp 79) 25 rfl ga 24 i0 (.agg z32) 32 32 Tryd.underlying25 HI0.out.1 HI0.out.2.1 HI0.out.2.2.1 HI0.out.2.2.2 z32_size (by decide) (.slice (some ⟨ga, 0, none⟩) 0 0) 0 [] (by kernel_rfl) OW ⟨pg, 0, none⟩ pn pc (hsc pl) (by kernel_rfl) CLp.out (CWp.out _ nb) C1p.out (by unfold maxLen; omega) (by omega) (by have := (OW.lt ga rfl).2; omega) ?_
            intro v1 u2 OW t1
            have nb : Nw w6 u2 := nb.trans t1.fr (fun j hj e => by simp only [Value.ownBlock, Option.some.injEq] at e; omega)
            obtain ⟨xa, xc, rfl⟩ := ownsRow_form OW
            clear t1
            refine hK.out _ _ (nb) (fun hS0 => ?_)
            try simp only [Act.put, List.setIfInBounds_toArray, List.set_cons_zero, List.set_cons_succ]
            refine wpAnyH_ready (rs := [4]) (by kernel_rfl) (by simp) ?_
            refine (AllReadyH.cons (o := ({ dst := some 82, op := Op.buildSlice 25 1 #[(0, Operand.tmp 81)], type := 25, pos := "outright.go:74", after := #[{ on := 3, ground := Ground.data }], guard := none } : Oper)) rfl (fun K' hK => ?_) AllReadyH.nil)
            refine step_build1 rfl (.tmp 81) rfl (hbs rt) (by kernel_rfl) hrts ?_
            have BB := heap_new (u2) (.cells (hbs rt) 24)
            obtain ⟨u3, hu3⟩ : ∃ q, (u2).alloc (.cells (hbs rt) 24) = q := ⟨_, rfl⟩
            have nu3 : Nw (u2) u3 := by rw [← hu3]; exact nwa _ _
            rw [hu3] at BB ⊢
            obtain ⟨gb, hgb⟩ : ∃ q, q = (u2).heap.size := ⟨_, rfl⟩
            rw [← hgb] at BB ⊢
            have HNE : True := trivial
            have OW := ownsRow_keep OW (fun q hq => nu3.block q (OW.lt q hq).2 (fun f => f))
            have nb := nb.tr nu3
            clear hu3 hgb nu3
            refine hK.out _ _ (nb) (fun hS0 => ?_)
            try simp only [Act.put, List.setIfInBounds_toArray, List.set_cons_zero, List.set_cons_succ]
            refine wpAnyH_ready (rs := [5]) (by kernel_rfl) (by simp) ?_
            refine (AllReadyH.cons (o := ({ dst := some 83, op := Op.call { callee := Callee.builtin Builtin.append, args := #[Operand.tmp 80, Operand.tmp 82], argTypes := #[25, 25] }, type := 25, pos := "outright.go:74", after := #[{ on := 2, ground := Ground.data }, { on := 4, ground := Ground.data }, { on := 2, ground := Ground.chain }], guard := none } : Oper)) rfl (fun K' hK => ?_) AllReadyH.nil)
            refine step_two rfl (.tmp 80) (.tmp 82) 25 rfl w6.heap.size 24 i0 (.agg z32) 32 32 Tryd.underlying25 HI0.out.1 HI0.out.2.1 HI0.out.2.2.1 HI0.out.2.2.2 z32_size (by decide) (.slice xa (0 + pn) xc) (0 + pn) ([] ++ hsc pl) (by kernel_rfl) (own_mono OW LA) ⟨gb, 0, none⟩ 1 1 (hbs rt).toList (by kernel_rfl) (by simp [hrts]) (fun j u hu => by rw [addZ, cell_of BB]; simpa using hu) (hbs_one _) (by unfold maxLen; omega) (by omega) nb.size ?_
            intro v2 u4 o2 t2
            have nb : Nw w6 u4 := nb.trans t2.fr (fun j hj e => by have := (own_mono OW LA).lt j e; omega)
            obtain ⟨ya, yc, rfl⟩ := ownsRow_form o2
            clear t2
            refine hK.out _ _ (nb) (fun hS0 => ?_)
            try simp only [Act.put, List.setIfInBounds_toArray, List.set_cons_zero, List.set_cons_succ]
            refine wpAnyH_ready (rs := [6]) (by kernel_rfl) (by simp) ?_
            refine (AllReadyH.cons (o := ({ dst := some 12, op := Op.assign (Operand.tmp 83), type := 25, pos := "outright.go:74", after := #[{ on := 5, ground := Ground.data }, { on := 5, ground := Ground.chain }, { on := 0, ground := Ground.phase }, { on := 1, ground := Ground.phase }, { on := 2, ground := Ground.phase }, { on := 3, ground := Ground.phase }, { on := 4, ground := Ground.phase }, { on := 5, ground := Ground.phase }], guard := none } : Oper)) rfl (fun K' hK => ?_) AllReadyH.nil)
            go_simp
            refine hK.out _ _ (nb) (fun hS0 => ?_)
            try simp only [Act.put, List.setIfInBounds_toArray, List.set_cons_zero, List.set_cons_succ]
            refine wpAnyH_done (by kernel_rfl) ?_ _
            go_wp2_with fail
            go_meet
            rw [Nat.zero_add] at o2
            exact ⟨ya, yc, rfl, by rw [hsc_app, hsc_one]; simpa using o2, nb⟩
          · refine step_build1 rfl (.tmp 81) rfl (hbs rt) (by kernel_rfl) hrts ?_
            have BB := heap_new (u1) (.cells (hbs rt) 24)
            obtain ⟨u5, hu5⟩ : ∃ q, (u1).alloc (.cells (hbs rt) 24) = q := ⟨_, rfl⟩
            have nu5 : Nw (u1) u5 := by rw [← hu5]; exact nwa _ _
            rw [hu5] at BB ⊢
            obtain ⟨gb, hgb⟩ : ∃ q, q = (u1).heap.size := ⟨_, rfl⟩
            rw [← hgb] at BB ⊢
            have HNE : gb ≠ ga := by rw [hgb]; have := (OW.lt ga rfl).2; omega
            have OW := ownsRow_keep OW (fun q hq => nu5.block q (OW.lt q hq).2 (fun f => f))
            have nb := nb.tr nu5
            clear hu5 hgb nu5
            refine hK.out _ _ (nb) (fun hS0 => ?_)
            try simp only [Act.put, List.setIfInBounds_toArray, List.set_cons_zero, List.set_cons_succ]
            refine wpAnyH_ready (rs := [2]) (by kernel_rfl) (by simp) ?_
            refine (AllReadyH.cons (o := ({ dst := some 80, op := Op.call { callee := Callee.builtin Builtin.append, args := #[Operand.tmp 78, Operand.tmp 79], argTypes := #[25, 25] }, type := 25, pos := "outright.go:74", after := #[{ on := 0, ground := Ground.data }, { on := 1, ground := Ground.data }], guard := none } : Oper)) rfl (fun K' hK => ?_) AllReadyH.nil)
            refine step_two rfl (.tmp 78) (.tmp 79) 25 rfl ga 24 i0 (.agg z32) 32 32 Tryd.underlying25 HI0.out.1 HI0.out.2.1 HI0.out.2.2.1 HI0.out.2.2.2 z32_size (by decide) (.slice (some ⟨ga, 0, none⟩) 0 0) 0 [] (by kernel_rfl) OW ⟨pg, 0, none⟩ pn pc (hsc pl) (by kernel_rfl) CLp.out (CWp.out _ nb) C1p.out (by unfold maxLen; omega) (by omega) (by have := (OW.lt ga rfl).2; omega) ?_
            intro v1 u6 OW t1
            have nb : Nw w6 u6 := nb.trans t1.fr (fun j hj e => by simp only [Value.ownBlock, Option.some.injEq] at e; omega)
            have BB := (t1.fr.block _ (heap_lt BB) (fun e => by simp only [Value.ownBlock, Option.some.injEq] at e; omega)).trans BB
            obtain ⟨xa, xc, rfl⟩ := ownsRow_form OW
            clear t1
            refine hK.out _ _ (nb) (fun hS0 => ?_)
            try simp only [Act.put, List.setIfInBounds_toArray, List.set_cons_zero, List.set_cons_succ]
            refine wpAnyH_ready (rs := [5]) (by kernel_rfl) (by simp) ?_
            refine (AllReadyH.cons (o := ({ dst := some 83, op := Op.call { callee := Callee.builtin Builtin.append, args := #[Operand.tmp 80, Operand.tmp 82], argTypes := #[25, 25] }, type := 25, pos := "outright.go:74", after := #[{ on := 2, ground := Ground.data }, { on := 4, ground := Ground.data }, { on := 2, ground := Ground.chain }], guard := none } : Oper)) rfl (fun K' hK => ?_) AllReadyH.nil)
            refine step_two rfl (.tmp 80) (.tmp 82) 25 rfl w6.heap.size 24 i0 (.agg z32) 32 32 Tryd.underlying25 HI0.out.1 HI0.out.2.1 HI0.out.2.2.1 HI0.out.2.2.2 z32_size (by decide) (.slice xa (0 + pn) xc) (0 + pn) ([] ++ hsc pl) (by kernel_rfl) (own_mono OW LA) ⟨gb, 0, none⟩ 1 1 (hbs rt).toList (by kernel_rfl) (by simp [hrts]) (fun j u hu => by rw [addZ, cell_of BB]; simpa using hu) (hbs_one _) (by unfold maxLen; omega) (by omega) nb.size ?_
            intro v2 u7 o2 t2
            have nb : Nw w6 u7 := nb.trans t2.fr (fun j hj e => by have := (own_mono OW LA).lt j e; omega)
            obtain ⟨ya, yc, rfl⟩ := ownsRow_form o2
            clear t2
            refine hK.out _ _ (nb) (fun hS0 => ?_)
            try simp only [Act.put, List.setIfInBounds_toArray, List.set_cons_zero, List.set_cons_succ]
            refine wpAnyH_ready (rs := [6]) (by kernel_rfl) (by simp) ?_
            refine (AllReadyH.cons (o := ({ dst := some 12, op := Op.assign (Operand.tmp 83), type := 25, pos := "outright.go:74", after := #[{ on := 5, ground := Ground.data }, { on := 5, ground := Ground.chain }, { on := 0, ground := Ground.phase }, { on := 1, ground := Ground.phase }, { on := 2, ground := Ground.phase }, { on := 3, ground := Ground.phase }, { on := 4, ground := Ground.phase }, { on := 5, ground := Ground.phase }], guard := none } : Oper)) rfl (fun K' hK => ?_) AllReadyH.nil)
            go_simp
            refine hK.out _ _ (nb) (fun hS0 => ?_)
            try simp only [Act.put, List.setIfInBounds_toArray, List.set_cons_zero, List.set_cons_succ]
            refine wpAnyH_done (by kernel_rfl) ?_ _
            go_wp2_with fail
            go_meet
            rw [Nat.zero_add] at o2
            exact ⟨ya, yc, rfl, by rw [hsc_app, hsc_one]; simpa using o2, nb⟩
        · refine step_build1 rfl (.tmp 81) rfl (hbs rt) (by kernel_rfl) hrts ?_
          have BB := heap_new (w6.drew) (.cells (hbs rt) 24)
          obtain ⟨u8, hu8⟩ : ∃ q, (w6.drew).alloc (.cells (hbs rt) 24) = q := ⟨_, rfl⟩
          have nu8 : Nw (w6.drew) u8 := by rw [← hu8]; exact nwa _ _
          rw [hu8] at BB ⊢
          obtain ⟨gb, hgb⟩ : ∃ q, q = (w6.drew).heap.size := ⟨_, rfl⟩
          rw [← hgb] at BB ⊢
          have nb := nb.tr nu8
          clear hu8 hgb nu8
          refine hK.out _ _ (nb) (fun hS0 => ?_)
          try simp only [Act.put, List.setIfInBounds_toArray, List.set_cons_zero, List.set_cons_succ]
          refine wpAnyH_ready (rs := [0]) (by kernel_rfl) (by simp) ?_
          refine (AllReadyH.cons (o := ({ dst := some 78, op := Op.buildSlice 25 0 #[], type := 25, pos := "outright.go:74", after := #[], guard := none } : Oper)) rfl (fun K' hK => ?_) AllReadyH.nil)
          refine step_build0V rfl rfl ?_
          have OW := own_emptyV (u8)
          obtain ⟨u9, hu9⟩ : ∃ q, (u8).alloc (.cells #[] 24) = q := ⟨_, rfl⟩
          have nu9 : Nw (u8) u9 := by rw [← hu9]; exact nwa _ _
          rw [hu9] at OW ⊢
          obtain ⟨ga, hga⟩ : ∃ q, q = (u8).heap.size := ⟨_, rfl⟩
          have LA : w6.heap.size ≤ ga := by rw [hga]; exact nb.size
          rw [← hga] at OW ⊢
          have HNE : gb ≠ ga := by rw [hga]; have := heap_lt BB; omega
          have BB := (nu9.block _ (heap_lt BB) (fun f => f)).trans BB
          have nb := nb.tr nu9
          clear hu9 hga nu9
          refine hK.out _ _ (nb) (fun hS0 => ?_)
          try simp only [Act.put, List.setIfInBounds_toArray, List.set_cons_zero, List.set_cons_succ]
          refine wpAnyH_ready (rs := [2]) (by kernel_rfl) (by simp) ?_
          refine (AllReadyH.cons (o := ({ dst := some 80, op := Op.call { callee := Callee.builtin Builtin.append, args := #[Operand.tmp 78, Operand.tmp 79], argTypes := #[25, 25] }, type := 25, pos := "outright.go:74", after := #[{ on := 0, ground := Ground.data }, { on := 1, ground := Ground.data }], guard := none } : Oper)) rfl (fun K' hK => ?_) AllReadyH.nil)
          refine step_two rfl (.tmp 78) (.tmp 79) 25 rfl ga 24 i0 (.agg z32) 32 32 Tryd.underlying25 HI0.out.1 HI0.out.2.1 HI0.out.2.2.1 HI0.out.2.2.2 z32_size (by decide) (.slice (some ⟨ga, 0, none⟩) 0 0) 0 [] (by kernel_rfl) OW ⟨pg, 0, none⟩ pn pc (hsc pl) (by kernel_rfl) CLp.out (CWp.out _ nb) C1p.out (by unfold maxLen; omega) (by omega) (by have := (OW.lt ga rfl).2; omega) ?_
          intro v1 u10 OW t1
          have nb : Nw w6 u10 := nb.trans t1.fr (fun j hj e => by simp only [Value.ownBlock, Option.some.injEq] at e; omega)
          have BB := (t1.fr.block _ (heap_lt BB) (fun e => by simp only [Value.ownBlock, Option.some.injEq] at e; omega)).trans BB
          obtain ⟨xa, xc, rfl⟩ := ownsRow_form OW
          clear t1
          refine hK.out _ _ (nb) (fun hS0 => ?_)
          try simp only [Act.put, List.setIfInBounds_toArray, List.set_cons_zero, List.set_cons_succ]
          refine wpAnyH_ready (rs := [5]) (by kernel_rfl) (by simp) ?_
          refine (AllReadyH.cons (o := ({ dst := some 83, op := Op.call { callee := Callee.builtin Builtin.append, args := #[Operand.tmp 80, Operand.tmp 82], argTypes := #[25, 25] }, type := 25, pos := "outright.go:74", after := #[{ on := 2, ground := Ground.data }, { on := 4, ground := Ground.data }, { on := 2, ground := Ground.chain }], guard := none } : Oper)) rfl (fun K' hK => ?_) AllReadyH.nil)
          refine step_two rfl (.tmp 80) (.tmp 82) 25 rfl w6.heap.size 24 i0 (.agg z32) 32 32 Tryd.underlying25 HI0.out.1 HI0.out.2.1 HI0.out.2.2.1 HI0.out.2.2.2 z32_size (by decide) (.slice xa (0 + pn) xc) (0 + pn) ([] ++ hsc pl) (by kernel_rfl) (own_mono OW LA) ⟨gb, 0, none⟩ 1 1 (hbs rt).toList (by kernel_rfl) (by simp [hrts]) (fun j u hu => by rw [addZ, cell_of BB]; simpa using hu) (hbs_one _) (by unfold maxLen; omega) (by omega) nb.size ?_
          intro v2 u11 o2 t2
          have nb : Nw w6 u11 := nb.trans t2.fr (fun j hj e => by have := (own_mono OW LA).lt j e; omega)
          obtain ⟨ya, yc, rfl⟩ := ownsRow_form o2
          clear t2
          refine hK.out _ _ (nb) (fun hS0 => ?_)
          try simp only [Act.put, List.setIfInBounds_toArray, List.set_cons_zero, List.set_cons_succ]
          refine wpAnyH_ready (rs := [6]) (by kernel_rfl) (by simp) ?_
          refine (AllReadyH.cons (o := ({ dst := some 12, op := Op.assign (Operand.tmp 83), type := 25, pos := "outright.go:74", after := #[{ on := 5, ground := Ground.data }, { on := 5, ground := Ground.chain }, { on := 0, ground := Ground.phase }, { on := 1, ground := Ground.phase }, { on := 2, ground := Ground.phase }, { on := 3, ground := Ground.phase }, { on := 4, ground := Ground.phase }, { on := 5, ground := Ground.phase }], guard := none } : Oper)) rfl (fun K' hK => ?_) AllReadyH.nil)
          go_simp
          refine hK.out _ _ (nb) (fun hS0 => ?_)
          try simp only [Act.put, List.setIfInBounds_toArray, List.set_cons_zero, List.set_cons_succ]
          refine wpAnyH_done (by kernel_rfl) ?_ _
          go_wp2_with fail
          go_meet
          rw [Nat.zero_add] at o2
          exact ⟨ya, yc, rfl, by rw [hsc_app, hsc_one]; simpa using o2, nb⟩
    case rest =>
    obtain ⟨ma, mc, rfl, om, nm⟩ := hcut
    obtain ⟨w7, hw7⟩ : ∃ x, x = wc := ⟨_, rfl⟩
    rw [← hw7] at om nm ⊢
    have OM7 : Hid (w7.ownsRow w6.heap.size 24 32 (.slice ma (pn + 1) mc) (pn + 1) (hsc (pl ++ [rt]))) := om
    have Nw7 := hid_of nm
    have N7 : Hid (Nw w w7) := N6.out.tr Nw7.out
    have M7 : Hid (Nw w3 w7) := M6.out.tr Nw7.out
    have HRTw7 : Hid (∀ V, Nw w7 V → ∀ j, j < 32 → V.cell? ⟨rb, 0 + j, none⟩ = (hbs rt)[j]?) := fun V hV => HRTw3.out V (M7.out.tr hV)
    have HLVw7 : Hid (∀ V, Nw w7 V → ∀ j, j < 32 → V.cell? ⟨lg, lo + m * 32 + j, none⟩ = (hbs x)[j]?) := fun V hV => HLV.out V (N7.out.tr hV)
    have hmo32 : ∀ y ∈ pl ++ [rt], y.length = 32 := fun y hy => by
      rcases List.mem_append.1 hy with h | h
      · exact HP32.out y h
      · rw [List.mem_singleton.1 h]; exact RT32.out
    have hmol : (pl ++ [rt]).length = pn + 1 := by rw [List.length_append, HPN.out]; rfl
    have HMO : Hid (∀ V, Nw w7 V → Hss V (.slice ma (pl ++ [rt]).length mc) (pl ++ [rt])) := fun V hV => (Hss.of hmo32 (by rw [hmol]; exact OM7.out)).nw hmo32 hV
    have QI1 : Hid (∀ V, Nw w7 V → Calls Tryd.prog 14 #[.int .u64 (m : Int), .int .u64 (n : Int), .agg (hbs x), .slice ma (pn + 1) mc, .agg (hbs rt)] V fun e w' => e = .returned (sen (a 9)) ∧ Nw V w') := fun V hV => by
      have := QI.out V m (pl ++ [rt]) ma mc HMN.out.1 hmo32 (by rw [hmol]; omega) (N7.out.tr hV) (HMO.out V hV)
      rw [ic_len HIN.out HPL.out (by rw [hmol, HPN.out]; omega), hmol] at this
      exact this
    clear hw7 om nm hmo32 hmol OM7
    go_upto_region 12 with fail
    go_cut [117] (fun v wx => v = .bool false ∧ Nw w7 wx)
    case first => as_aux_lemma =>
      by_cases hp0 : pn = 0
      · subst hp0
        have hpos : ¬ (0 : Int) < (0 : Int) := by omega
        have nb : Nw w7 w7.drew := (Fr.refl _ _).drew
        refine wp_region_held_drew (S := (fun V => Nw w7 V)) (by kernel_rfl) (nb) ?_
        intro hS0
        refine wpAnyH_take (i := 0) (oi := ({ dst := some 84, op := Op.move (Operand.tmp 1), type := 3, pos := "outright.go:75", after := #[], guard := none } : Oper)) (v := .int .i64 (m : Int)) rfl (by kernel_rfl) (by kernel_rfl) (by kernel_rfl) (fun _ _ _ h => h) (Or.inl ⟨by rfl, by intro w hw; go_simp⟩) hS0 ?_
        try simp only [Act.put, List.setIfInBounds_toArray, List.set_cons_zero, List.set_cons_succ]
        refine wpAnyH_take (i := 1) (oi := ({ dst := some 85, op := Op.convert 3 22 (Operand.tmp 84), type := 22, pos := "outright.go:75", after := #[{ on := 0, ground := Ground.data }], guard := none } : Oper)) (v := .int .u64 (m : Int)) rfl (by kernel_rfl) (by kernel_rfl) (by kernel_rfl) (fun _ _ _ h => h) (Or.inl ⟨by kernel_rfl, by intro w hw; go_simp⟩) hS0 ?_
        try simp only [Act.put, List.setIfInBounds_toArray, List.set_cons_zero, List.set_cons_succ]
        refine wpAnyH_take (i := 2) (oi := ({ dst := some 86, op := Op.move (Operand.tmp 7), type := 3, pos := "outright.go:75", after := #[], guard := none } : Oper)) (v := .int .i64 (n : Int)) rfl (by kernel_rfl) (by kernel_rfl) (by kernel_rfl) (fun _ _ _ h => h) (Or.inl ⟨by rfl, by intro w hw; go_simp⟩) hS0 ?_
        try simp only [Act.put, List.setIfInBounds_toArray, List.set_cons_zero, List.set_cons_succ]
        refine wpAnyH_take (i := 3) (oi := ({ dst := some 87, op := Op.convert 3 22 (Operand.tmp 86), type := 22, pos := "outright.go:75", after := #[{ on := 2, ground := Ground.data }], guard := none } : Oper)) (v := .int .u64 (n : Int)) rfl (by kernel_rfl) (by kernel_rfl) (by kernel_rfl) (fun _ _ _ h => h) (Or.inl ⟨by kernel_rfl, by intro w hw; go_simp⟩) hS0 ?_
        try simp only [Act.put, List.setIfInBounds_toArray, List.set_cons_zero, List.set_cons_succ]
        refine wpAnyH_take (i := 4) (oi := ({ dst := some 88, op := Op.move (Operand.tmp 0), type := 25, pos := "outright.go:75", after := #[], guard := none } : Oper)) (v := .slice (some ⟨lg, lo, none⟩) n cap) rfl (by kernel_rfl) (by kernel_rfl) (by kernel_rfl) (fun _ _ _ h => h) (Or.inl ⟨by rfl, by intro w hw; go_simp⟩) hS0 ?_
        try simp only [Act.put, List.setIfInBounds_toArray, List.set_cons_zero, List.set_cons_succ]
        refine wpAnyH_take (i := 5) (oi := ({ dst := some 89, op := Op.move (Operand.tmp 1), type := 3, pos := "outright.go:75", after := #[], guard := none } : Oper)) (v := .int .i64 (m : Int)) rfl (by kernel_rfl) (by kernel_rfl) (by kernel_rfl) (fun _ _ _ h => h) (Or.inl ⟨by rfl, by intro w hw; go_simp⟩) hS0 ?_
        try simp only [Act.put, List.setIfInBounds_toArray, List.set_cons_zero, List.set_cons_succ]
        refine wpAnyH_take (i := 6) (oi := ({ dst := some 90, op := Op.indexAddr 25 (Operand.tmp 88) (Operand.tmp 89), type := 0, pos := "outright.go:75", after := #[{ on := 4, ground := Ground.data }, { on := 5, ground := Ground.data }], guard := none } : Oper)) (v := .pointer (some ⟨lg, lo + m * 32, none⟩)) rfl (by kernel_rfl) (by kernel_rfl) (by kernel_rfl) (fun _ _ _ h => h) (Or.inl ⟨by kernel_rfl, by intro w hw; go_simp; try (intro hq; omega)⟩) hS0 ?_
        try simp only [Act.put, List.setIfInBounds_toArray, List.set_cons_zero, List.set_cons_succ]
        refine wpAnyH_take (i := 7) (oi := ({ dst := some 91, op := Op.load 24 (Operand.tmp 90), type := 24, pos := "outright.go:75", after := #[{ on := 6, ground := Ground.data }], guard := none } : Oper)) (v := .agg (hbs x)) rfl (by kernel_rfl) (by kernel_rfl) (by kernel_rfl) (fun _ _ _ h => h) (yields_loadV (by kernel_rfl) (.tmp 90) 24 32 rfl Tryd.isAgg24 Tryd.sizeOf24 lg (lo + m * 32) rfl (hbs x) hxs (fun w hw => HLVw7.out w hw)) hS0 ?_
        try simp only [Act.put, List.setIfInBounds_toArray, List.set_cons_zero, List.set_cons_succ]
        refine wpAnyH_take (i := 8) (oi := ({ dst := some 92, op := Op.move (Operand.tmp 12), type := 25, pos := "outright.go:75", after := #[], guard := none } : Oper)) (v := .slice ma (0 + 1) mc) rfl (by kernel_rfl) (by kernel_rfl) (by kernel_rfl) (fun _ _ _ h => h) (Or.inl ⟨by rfl, by intro w hw; go_simp⟩) hS0 ?_
        try simp only [Act.put, List.setIfInBounds_toArray, List.set_cons_zero, List.set_cons_succ]
        refine wpAnyH_take (i := 9) (oi := ({ dst := some 93, op := Op.load 24 (Operand.tmp 8), type := 24, pos := "outright.go:75", after := #[], guard := none } : Oper)) (v := .agg (hbs rt)) rfl (by kernel_rfl) (by kernel_rfl) (by kernel_rfl) (fun _ _ _ h => h) (yields_loadV (by kernel_rfl) (.tmp 8) 24 32 rfl Tryd.isAgg24 Tryd.sizeOf24 rb (0) rfl (hbs rt) hrts (fun w hw => HRTw7.out w hw)) hS0 ?_
        try simp only [Act.put, List.setIfInBounds_toArray, List.set_cons_zero, List.set_cons_succ]
        refine wpAnyH_ready (rs := [10]) (by kernel_rfl) (by simp) ?_
        refine (AllReadyH.cons (o := ({ dst := some 94, op := Op.call { callee := Callee.value (Operand.func 14), args := #[Operand.tmp 85, Operand.tmp 87, Operand.tmp 91, Operand.tmp 92, Operand.tmp 93], argTypes := #[22, 22, 24, 25, 24] }, type := 31, pos := "outright.go:75", after := #[{ on := 1, ground := Ground.data }, { on := 3, ground := Ground.data }, { on := 7, ground := Ground.data }, { on := 8, ground := Ground.data }, { on := 9, ground := Ground.data }], guard := none } : Oper)) rfl (fun K' hK => ?_) AllReadyH.nil)
        go_simp
        go_wp2_with (go_at_call 14; refine (QI1.out _ nb).mono ?_; rintro ex w101 ⟨rfl, nw101⟩)
        have nb := nb.tr nw101
        refine hK.out _ _ (nb) (fun hS0 => ?_)
        try simp only [Act.put, List.setIfInBounds_toArray, List.set_cons_zero, List.set_cons_succ]
        refine wpAnyH_ready (rs := [11]) (by kernel_rfl) (by simp) ?_
        refine (AllReadyH.cons (o := ({ dst := some 95, op := Op.call { callee := Callee.value (Operand.func 21), args := #[Operand.tmp 94, Operand.const (Value.int IntKind.i64 10)], argTypes := #[31, 3] }, type := 4, pos := "outright.go:75", after := #[{ on := 10, ground := Ground.data }, { on := 10, ground := Ground.chain }], guard := none } : Oper)) rfl (fun K' hK => ?_) AllReadyH.nil)
        go_simp
        go_wp2_with (go_at_call 21; refine (QIS10.out _ (N7.out.tr nb)).mono ?_; rintro ex w102 ⟨rfl, nw102⟩)
        have nb := nb.tr nw102
        refine hK.out _ _ (nb) (fun hS0 => ?_)
        try simp only [Act.put, List.setIfInBounds_toArray, List.set_cons_zero, List.set_cons_succ]
        refine wpAnyH_take (i := 12) (oi := ({ dst := some 96, op := Op.unOp UnOp.not 4 (Operand.tmp 95), type := 4, pos := "outright.go:75", after := #[{ on := 11, ground := Ground.data }], guard := none } : Oper)) (v := .bool false) rfl (by kernel_rfl) (by kernel_rfl) (by kernel_rfl) (fun _ _ _ h => h) (Or.inl ⟨by kernel_rfl, by intro w hw; go_simp⟩) hS0 ?_
        try simp only [Act.put, List.setIfInBounds_toArray, List.set_cons_zero, List.set_cons_succ]
        refine wpAnyH_take (i := 13) (oi := ({ dst := some 97, op := Op.move (Operand.tmp 96), type := 4, pos := "outright.go:75", after := #[{ on := 12, ground := Ground.data }, { on := 11, ground := Ground.chain }], guard := none } : Oper)) (v := .bool false) rfl (by kernel_rfl) (by kernel_rfl) (by kernel_rfl) (fun _ _ _ h => h) (Or.inl ⟨by rfl, by intro w hw; go_simp⟩) hS0 ?_
        try simp only [Act.put, List.setIfInBounds_toArray, List.set_cons_zero, List.set_cons_succ]
        refine wpAnyH_take (i := 14) (oi := ({ dst := some 98, op := Op.move (Operand.tmp 9), type := 25, pos := "outright.go:75", after := #[{ on := 13, ground := Ground.guard }], guard := some (13, false) } : Oper)) (v := .slice pa 0 pc) rfl (by kernel_rfl) (by kernel_rfl) (by kernel_rfl) (fun _ _ _ h => h) (Or.inl ⟨by kernel_rfl, by intro w hw; go_simp⟩) hS0 ?_
        try simp only [Act.put, List.setIfInBounds_toArray, List.set_cons_zero, List.set_cons_succ]
        refine wpAnyH_take (i := 15) (oi := ({ dst := some 99, op := Op.call { callee := Callee.builtin Builtin.len, args := #[Operand.tmp 98], argTypes := #[25] }, type := 3, pos := "outright.go:75", after := #[{ on := 14, ground := Ground.data }, { on := 13, ground := Ground.guard }], guard := some (13, false) } : Oper)) (v := .int .i64 0) rfl (by kernel_rfl) (by kernel_rfl) (by kernel_rfl) (fun _ _ _ h => h) (Or.inl ⟨by kernel_rfl, by intro w hw; go_simp⟩) hS0 ?_
        try simp only [Act.put, List.setIfInBounds_toArray, List.set_cons_zero, List.set_cons_succ]
        refine wpAnyH_take (i := 16) (oi := ({ dst := some 100, op := Op.binOp BinOp.gtr 3 (Operand.tmp 99) (Operand.const (Value.int IntKind.i64 0)) 3, type := 4, pos := "outright.go:75", after := #[{ on := 15, ground := Ground.data }, { on := 13, ground := Ground.guard }], guard := some (13, false) } : Oper)) (v := .bool false) rfl (by kernel_rfl) (by kernel_rfl) (by kernel_rfl) (fun _ _ _ h => h) (Or.inl ⟨by kernel_rfl, by intro w hw; have h1 := hpos; go_simp⟩) hS0 ?_
        try simp only [Act.put, List.setIfInBounds_toArray, List.set_cons_zero, List.set_cons_succ]
        refine wpAnyH_take (i := 17) (oi := ({ dst := some 101, op := Op.move (Operand.tmp 100), type := 4, pos := "outright.go:75", after := #[{ on := 16, ground := Ground.data }, { on := 13, ground := Ground.chain }, { on := 13, ground := Ground.guard }], guard := some (13, false) } : Oper)) (v := .bool false) rfl (by kernel_rfl) (by kernel_rfl) (by kernel_rfl) (fun _ _ _ h => h) (Or.inl ⟨by kernel_rfl, by intro w hw; go_simp⟩) hS0 ?_
        try simp only [Act.put, List.setIfInBounds_toArray, List.set_cons_zero, List.set_cons_succ]
        refine wpAnyH_take (i := 18) (oi := ({ dst := some 102, op := Op.move (Operand.tmp 1), type := 3, pos := "outright.go:75", after := #[{ on := 17, ground := Ground.guard }], guard := some (17, true) } : Oper)) (v := undef) rfl (by kernel_rfl) (by kernel_rfl) (by kernel_rfl) (fun _ _ _ h => h) (Or.inr ⟨by rfl, rfl⟩) hS0 ?_
        try simp only [Act.put, List.setIfInBounds_toArray, List.set_cons_zero, List.set_cons_succ]
        refine wpAnyH_take (i := 19) (oi := ({ dst := some 103, op := Op.convert 3 22 (Operand.tmp 102), type := 22, pos := "outright.go:75", after := #[{ on := 18, ground := Ground.data }, { on := 17, ground := Ground.guard }], guard := some (17, true) } : Oper)) (v := undef) rfl (by kernel_rfl) (by kernel_rfl) (by kernel_rfl) (fun _ _ _ h => h) (Or.inr ⟨by rfl, rfl⟩) hS0 ?_
        try simp only [Act.put, List.setIfInBounds_toArray, List.set_cons_zero, List.set_cons_succ]
        refine wpAnyH_take (i := 20) (oi := ({ dst := some 104, op := Op.move (Operand.tmp 7), type := 3, pos := "outright.go:75", after := #[{ on := 17, ground := Ground.guard }], guard := some (17, true) } : Oper)) (v := undef) rfl (by kernel_rfl) (by kernel_rfl) (by kernel_rfl) (fun _ _ _ h => h) (Or.inr ⟨by rfl, rfl⟩) hS0 ?_
        try simp only [Act.put, List.setIfInBounds_toArray, List.set_cons_zero, List.set_cons_succ]
        refine wpAnyH_take (i := 21) (oi := ({ dst := some 105, op := Op.convert 3 22 (Operand.tmp 104), type := 22, pos := "outright.go:75", after := #[{ on := 20, ground := Ground.data }, { on := 17, ground := Ground.guard }], guard := some (17, true) } : Oper)) (v := undef) rfl (by kernel_rfl) (by kernel_rfl) (by kernel_rfl) (fun _ _ _ h => h) (Or.inr ⟨by rfl, rfl⟩) hS0 ?_
        try simp only [Act.put, List.setIfInBounds_toArray, List.set_cons_zero, List.set_cons_succ]
        refine wpAnyH_take (i := 22) (oi := ({ dst := some 106, op := Op.move (Operand.tmp 0), type := 25, pos := "outright.go:75", after := #[{ on := 17, ground := Ground.guard }], guard := some (17, true) } : Oper)) (v := undef) rfl (by kernel_rfl) (by kernel_rfl) (by kernel_rfl) (fun _ _ _ h => h) (Or.inr ⟨by rfl, rfl⟩) hS0 ?_
        try simp only [Act.put, List.setIfInBounds_toArray, List.set_cons_zero, List.set_cons_succ]
        refine wpAnyH_take (i := 23) (oi := ({ dst := some 107, op := Op.move (Operand.tmp 1), type := 3, pos := "outright.go:75", after := #[{ on := 17, ground := Ground.guard }], guard := some (17, true) } : Oper)) (v := undef) rfl (by kernel_rfl) (by kernel_rfl) (by kernel_rfl) (fun _ _ _ h => h) (Or.inr ⟨by rfl, rfl⟩) hS0 ?_
        try simp only [Act.put, List.setIfInBounds_toArray, List.set_cons_zero, List.set_cons_succ]
        refine wpAnyH_take (i := 24) (oi := ({ dst := some 108, op := Op.indexAddr 25 (Operand.tmp 106) (Operand.tmp 107), type := 0, pos := "outright.go:75", after := #[{ on := 22, ground := Ground.data }, { on := 23, ground := Ground.data }, { on := 17, ground := Ground.guard }], guard := some (17, true) } : Oper)) (v := undef) rfl (by kernel_rfl) (by kernel_rfl) (by kernel_rfl) (fun _ _ _ h => h) (Or.inr ⟨by rfl, rfl⟩) hS0 ?_
        try simp only [Act.put, List.setIfInBounds_toArray, List.set_cons_zero, List.set_cons_succ]
        refine wpAnyH_take (i := 25) (oi := ({ dst := some 109, op := Op.load 24 (Operand.tmp 108), type := 24, pos := "outright.go:75", after := #[{ on := 24, ground := Ground.data }, { on := 17, ground := Ground.guard }], guard := some (17, true) } : Oper)) (v := undef) rfl (by kernel_rfl) (by kernel_rfl) (by kernel_rfl) (fun _ _ _ h => h) (Or.inr ⟨by rfl, rfl⟩) hS0 ?_
        try simp only [Act.put, List.setIfInBounds_toArray, List.set_cons_zero, List.set_cons_succ]
        refine wpAnyH_take (i := 26) (oi := ({ dst := some 110, op := Op.move (Operand.tmp 9), type := 25, pos := "outright.go:75", after := #[{ on := 17, ground := Ground.guard }], guard := some (17, true) } : Oper)) (v := undef) rfl (by kernel_rfl) (by kernel_rfl) (by kernel_rfl) (fun _ _ _ h => h) (Or.inr ⟨by rfl, rfl⟩) hS0 ?_
        try simp only [Act.put, List.setIfInBounds_toArray, List.set_cons_zero, List.set_cons_succ]
        refine wpAnyH_take (i := 27) (oi := ({ dst := some 111, op := Op.slice 25 (Operand.tmp 110) (some (Operand.const (Value.int IntKind.i64 1))) none none, type := 25, pos := "outright.go:75", after := #[{ on := 26, ground := Ground.data }, { on := 17, ground := Ground.guard }], guard := some (17, true) } : Oper)) (v := undef) rfl (by kernel_rfl) (by kernel_rfl) (by kernel_rfl) (fun _ _ _ h => h) (Or.inr ⟨by rfl, rfl⟩) hS0 ?_
        try simp only [Act.put, List.setIfInBounds_toArray, List.set_cons_zero, List.set_cons_succ]
        refine wpAnyH_take (i := 28) (oi := ({ dst := some 112, op := Op.load 24 (Operand.tmp 8), type := 24, pos := "outright.go:75", after := #[{ on := 17, ground := Ground.guard }], guard := some (17, true) } : Oper)) (v := undef) rfl (by kernel_rfl) (by kernel_rfl) (by kernel_rfl) (fun _ _ _ h => h) (Or.inr ⟨by rfl, rfl⟩) hS0 ?_
        try simp only [Act.put, List.setIfInBounds_toArray, List.set_cons_zero, List.set_cons_succ]
        refine wpAnyH_ready (rs := [29]) (by kernel_rfl) (by simp) ?_
        refine (AllReadyH.cons (o := ({ dst := some 113, op := Op.call { callee := Callee.value (Operand.func 14), args := #[Operand.tmp 103, Operand.tmp 105, Operand.tmp 109, Operand.tmp 111, Operand.tmp 112], argTypes := #[22, 22, 24, 25, 24] }, type := 31, pos := "outright.go:75", after := #[{ on := 19, ground := Ground.data }, { on := 21, ground := Ground.data }, { on := 25, ground := Ground.data }, { on := 27, ground := Ground.data }, { on := 28, ground := Ground.data }, { on := 17, ground := Ground.chain }, { on := 17, ground := Ground.guard }], guard := some (17, true) } : Oper)) rfl (fun K' hK => ?_) AllReadyH.nil)
        go_simp
        refine hK.out _ _ (nb) (fun hS0 => ?_)
        try simp only [Act.put, List.setIfInBounds_toArray, List.set_cons_zero, List.set_cons_succ]
        refine wpAnyH_ready (rs := [30]) (by kernel_rfl) (by simp) ?_
        refine (AllReadyH.cons (o := ({ dst := some 114, op := Op.call { callee := Callee.value (Operand.func 21), args := #[Operand.tmp 113, Operand.const (Value.int IntKind.i64 10)], argTypes := #[31, 3] }, type := 4, pos := "outright.go:75", after := #[{ on := 29, ground := Ground.data }, { on := 29, ground := Ground.chain }, { on := 17, ground := Ground.guard }], guard := some (17, true) } : Oper)) rfl (fun K' hK => ?_) AllReadyH.nil)
        go_simp
        refine hK.out _ _ (nb) (fun hS0 => ?_)
        try simp only [Act.put, List.setIfInBounds_toArray, List.set_cons_zero, List.set_cons_succ]
        refine wpAnyH_take (i := 31) (oi := ({ dst := some 115, op := Op.unOp UnOp.not 4 (Operand.tmp 114), type := 4, pos := "outright.go:75", after := #[{ on := 30, ground := Ground.data }, { on := 17, ground := Ground.guard }], guard := some (17, true) } : Oper)) (v := undef) rfl (by kernel_rfl) (by kernel_rfl) (by kernel_rfl) (fun _ _ _ h => h) (Or.inr ⟨by rfl, rfl⟩) hS0 ?_
        try simp only [Act.put, List.setIfInBounds_toArray, List.set_cons_zero, List.set_cons_succ]
        refine wpAnyH_take (i := 32) (oi := ({ dst := some 116, op := Op.pick (Operand.tmp 101) (Operand.tmp 115) (Operand.const (Value.bool false)), type := 4, pos := "outright.go:75", after := #[{ on := 17, ground := Ground.data }, { on := 31, ground := Ground.data }, { on := 13, ground := Ground.guard }], guard := some (13, false) } : Oper)) (v := .bool false) rfl (by kernel_rfl) (by kernel_rfl) (by kernel_rfl) (fun _ _ _ h => h) (Or.inl ⟨by kernel_rfl, by intro w hw; go_simp⟩) hS0 ?_
        try simp only [Act.put, List.setIfInBounds_toArray, List.set_cons_zero, List.set_cons_succ]
        refine wpAnyH_take (i := 33) (oi := ({ dst := some 117, op := Op.pick (Operand.tmp 97) (Operand.const (Value.bool true)) (Operand.tmp 116), type := 4, pos := "outright.go:75", after := #[{ on := 13, ground := Ground.data }, { on := 32, ground := Ground.data }], guard := none } : Oper)) (v := .bool false) rfl (by kernel_rfl) (by kernel_rfl) (by kernel_rfl) (fun _ _ _ h => h) (Or.inl ⟨by rfl, by intro w hw; go_simp⟩) hS0 ?_
        try simp only [Act.put, List.setIfInBounds_toArray, List.set_cons_zero, List.set_cons_succ]
        refine wpAnyH_done (by kernel_rfl) ?_ _
        go_wp2_with fail
        go_meet
        exact ⟨rfl, nb⟩
      · obtain ⟨pm, rfl⟩ : ∃ q, pn = q + 1 := ⟨pn - 1, by omega⟩
        have hpos : (0 : Int) < (pm : Int) + 1 := by omega
        obtain ⟨f, R, hfR⟩ : ∃ f R, pl = f :: R := by
          cases pl with
          | nil => have := HPN.out; simp at this
          | cons f R => exact ⟨f, R, rfl⟩
        subst hfR
        have hRm : R.length = pm := by have := HPN.out; simp at this; omega
        obtain ⟨pg, rfl⟩ : ∃ pg, pa = some ⟨pg, 0, none⟩ := by
          rcases HCASE.out with ⟨_, h2, _⟩ | h2
          · omega
          · exact h2
        have hpc : pm + 1 ≤ pc := by
          rcases OP6.out.2 with ⟨h3, _⟩ | ⟨g, c, cur, h3, h4, h5, h6, _⟩
          · cases h3
          · cases h3; exact h6
        obtain ⟨pta, had2, hcut⟩ := cut_one pg 0 pm pc hpc
        have QI2 : Hid (∀ V, Nw w7 V → Calls Tryd.prog 14 #[.int .u64 (m : Int), .int .u64 (n : Int), .agg (hbs x), .slice pta pm (pc - 1), .agg (hbs rt)] V fun e w' => e = .returned (sen (a 9)) ∧ Nw V w') := fun V hV => by
          have h9 := hss_tailV (c' := pc - 1) (HSP.out V (M7.out.tr hV)) hRm had2
          rw [← hRm] at h9
          have := QI.out V m R pta (pc - 1) HMN.out.1 (fun y hy => HP32.out y (by simp [hy])) (by omega) (N7.out.tr hV) h9
          rw [ic_len HIN.out HPL.out (by simp), hRm] at this
          exact this
        clear had2 hpc hRm
        have nb : Nw w7 w7.drew := (Fr.refl _ _).drew
        refine wp_region_held_drew (S := (fun V => Nw w7 V)) (by kernel_rfl) (nb) ?_
        intro hS0
        refine wpAnyH_take (i := 0) (oi := ({ dst := some 84, op := Op.move (Operand.tmp 1), type := 3, pos := "outright.go:75", after := #[], guard := none } : Oper)) (v := .int .i64 (m : Int)) rfl (by kernel_rfl) (by kernel_rfl) (by kernel_rfl) (fun _ _ _ h => h) (Or.inl ⟨by rfl, by intro w hw; go_simp⟩) hS0 ?_
        try simp only [Act.put, List.setIfInBounds_toArray, List.set_cons_zero, List.set_cons_succ]
        refine wpAnyH_take (i := 1) (oi := ({ dst := some 85, op := Op.convert 3 22 (Operand.tmp 84), type := 22, pos := "outright.go:75", after := #[{ on := 0, ground := Ground.data }], guard := none } : Oper)) (v := .int .u64 (m : Int)) rfl (by kernel_rfl) (by kernel_rfl) (by kernel_rfl) (fun _ _ _ h => h) (Or.inl ⟨by kernel_rfl, by intro w hw; go_simp⟩) hS0 ?_
        try simp only [Act.put, List.setIfInBounds_toArray, List.set_cons_zero, List.set_cons_succ]
        refine wpAnyH_take (i := 2) (oi := ({ dst := some 86, op := Op.move (Operand.tmp 7), type := 3, pos := "outright.go:75", after := #[], guard := none } : Oper)) (v := .int .i64 (n : Int)) rfl (by kernel_rfl) (by kernel_rfl) (by kernel_rfl) (fun _ _ _ h => h) (Or.inl ⟨by rfl, by intro w hw; go_simp⟩) hS0 ?_
        try simp only [Act.put, List.setIfInBounds_toArray, List.set_cons_zero, List.set_cons_succ]
        refine wpAnyH_take (i := 3) (oi := ({ dst := some 87, op := Op.convert 3 22 (Operand.tmp 86), type := 22, pos := "outright.go:75", after := #[{ on := 2, ground := Ground.data }], guard := none } : Oper)) (v := .int .u64 (n : Int)) rfl (by kernel_rfl) (by kernel_rfl) (by kernel_rfl) (fun _ _ _ h => h) (Or.inl ⟨by kernel_rfl, by intro w hw; go_simp⟩) hS0 ?_
        try simp only [Act.put, List.setIfInBounds_toArray, List.set_cons_zero, List.set_cons_succ]
        refine wpAnyH_take (i := 4) (oi := ({ dst := some 88, op := Op.move (Operand.tmp 0), type := 25, pos := "outright.go:75", after := #[], guard := none } : Oper)) (v := .slice (some ⟨lg, lo, none⟩) n cap) rfl (by kernel_rfl) (by kernel_rfl) (by kernel_rfl) (fun _ _ _ h => h) (Or.inl ⟨by rfl, by intro w hw; go_simp⟩) hS0 ?_
        try simp only [Act.put, List.setIfInBounds_toArray, List.set_cons_zero, List.set_cons_succ]
        refine wpAnyH_take (i := 5) (oi := ({ dst := some 89, op := Op.move (Operand.tmp 1), type := 3, pos := "outright.go:75", after := #[], guard := none } : Oper)) (v := .int .i64 (m : Int)) rfl (by kernel_rfl) (by kernel_rfl) (by kernel_rfl) (fun _ _ _ h => h) (Or.inl ⟨by rfl, by intro w hw; go_simp⟩) hS0 ?_
        try simp only [Act.put, List.setIfInBounds_toArray, List.set_cons_zero, List.set_cons_succ]
        refine wpAnyH_take (i := 6) (oi := ({ dst := some 90, op := Op.indexAddr 25 (Operand.tmp 88) (Operand.tmp 89), type := 0, pos := "outright.go:75", after := #[{ on := 4, ground := Ground.data }, { on := 5, ground := Ground.data }], guard := none } : Oper)) (v := .pointer (some ⟨lg, lo + m * 32, none⟩)) rfl (by kernel_rfl) (by kernel_rfl) (by kernel_rfl) (fun _ _ _ h => h) (Or.inl ⟨by kernel_rfl, by intro w hw; go_simp; try (intro hq; omega)⟩) hS0 ?_
        try simp only [Act.put, List.setIfInBounds_toArray, List.set_cons_zero, List.set_cons_succ]
        refine wpAnyH_take (i := 7) (oi := ({ dst := some 91, op := Op.load 24 (Operand.tmp 90), type := 24, pos := "outright.go:75", after := #[{ on := 6, ground := Ground.data }], guard := none } : Oper)) (v := .agg (hbs x)) rfl (by kernel_rfl) (by kernel_rfl) (by kernel_rfl) (fun _ _ _ h => h) (yields_loadV (by kernel_rfl) (.tmp 90) 24 32 rfl Tryd.isAgg24 Tryd.sizeOf24 lg (lo + m * 32) rfl (hbs x) hxs (fun w hw => HLVw7.out w hw)) hS0 ?_
        try simp only [Act.put, List.setIfInBounds_toArray, List.set_cons_zero, List.set_cons_succ]
        refine wpAnyH_take (i := 8) (oi := ({ dst := some 92, op := Op.move (Operand.tmp 12), type := 25, pos := "outright.go:75", after := #[], guard := none } : Oper)) (v := .slice ma (pm + 1 + 1) mc) rfl (by kernel_rfl) (by kernel_rfl) (by kernel_rfl) (fun _ _ _ h => h) (Or.inl ⟨by rfl, by intro w hw; go_simp⟩) hS0 ?_
        try simp only [Act.put, List.setIfInBounds_toArray, List.set_cons_zero, List.set_cons_succ]
        refine wpAnyH_take (i := 9) (oi := ({ dst := some 93, op := Op.load 24 (Operand.tmp 8), type := 24, pos := "outright.go:75", after := #[], guard := none } : Oper)) (v := .agg (hbs rt)) rfl (by kernel_rfl) (by kernel_rfl) (by kernel_rfl) (fun _ _ _ h => h) (yields_loadV (by kernel_rfl) (.tmp 8) 24 32 rfl Tryd.isAgg24 Tryd.sizeOf24 rb (0) rfl (hbs rt) hrts (fun w hw => HRTw7.out w hw)) hS0 ?_
        try simp only [Act.put, List.setIfInBounds_toArray, List.set_cons_zero, List.set_cons_succ]
        refine wpAnyH_ready (rs := [10]) (by kernel_rfl) (by simp) ?_
        refine (AllReadyH.cons (o := ({ dst := some 94, op := Op.call { callee := Callee.value (Operand.func 14), args := #[Operand.tmp 85, Operand.tmp 87, Operand.tmp 91, Operand.tmp 92, Operand.tmp 93], argTypes := #[22, 22, 24, 25, 24] }, type := 31, pos := "outright.go:75", after := #[{ on := 1, ground := Ground.data }, { on := 3, ground := Ground.data }, { on := 7, ground := Ground.data }, { on := 8, ground := Ground.data }, { on := 9, ground := Ground.data }], guard := none } : Oper)) rfl (fun K' hK => ?_) AllReadyH.nil)
        go_simp
        go_wp2_with (go_at_call 14; refine (QI1.out _ nb).mono ?_; rintro ex w101 ⟨rfl, nw101⟩)
        have nb := nb.tr nw101
        refine hK.out _ _ (nb) (fun hS0 => ?_)
        try simp only [Act.put, List.setIfInBounds_toArray, List.set_cons_zero, List.set_cons_succ]
        refine wpAnyH_ready (rs := [11]) (by kernel_rfl) (by simp) ?_
        refine (AllReadyH.cons (o := ({ dst := some 95, op := Op.call { callee := Callee.value (Operand.func 21), args := #[Operand.tmp 94, Operand.const (Value.int IntKind.i64 10)], argTypes := #[31, 3] }, type := 4, pos := "outright.go:75", after := #[{ on := 10, ground := Ground.data }, { on := 10, ground := Ground.chain }], guard := none } : Oper)) rfl (fun K' hK => ?_) AllReadyH.nil)
        go_simp
        go_wp2_with (go_at_call 21; refine (QIS10.out _ (N7.out.tr nb)).mono ?_; rintro ex w102 ⟨rfl, nw102⟩)
        have nb := nb.tr nw102
        refine hK.out _ _ (nb) (fun hS0 => ?_)
        try simp only [Act.put, List.setIfInBounds_toArray, List.set_cons_zero, List.set_cons_succ]
        refine wpAnyH_take (i := 12) (oi := ({ dst := some 96, op := Op.unOp UnOp.not 4 (Operand.tmp 95), type := 4, pos := "outright.go:75", after := #[{ on := 11, ground := Ground.data }], guard := none } : Oper)) (v := .bool false) rfl (by kernel_rfl) (by kernel_rfl) (by kernel_rfl) (fun _ _ _ h => h) (Or.inl ⟨by kernel_rfl, by intro w hw; go_simp⟩) hS0 ?_
        try simp only [Act.put, List.setIfInBounds_toArray, List.set_cons_zero, List.set_cons_succ]
        refine wpAnyH_take (i := 13) (oi := ({ dst := some 97, op := Op.move (Operand.tmp 96), type := 4, pos := "outright.go:75", after := #[{ on := 12, ground := Ground.data }, { on := 11, ground := Ground.chain }], guard := none } : Oper)) (v := .bool false) rfl (by kernel_rfl) (by kernel_rfl) (by kernel_rfl) (fun _ _ _ h => h) (Or.inl ⟨by rfl, by intro w hw; go_simp⟩) hS0 ?_
        try simp only [Act.put, List.setIfInBounds_toArray, List.set_cons_zero, List.set_cons_succ]
        refine wpAnyH_take (i := 14) (oi := ({ dst := some 98, op := Op.move (Operand.tmp 9), type := 25, pos := "outright.go:75", after := #[{ on := 13, ground := Ground.guard }], guard := some (13, false) } : Oper)) (v := .slice (some ⟨pg, 0, none⟩) (pm + 1) pc) rfl (by kernel_rfl) (by kernel_rfl) (by kernel_rfl) (fun _ _ _ h => h) (Or.inl ⟨by kernel_rfl, by intro w hw; go_simp⟩) hS0 ?_
        try simp only [Act.put, List.setIfInBounds_toArray, List.set_cons_zero, List.set_cons_succ]
        refine wpAnyH_take (i := 15) (oi := ({ dst := some 99, op := Op.call { callee := Callee.builtin Builtin.len, args := #[Operand.tmp 98], argTypes := #[25] }, type := 3, pos := "outright.go:75", after := #[{ on := 14, ground := Ground.data }, { on := 13, ground := Ground.guard }], guard := some (13, false) } : Oper)) (v := .int .i64 ((pm : Int) + 1)) rfl (by kernel_rfl) (by kernel_rfl) (by kernel_rfl) (fun _ _ _ h => h) (Or.inl ⟨by kernel_rfl, by intro w hw; go_simp⟩) hS0 ?_
        try simp only [Act.put, List.setIfInBounds_toArray, List.set_cons_zero, List.set_cons_succ]
        refine wpAnyH_take (i := 16) (oi := ({ dst := some 100, op := Op.binOp BinOp.gtr 3 (Operand.tmp 99) (Operand.const (Value.int IntKind.i64 0)) 3, type := 4, pos := "outright.go:75", after := #[{ on := 15, ground := Ground.data }, { on := 13, ground := Ground.guard }], guard := some (13, false) } : Oper)) (v := .bool true) rfl (by kernel_rfl) (by kernel_rfl) (by kernel_rfl) (fun _ _ _ h => h) (Or.inl ⟨by kernel_rfl, by intro w hw; have h1 := hpos; go_simp⟩) hS0 ?_
        try simp only [Act.put, List.setIfInBounds_toArray, List.set_cons_zero, List.set_cons_succ]
        refine wpAnyH_take (i := 17) (oi := ({ dst := some 101, op := Op.move (Operand.tmp 100), type := 4, pos := "outright.go:75", after := #[{ on := 16, ground := Ground.data }, { on := 13, ground := Ground.chain }, { on := 13, ground := Ground.guard }], guard := some (13, false) } : Oper)) (v := .bool true) rfl (by kernel_rfl) (by kernel_rfl) (by kernel_rfl) (fun _ _ _ h => h) (Or.inl ⟨by kernel_rfl, by intro w hw; go_simp⟩) hS0 ?_
        try simp only [Act.put, List.setIfInBounds_toArray, List.set_cons_zero, List.set_cons_succ]
        refine wpAnyH_take (i := 18) (oi := ({ dst := some 102, op := Op.move (Operand.tmp 1), type := 3, pos := "outright.go:75", after := #[{ on := 17, ground := Ground.guard }], guard := some (17, true) } : Oper)) (v := .int .i64 (m : Int)) rfl (by kernel_rfl) (by kernel_rfl) (by kernel_rfl) (fun _ _ _ h => h) (Or.inl ⟨by kernel_rfl, by intro w hw; go_simp⟩) hS0 ?_
        try simp only [Act.put, List.setIfInBounds_toArray, List.set_cons_zero, List.set_cons_succ]
        refine wpAnyH_take (i := 19) (oi := ({ dst := some 103, op := Op.convert 3 22 (Operand.tmp 102), type := 22, pos := "outright.go:75", after := #[{ on := 18, ground := Ground.data }, { on := 17, ground := Ground.guard }], guard := some (17, true) } : Oper)) (v := .int .u64 (m : Int)) rfl (by kernel_rfl) (by kernel_rfl) (by kernel_rfl) (fun _ _ _ h => h) (Or.inl ⟨by kernel_rfl, by intro w hw; go_simp⟩) hS0 ?_
        try simp only [Act.put, List.setIfInBounds_toArray, List.set_cons_zero, List.set_cons_succ]
        refine wpAnyH_take (i := 20) (oi := ({ dst := some 104, op := Op.move (Operand.tmp 7), type := 3, pos := "outright.go:75", after := #[{ on := 17, ground := Ground.guard }], guard := some (17, true) } : Oper)) (v := .int .i64 (n : Int)) rfl (by kernel_rfl) (by kernel_rfl) (by kernel_rfl) (fun _ _ _ h => h) (Or.inl ⟨by kernel_rfl, by intro w hw; go_simp⟩) hS0 ?_
        try simp only [Act.put, List.setIfInBounds_toArray, List.set_cons_zero, List.set_cons_succ]
        refine wpAnyH_take (i := 21) (oi := ({ dst := some 105, op := Op.convert 3 22 (Operand.tmp 104), type := 22, pos := "outright.go:75", after := #[{ on := 20, ground := Ground.data }, { on := 17, ground := Ground.guard }], guard := some (17, true) } : Oper)) (v := .int .u64 (n : Int)) rfl (by kernel_rfl) (by kernel_rfl) (by kernel_rfl) (fun _ _ _ h => h) (Or.inl ⟨by kernel_rfl, by intro w hw; go_simp⟩) hS0 ?_
        try simp only [Act.put, List.setIfInBounds_toArray, List.set_cons_zero, List.set_cons_succ]
        refine wpAnyH_take (i := 22) (oi := ({ dst := some 106, op := Op.move (Operand.tmp 0), type := 25, pos := "outright.go:75", after := #[{ on := 17, ground := Ground.guard }], guard := some (17, true) } : Oper)) (v := .slice (some ⟨lg, lo, none⟩) n cap) rfl (by kernel_rfl) (by kernel_rfl) (by kernel_rfl) (fun _ _ _ h => h) (Or.inl ⟨by kernel_rfl, by intro w hw; go_simp⟩) hS0 ?_
        try simp only [Act.put, List.setIfInBounds_toArray, List.set_cons_zero, List.set_cons_succ]
        refine wpAnyH_take (i := 23) (oi := ({ dst := some 107, op := Op.move (Operand.tmp 1), type := 3, pos := "outright.go:75", after := #[{ on := 17, ground := Ground.guard }], guard := some (17, true) } : Oper)) (v := .int .i64 (m : Int)) rfl (by kernel_rfl) (by kernel_rfl) (by kernel_rfl) (fun _ _ _ h => h) (Or.inl ⟨by kernel_rfl, by intro w hw; go_simp⟩) hS0 ?_
        try simp only [Act.put, List.setIfInBounds_toArray, List.set_cons_zero, List.set_cons_succ]
        refine wpAnyH_take (i := 24) (oi := ({ dst := some 108, op := Op.indexAddr 25 (Operand.tmp 106) (Operand.tmp 107), type := 0, pos := "outright.go:75", after := #[{ on := 22, ground := Ground.data }, { on := 23, ground := Ground.data }, { on := 17, ground := Ground.guard }], guard := some (17, true) } : Oper)) (v := .pointer (some ⟨lg, lo + m * 32, none⟩)) rfl (by kernel_rfl) (by kernel_rfl) (by kernel_rfl) (fun _ _ _ h => h) (Or.inl ⟨by kernel_rfl, by intro w hw; go_simp; try (intro hq; omega)⟩) hS0 ?_
        try simp only [Act.put, List.setIfInBounds_toArray, List.set_cons_zero, List.set_cons_succ]
        refine wpAnyH_take (i := 25) (oi := ({ dst := some 109, op := Op.load 24 (Operand.tmp 108), type := 24, pos := "outright.go:75", after := #[{ on := 24, ground := Ground.data }, { on := 17, ground := Ground.guard }], guard := some (17, true) } : Oper)) (v := .agg (hbs x)) rfl (by kernel_rfl) (by kernel_rfl) (by kernel_rfl) (fun _ _ _ h => h) (yields_loadV (by kernel_rfl) (.tmp 108) 24 32 rfl Tryd.isAgg24 Tryd.sizeOf24 lg (lo + m * 32) rfl (hbs x) hxs (fun w hw => HLVw7.out w hw)) hS0 ?_
        try simp only [Act.put, List.setIfInBounds_toArray, List.set_cons_zero, List.set_cons_succ]
        refine wpAnyH_take (i := 26) (oi := ({ dst := some 110, op := Op.move (Operand.tmp 9), type := 25, pos := "outright.go:75", after := #[{ on := 17, ground := Ground.guard }], guard := some (17, true) } : Oper)) (v := .slice (some ⟨pg, 0, none⟩) (pm + 1) pc) rfl (by kernel_rfl) (by kernel_rfl) (by kernel_rfl) (fun _ _ _ h => h) (Or.inl ⟨by kernel_rfl, by intro w hw; go_simp⟩) hS0 ?_
        try simp only [Act.put, List.setIfInBounds_toArray, List.set_cons_zero, List.set_cons_succ]
        refine wpAnyH_take (i := 27) (oi := ({ dst := some 111, op := Op.slice 25 (Operand.tmp 110) (some (Operand.const (Value.int IntKind.i64 1))) none none, type := 25, pos := "outright.go:75", after := #[{ on := 26, ground := Ground.data }, { on := 17, ground := Ground.guard }], guard := some (17, true) } : Oper)) (v := .slice pta pm (pc - 1)) rfl (by kernel_rfl) (by kernel_rfl) (by kernel_rfl) (fun _ _ _ h => h) (Or.inl ⟨by kernel_rfl, by intro w hw; have := hcut w; go_simp⟩) hS0 ?_
        try simp only [Act.put, List.setIfInBounds_toArray, List.set_cons_zero, List.set_cons_succ]
        refine wpAnyH_take (i := 28) (oi := ({ dst := some 112, op := Op.load 24 (Operand.tmp 8), type := 24, pos := "outright.go:75", after := #[{ on := 17, ground := Ground.guard }], guard := some (17, true) } : Oper)) (v := .agg (hbs rt)) rfl (by kernel_rfl) (by kernel_rfl) (by kernel_rfl) (fun _ _ _ h => h) (yields_loadV (by kernel_rfl) (.tmp 8) 24 32 rfl Tryd.isAgg24 Tryd.sizeOf24 rb (0) rfl (hbs rt) hrts (fun w hw => HRTw7.out w hw)) hS0 ?_
        try simp only [Act.put, List.setIfInBounds_toArray, List.set_cons_zero, List.set_cons_succ]
        refine wpAnyH_ready (rs := [29]) (by kernel_rfl) (by simp) ?_
        refine (AllReadyH.cons (o := ({ dst := some 113, op := Op.call { callee := Callee.value (Operand.func 14), args := #[Operand.tmp 103, Operand.tmp 105, Operand.tmp 109, Operand.tmp 111, Operand.tmp 112], argTypes := #[22, 22, 24, 25, 24] }, type := 31, pos := "outright.go:75", after := #[{ on := 19, ground := Ground.data }, { on := 21, ground := Ground.data }, { on := 25, ground := Ground.data }, { on := 27, ground := Ground.data }, { on := 28, ground := Ground.data }, { on := 17, ground := Ground.chain }, { on := 17, ground := Ground.guard }], guard := some (17, true) } : Oper)) rfl (fun K' hK => ?_) AllReadyH.nil)
        go_simp
        go_wp2_with (go_at_call 14; refine (QI2.out _ nb).mono ?_; rintro ex w103 ⟨rfl, nw103⟩)
        have nb := nb.tr nw103
        refine hK.out _ _ (nb) (fun hS0 => ?_)
        try simp only [Act.put, List.setIfInBounds_toArray, List.set_cons_zero, List.set_cons_succ]
        refine wpAnyH_ready (rs := [30]) (by kernel_rfl) (by simp) ?_
        refine (AllReadyH.cons (o := ({ dst := some 114, op := Op.call { callee := Callee.value (Operand.func 21), args := #[Operand.tmp 113, Operand.const (Value.int IntKind.i64 10)], argTypes := #[31, 3] }, type := 4, pos := "outright.go:75", after := #[{ on := 29, ground := Ground.data }, { on := 29, ground := Ground.chain }, { on := 17, ground := Ground.guard }], guard := some (17, true) } : Oper)) rfl (fun K' hK => ?_) AllReadyH.nil)
        go_simp
        go_wp2_with (go_at_call 21; refine (QIS10.out _ (N7.out.tr nb)).mono ?_; rintro ex w104 ⟨rfl, nw104⟩)
        have nb := nb.tr nw104
        refine hK.out _ _ (nb) (fun hS0 => ?_)
        try simp only [Act.put, List.setIfInBounds_toArray, List.set_cons_zero, List.set_cons_succ]
        refine wpAnyH_take (i := 31) (oi := ({ dst := some 115, op := Op.unOp UnOp.not 4 (Operand.tmp 114), type := 4, pos := "outright.go:75", after := #[{ on := 30, ground := Ground.data }, { on := 17, ground := Ground.guard }], guard := some (17, true) } : Oper)) (v := .bool false) rfl (by kernel_rfl) (by kernel_rfl) (by kernel_rfl) (fun _ _ _ h => h) (Or.inl ⟨by kernel_rfl, by intro w hw; go_simp⟩) hS0 ?_
        try simp only [Act.put, List.setIfInBounds_toArray, List.set_cons_zero, List.set_cons_succ]
        refine wpAnyH_take (i := 32) (oi := ({ dst := some 116, op := Op.pick (Operand.tmp 101) (Operand.tmp 115) (Operand.const (Value.bool false)), type := 4, pos := "outright.go:75", after := #[{ on := 17, ground := Ground.data }, { on := 31, ground := Ground.data }, { on := 13, ground := Ground.guard }], guard := some (13, false) } : Oper)) (v := .bool false) rfl (by kernel_rfl) (by kernel_rfl) (by kernel_rfl) (fun _ _ _ h => h) (Or.inl ⟨by kernel_rfl, by intro w hw; go_simp⟩) hS0 ?_
        try simp only [Act.put, List.setIfInBounds_toArray, List.set_cons_zero, List.set_cons_succ]
        refine wpAnyH_take (i := 33) (oi := ({ dst := some 117, op := Op.pick (Operand.tmp 97) (Operand.const (Value.bool true)) (Operand.tmp 116), type := 4, pos := "outright.go:75", after := #[{ on := 13, ground := Ground.data }, { on := 32, ground := Ground.data }], guard := none } : Oper)) (v := .bool false) rfl (by kernel_rfl) (by kernel_rfl) (by kernel_rfl) (fun _ _ _ h => h) (Or.inl ⟨by rfl, by intro w hw; go_simp⟩) hS0 ?_
        try simp only [Act.put, List.setIfInBounds_toArray, List.set_cons_zero, List.set_cons_succ]
        refine wpAnyH_done (by kernel_rfl) ?_ _
        go_wp2_with fail
        go_meet
        exact ⟨rfl, nb⟩
    case rest =>
    obtain ⟨rfl, nm⟩ := hcut
    obtain ⟨w8, hw8⟩ : ∃ x, x = wc := ⟨_, rfl⟩
    rw [← hw8] at nm ⊢
    have N8 : Hid (Nw w w8) := N7.out.tr nm
    have M8 : Hid (Nw w3 w8) := M7.out.tr nm
    clear hw8 nm QI1 HMO HLVw7 HRTw7 N7 M7 Nw7
    go_wp2_with fail
    refine (QB.out _ N8.out).mono ?_
    rintro e w9 ⟨qv, rfl, own9, m9⟩
    obtain ⟨qa, qc, rfl⟩ := ownsRow_form own9
    obtain ⟨qn, hqn⟩ : ∃ q, q = ql.length := ⟨_, rfl⟩
    have HQN := hid_of hqn
    rw [← hqn] at own9 ⊢
    have OQ9 : Hid (w9.ownsRow w8.heap.size 24 32 (.slice qa qn qc) qn (hsc ql)) := own9
    have hqn9 : qn ≤ 9 := by rw [hqn]; exact HQ9.out
    have N9 : Hid (Nw w w9) := N8.out.tr m9
    have M9 : Hid (Nw w3 w9) := M8.out.tr m9
    have HSQ : Hid (∀ V, Nw w9 V → Hss V (.slice qa qn qc) ql) := fun V hV => by
      have := (Hss.of HQ32.out (by have h9 := OQ9.out; rw [HQN.out] at h9; exact h9)).nw HQ32.out hV
      rw [← HQN.out] at this
      exact this
    clear own9 m9 hqn QB N8 M8
    go_wp2_with fail
    refine (QO.out _ N9.out).mono ?_
    rintro e v10 ⟨rfl, m10⟩
    go_upto_region 16 with (refine wp_store_agg rfl (.tmp 14) (.tmp 124) 24 32 rfl Tryd.sizeOf24 v10.heap.size 0 rfl z32 24 (by rw [← z32_h]; exact heap_new _ _) (hbs od) rfl hods (hbs_one _) (by decide) (hbs od) (by rw [dropA z32_size]; simp) ?_; intro wb j11 f11 y11; clear y11)
    obtain ⟨ob, hob⟩ : ∃ q, q = v10.heap.size := ⟨_, rfl⟩
    rw [← hob] at j11 ⊢
    have m11 : Nw w9 wb := m10.tr ((nwa v10 _).trans f11 (fun k hk q => by omega))
    have Nb : Hid (Nw w wb) := N9.out.tr m11
    have Mb : Hid (Nw w3 wb) := M9.out.tr m11
    have M9b : Hid (Nw w9 wb) := m11
    have HODb : Hid (∀ V, Nw wb V → ∀ j, j < 32 → V.cell? ⟨ob, 0 + j, none⟩ = (hbs od)[j]?) := fun V hV => hash_cells ((hV.block _ (heap_lt j11) (fun f => f)).trans j11)
    have HODb0 := hid_of (HODb.out wb (nwr wb))
    have HRTb0 := hid_of (HRTw3.out wb Mb.out)
    have eo : ((o + 1 : Nat) : Int) = (o : Int) + 1 := by omega
    have hqcap : qn ≤ qc := by
      rcases OQ9.out.2 with ⟨h3, h4⟩ | ⟨g, c, cur, h3, h4, h5, h6, _⟩
      · omega
      · cases h3; exact h6
    have HEO := hid_of eo
    have HQCAP := hid_of hqcap
    have QC0 : Hid (∀ V, Nw w9 V → Calls Tryd.prog 17 #[.int .u64 ((o : Int) + 1), .int .u64 (n : Int), .agg (hbs od), .agg (hbs rt), .slice qa qn qc] V fun e w' => e = .returned .nilIface ∧ Nw V w') := fun V hV => by
      have := QC.out V (o + 1) ql qa qc HMN.out.2.2.1 HQ32.out (by have := HQ9.out; omega) (by rw [← HQN.out]; exact HQCAP.out) (N9.out.tr hV) (by rw [← HQN.out]; exact HSQ.out V hV)
      rw [HCCV.out, ← HQN.out, HEO.out] at this
      exact this
    clear hob j11 f11 m10 m11 eo QO
    have hne0 := fun W => neq_nilE W
    go_wp2_with first
      | refine wple_load_at rfl (.tmp 14) 24 32 rfl Tryd.isAgg24 Tryd.sizeOf24 ob 0 rfl (hbs od) hods HODb0.out ?_
      | refine wple_load_at rfl (.tmp 8) 24 32 rfl Tryd.isAgg24 Tryd.sizeOf24 rb 0 rfl (hbs rt) hrts HRTb0.out ?_
    refine (QC0.out _ M9b.out).mono ?_
    rintro e w12 ⟨rfl, m12⟩
    have N12 : Hid (Nw w w12) := Nb.out.tr m12
    have M12 : Hid (Nw w3 w12) := Mb.out.tr m12
    have M9c : Hid (Nw w9 w12) := M9b.out.tr m12
    have HOD12 : Hid (∀ V, Nw w12 V → ∀ j, j < 32 → V.cell? ⟨ob, 0 + j, none⟩ = (hbs od)[j]?) := fun V hV => HODb.out V (m12.tr hV)
    have HRTw12 : Hid (∀ V, Nw w12 V → ∀ j, j < 32 → V.cell? ⟨rb, 0 + j, none⟩ = (hbs rt)[j]?) := fun V hV => HRTw3.out V (M12.out.tr hV)
    have OQ12 : Hid (w12.ownsRow w8.heap.size 24 32 (.slice qa qn qc) qn (hsc ql)) := ownsRow_keep OQ9.out (fun q hq => M9c.out.block q (OQ9.out.lt q hq).2 (fun f => f))
    have hcase : (qa = none ∧ qn = 0 ∧ qc = 0 ∧ ql = []) ∨ ∃ pg, qa = some ⟨pg, 0, none⟩ := by
      rcases OQ12.out.2 with ⟨h1, h2⟩ | ⟨g, c, cur, h1, _⟩
      · injection h1 with h3 h4 h5
        exact .inl ⟨h3, h2, h5, List.length_eq_zero_iff.1 (by rw [← HQN.out]; exact h2)⟩
      · injection h1 with h3 h4 h5
        exact .inr ⟨g, h3⟩
    have HCASQ := hid_of hcase
    clear hcase m12 HODb0 HRTb0 Nb Mb M9b HODb hne0
    go_upto_region 18 with fail
    go_cut [12] (fun v wx => ∃ ka kc, v = .slice ka (qn + 1) kc ∧ wx.ownsRow w12.heap.size 24 32 (.slice ka (qn + 1) kc) (qn + 1) (hsc (ql ++ [rt])) ∧ Nw w12 wx)
    case first => as_aux_lemma =>
      rcases HCASQ.out with ⟨rfl, rfl, rfl, rfl⟩ | ⟨qg, rfl⟩
      · skip
        have nb : Nw w12 w12.drew := (Fr.refl _ _).drew
        refine wp_region_held_drew (S := (fun V => Nw w12 V)) (by kernel_rfl) (nb) ?_
        intro hS0
        refine wpAnyH_take (i := 1) (oi := ({ dst := some 135, op := Op.move (Operand.tmp 13), type := 25, pos := "outright.go:83", after := #[], guard := none } : Oper)) (v := .slice none 0 0) rfl (by kernel_rfl) (by kernel_rfl) (by kernel_rfl) (fun _ _ _ h => h) (Or.inl ⟨by rfl, by intro w hw; go_simp⟩) hS0 ?_
        try simp only [Act.put, List.setIfInBounds_toArray, List.set_cons_zero, List.set_cons_succ]
        refine wpAnyH_take (i := 3) (oi := ({ dst := some 137, op := Op.load 24 (Operand.tmp 8), type := 24, pos := "outright.go:83", after := #[], guard := none } : Oper)) (v := .agg (hbs rt)) rfl (by kernel_rfl) (by kernel_rfl) (by kernel_rfl) (fun _ _ _ h => h) (yields_loadV (by kernel_rfl) (.tmp 8) 24 32 rfl Tryd.isAgg24 Tryd.sizeOf24 rb (0) rfl (hbs rt) hrts (fun w hw => HRTw12.out w hw)) hS0 ?_
        try simp only [Act.put, List.setIfInBounds_toArray, List.set_cons_zero, List.set_cons_succ]
        refine wpAnyH_ready (rs := [0, 4]) (by kernel_rfl) (by simp) ?_
        refine (AllReadyH.cons (o := ({ dst := some 134, op := Op.buildSlice 25 0 #[], type := 25, pos := "outright.go:83", after := #[], guard := none } : Oper)) rfl (fun K' hK => ?_) (AllReadyH.cons (o := ({ dst := some 138, op := Op.buildSlice 25 1 #[(0, Operand.tmp 137)], type := 25, pos := "outright.go:83", after := #[{ on := 3, ground := Ground.data }], guard := none } : Oper)) rfl (fun K' hK => ?_) AllReadyH.nil))
        · refine step_build0V rfl rfl ?_
          have OW := own_emptyV (w12.drew)
          obtain ⟨u1, hu1⟩ : ∃ q, (w12.drew).alloc (.cells #[] 24) = q := ⟨_, rfl⟩
          have nu1 : Nw (w12.drew) u1 := by rw [← hu1]; exact nwa _ _
          rw [hu1] at OW ⊢
          obtain ⟨ga, hga⟩ : ∃ q, q = (w12.drew).heap.size := ⟨_, rfl⟩
          have LA : w12.heap.size ≤ ga := by rw [hga]; exact nb.size
          rw [← hga] at OW ⊢
          have nb := nb.tr nu1
          clear hu1 hga nu1
          refine hK.out _ _ (nb) (fun hS0 => ?_)
          try simp only [Act.put, List.setIfInBounds_toArray, List.set_cons_zero, List.set_cons_succ]
          refine wpAnyH_ready (rs := [2, 4]) (by kernel_rfl) (by simp) ?_
          refine (AllReadyH.cons (o := ({ dst := some 136, op := Op.call { callee := Callee.builtin Builtin.append, args := #[Operand.tmp 134, Operand.tmp 135], argTypes := #[25, 25] }, type := 25, pos := "outright.go:83", after := #[{ on := 0, ground := Ground.data }, { on := 1, ground := Ground.data }], guard := none } : Oper)) rfl (fun K' hK => ?_) (AllReadyH.cons (o := ({ dst := some 138, op := Op.buildSlice 25 1 #[(0, Operand.tmp 137)], type := 25, pos := "outright.go:83", after := #[{ on := 3, ground := Ground.data }], guard := none } : Oper)) rfl (fun K' hK => ?_) AllReadyH.nil))
          · refine step_app_none rfl (.tmp 134) (.tmp 135) 25 rfl 24 i0 Tryd.underlying25 HI0.out.1 (.slice (some ⟨ga, 0, none⟩) 0 0) (by kernel_rfl) OW (by kernel_rfl) ?_
            refine hK.out _ _ (nb) (fun hS0 => ?_)
            try simp only [Act.put, List.setIfInBounds_toArray, List.set_cons_zero, List.set_cons_succ]
            refine wpAnyH_ready (rs := [4]) (by kernel_rfl) (by simp) ?_
            refine (AllReadyH.cons (o := ({ dst := some 138, op := Op.buildSlice 25 1 #[(0, Operand.tmp 137)], type := 25, pos := "outright.go:83", after := #[{ on := 3, ground := Ground.data }], guard := none } : Oper)) rfl (fun K' hK => ?_) AllReadyH.nil)
            refine step_build1 rfl (.tmp 137) rfl (hbs rt) (by kernel_rfl) hrts ?_
            have BB := heap_new (u1) (.cells (hbs rt) 24)
            obtain ⟨u3, hu3⟩ : ∃ q, (u1).alloc (.cells (hbs rt) 24) = q := ⟨_, rfl⟩
            have nu3 : Nw (u1) u3 := by rw [← hu3]; exact nwa _ _
            rw [hu3] at BB ⊢
            obtain ⟨gb, hgb⟩ : ∃ q, q = (u1).heap.size := ⟨_, rfl⟩
            rw [← hgb] at BB ⊢
            have HNE : True := trivial
            have OW := ownsRow_keep OW (fun q hq => nu3.block q (OW.lt q hq).2 (fun f => f))
            have nb := nb.tr nu3
            clear hu3 hgb nu3
            refine hK.out _ _ (nb) (fun hS0 => ?_)
            try simp only [Act.put, List.setIfInBounds_toArray, List.set_cons_zero, List.set_cons_succ]
            refine wpAnyH_ready (rs := [5]) (by kernel_rfl) (by simp) ?_
            refine (AllReadyH.cons (o := ({ dst := some 139, op := Op.call { callee := Callee.builtin Builtin.append, args := #[Operand.tmp 136, Operand.tmp 138], argTypes := #[25, 25] }, type := 25, pos := "outright.go:83", after := #[{ on := 2, ground := Ground.data }, { on := 4, ground := Ground.data }, { on := 2, ground := Ground.chain }], guard := none } : Oper)) rfl (fun K' hK => ?_) AllReadyH.nil)
            refine step_two rfl (.tmp 136) (.tmp 138) 25 rfl w12.heap.size 24 i0 (.agg z32) 32 32 Tryd.underlying25 HI0.out.1 HI0.out.2.1 HI0.out.2.2.1 HI0.out.2.2.2 z32_size (by decide) (.slice (some ⟨ga, 0, none⟩) 0 0) (0) ([]) (by kernel_rfl) (own_mono OW LA) ⟨gb, 0, none⟩ 1 1 (hbs rt).toList (by kernel_rfl) (by simp [hrts]) (fun j u hu => by rw [addZ, cell_of BB]; simpa using hu) (hbs_one _) (by unfold maxLen; omega) (by omega) nb.size ?_
            intro v2 u4 o2 t2
            have nb : Nw w12 u4 := nb.trans t2.fr (fun j hj e => by have := (own_mono OW LA).lt j e; omega)
            obtain ⟨ya, yc, rfl⟩ := ownsRow_form o2
            clear t2
            refine hK.out _ _ (nb) (fun hS0 => ?_)
            try simp only [Act.put, List.setIfInBounds_toArray, List.set_cons_zero, List.set_cons_succ]
            refine wpAnyH_ready (rs := [6]) (by kernel_rfl) (by simp) ?_
            refine (AllReadyH.cons (o := ({ dst := some 12, op := Op.assign (Operand.tmp 139), type := 25, pos := "outright.go:83", after := #[{ on := 5, ground := Ground.data }, { on := 5, ground := Ground.chain }, { on := 0, ground := Ground.phase }, { on := 1, ground := Ground.phase }, { on := 2, ground := Ground.phase }, { on := 3, ground := Ground.phase }, { on := 4, ground := Ground.phase }, { on := 5, ground := Ground.phase }], guard := none } : Oper)) rfl (fun K' hK => ?_) AllReadyH.nil)
            go_simp
            refine hK.out _ _ (nb) (fun hS0 => ?_)
            try simp only [Act.put, List.setIfInBounds_toArray, List.set_cons_zero, List.set_cons_succ]
            refine wpAnyH_done (by kernel_rfl) ?_ _
            go_wp2_with fail
            go_meet
            exact ⟨ya, yc, rfl, by simpa [hsc_app, hsc_one] using o2, nb⟩
          · refine step_build1 rfl (.tmp 137) rfl (hbs rt) (by kernel_rfl) hrts ?_
            have BB := heap_new (u1) (.cells (hbs rt) 24)
            obtain ⟨u5, hu5⟩ : ∃ q, (u1).alloc (.cells (hbs rt) 24) = q := ⟨_, rfl⟩
            have nu5 : Nw (u1) u5 := by rw [← hu5]; exact nwa _ _
            rw [hu5] at BB ⊢
            obtain ⟨gb, hgb⟩ : ∃ q, q = (u1).heap.size := ⟨_, rfl⟩
            rw [← hgb] at BB ⊢
            have HNE : gb ≠ ga := by rw [hgb]; have := (OW.lt ga rfl).2; omega
            have OW := ownsRow_keep OW (fun q hq => nu5.block q (OW.lt q hq).2 (fun f => f))
            have nb := nb.tr nu5
            clear hu5 hgb nu5
            refine hK.out _ _ (nb) (fun hS0 => ?_)
            try simp only [Act.put, List.setIfInBounds_toArray, List.set_cons_zero, List.set_cons_succ]
            refine wpAnyH_ready (rs := [2]) (by kernel_rfl) (by simp) ?_
            refine (AllReadyH.cons (o := ({ dst := some 136, op := Op.call { callee := Callee.builtin Builtin.append, args := #[Operand.tmp 134, Operand.tmp 135], argTypes := #[25, 25] }, type := 25, pos := "outright.go:83", after := #[{ on := 0, ground := Ground.data }, { on := 1, ground := Ground.data }], guard := none } : Oper)) rfl (fun K' hK => ?_) AllReadyH.nil)
            refine step_app_none rfl (.tmp 134) (.tmp 135) 25 rfl 24 i0 Tryd.underlying25 HI0.out.1 (.slice (some ⟨ga, 0, none⟩) 0 0) (by kernel_rfl) OW (by kernel_rfl) ?_
            refine hK.out _ _ (nb) (fun hS0 => ?_)
            try simp only [Act.put, List.setIfInBounds_toArray, List.set_cons_zero, List.set_cons_succ]
            refine wpAnyH_ready (rs := [5]) (by kernel_rfl) (by simp) ?_
            refine (AllReadyH.cons (o := ({ dst := some 139, op := Op.call { callee := Callee.builtin Builtin.append, args := #[Operand.tmp 136, Operand.tmp 138], argTypes := #[25, 25] }, type := 25, pos := "outright.go:83", after := #[{ on := 2, ground := Ground.data }, { on := 4, ground := Ground.data }, { on := 2, ground := Ground.chain }], guard := none } : Oper)) rfl (fun K' hK => ?_) AllReadyH.nil)
            refine step_two rfl (.tmp 136) (.tmp 138) 25 rfl w12.heap.size 24 i0 (.agg z32) 32 32 Tryd.underlying25 HI0.out.1 HI0.out.2.1 HI0.out.2.2.1 HI0.out.2.2.2 z32_size (by decide) (.slice (some ⟨ga, 0, none⟩) 0 0) (0) ([]) (by kernel_rfl) (own_mono OW LA) ⟨gb, 0, none⟩ 1 1 (hbs rt).toList (by kernel_rfl) (by simp [hrts]) (fun j u hu => by rw [addZ, cell_of BB]; simpa using hu) (hbs_one _) (by unfold maxLen; omega) (by omega) nb.size ?_
            intro v2 u7 o2 t2
            have nb : Nw w12 u7 := nb.trans t2.fr (fun j hj e => by have := (own_mono OW LA).lt j e; omega)
            obtain ⟨ya, yc, rfl⟩ := ownsRow_form o2
            clear t2
            refine hK.out _ _ (nb) (fun hS0 => ?_)
            try simp only [Act.put, List.setIfInBounds_toArray, List.set_cons_zero, List.set_cons_succ]
            refine wpAnyH_ready (rs := [6]) (by kernel_rfl) (by simp) ?_
            refine (AllReadyH.cons (o := ({ dst := some 12, op := Op.assign (Operand.tmp 139), type := 25, pos := "outright.go:83", after := #[{ on := 5, ground := Ground.data }, { on := 5, ground := Ground.chain }, { on := 0, ground := Ground.phase }, { on := 1, ground := Ground.phase }, { on := 2, ground := Ground.phase }, { on := 3, ground := Ground.phase }, { on := 4, ground := Ground.phase }, { on := 5, ground := Ground.phase }], guard := none } : Oper)) rfl (fun K' hK => ?_) AllReadyH.nil)
            go_simp
            refine hK.out _ _ (nb) (fun hS0 => ?_)
            try simp only [Act.put, List.setIfInBounds_toArray, List.set_cons_zero, List.set_cons_succ]
            refine wpAnyH_done (by kernel_rfl) ?_ _
            go_wp2_with fail
            go_meet
            exact ⟨ya, yc, rfl, by simpa [hsc_app, hsc_one] using o2, nb⟩
        · refine step_build1 rfl (.tmp 137) rfl (hbs rt) (by kernel_rfl) hrts ?_
          have BB := heap_new (w12.drew) (.cells (hbs rt) 24)
          obtain ⟨u8, hu8⟩ : ∃ q, (w12.drew).alloc (.cells (hbs rt) 24) = q := ⟨_, rfl⟩
          have nu8 : Nw (w12.drew) u8 := by rw [← hu8]; exact nwa _ _
          rw [hu8] at BB ⊢
          obtain ⟨gb, hgb⟩ : ∃ q, q = (w12.drew).heap.size := ⟨_, rfl⟩
          rw [← hgb] at BB ⊢
          have nb := nb.tr nu8
          clear hu8 hgb nu8
          refine hK.out _ _ (nb) (fun hS0 => ?_)
          try simp only [Act.put, List.setIfInBounds_toArray, List.set_cons_zero, List.set_cons_succ]
          refine wpAnyH_ready (rs := [0]) (by kernel_rfl) (by simp) ?_
          refine (AllReadyH.cons (o := ({ dst := some 134, op := Op.buildSlice 25 0 #[], type := 25, pos := "outright.go:83", after := #[], guard := none } : Oper)) rfl (fun K' hK => ?_) AllReadyH.nil)
          refine step_build0V rfl rfl ?_
          have OW := own_emptyV (u8)
          obtain ⟨u9, hu9⟩ : ∃ q, (u8).alloc (.cells #[] 24) = q := ⟨_, rfl⟩
          have nu9 : Nw (u8) u9 := by rw [← hu9]; exact nwa _ _
          rw [hu9] at OW ⊢
          obtain ⟨ga, hga⟩ : ∃ q, q = (u8).heap.size := ⟨_, rfl⟩
          have LA : w12.heap.size ≤ ga := by rw [hga]; exact nb.size
          rw [← hga] at OW ⊢
          have HNE : gb ≠ ga := by rw [hga]; have := heap_lt BB; omega
          have BB := (nu9.block _ (heap_lt BB) (fun f => f)).trans BB
          have nb := nb.tr nu9
          clear hu9 hga nu9
          refine hK.out _ _ (nb) (fun hS0 => ?_)
          try simp only [Act.put, List.setIfInBounds_toArray, List.set_cons_zero, List.set_cons_succ]
          refine wpAnyH_ready (rs := [2]) (by kernel_rfl) (by simp) ?_
          refine (AllReadyH.cons (o := ({ dst := some 136, op := Op.call { callee := Callee.builtin Builtin.append, args := #[Operand.tmp 134, Operand.tmp 135], argTypes := #[25, 25] }, type := 25, pos := "outright.go:83", after := #[{ on := 0, ground := Ground.data }, { on := 1, ground := Ground.data }], guard := none } : Oper)) rfl (fun K' hK => ?_) AllReadyH.nil)
          refine step_app_none rfl (.tmp 134) (.tmp 135) 25 rfl 24 i0 Tryd.underlying25 HI0.out.1 (.slice (some ⟨ga, 0, none⟩) 0 0) (by kernel_rfl) OW (by kernel_rfl) ?_
          refine hK.out _ _ (nb) (fun hS0 => ?_)
          try simp only [Act.put, List.setIfInBounds_toArray, List.set_cons_zero, List.set_cons_succ]
          refine wpAnyH_ready (rs := [5]) (by kernel_rfl) (by simp) ?_
          refine (AllReadyH.cons (o := ({ dst := some 139, op := Op.call { callee := Callee.builtin Builtin.append, args := #[Operand.tmp 136, Operand.tmp 138], argTypes := #[25, 25] }, type := 25, pos := "outright.go:83", after := #[{ on := 2, ground := Ground.data }, { on := 4, ground := Ground.data }, { on := 2, ground := Ground.chain }], guard := none } : Oper)) rfl (fun K' hK => ?_) AllReadyH.nil)
          refine step_two rfl (.tmp 136) (.tmp 138) 25 rfl w12.heap.size 24 i0 (.agg z32) 32 32 Tryd.underlying25 HI0.out.1 HI0.out.2.1 HI0.out.2.2.1 HI0.out.2.2.2 z32_size (by decide) (.slice (some ⟨ga, 0, none⟩) 0 0) (0) ([]) (by kernel_rfl) (own_mono OW LA) ⟨gb, 0, none⟩ 1 1 (hbs rt).toList (by kernel_rfl) (by simp [hrts]) (fun j u hu => by rw [addZ, cell_of BB]; simpa using hu) (hbs_one _) (by unfold maxLen; omega) (by omega) nb.size ?_
          intro v2 u11 o2 t2
          have nb : Nw w12 u11 := nb.trans t2.fr (fun j hj e => by have := (own_mono OW LA).lt j e; omega)
          obtain ⟨ya, yc, rfl⟩ := ownsRow_form o2
          clear t2
          refine hK.out _ _ (nb) (fun hS0 => ?_)
          try simp only [Act.put, List.setIfInBounds_toArray, List.set_cons_zero, List.set_cons_succ]
          refine wpAnyH_ready (rs := [6]) (by kernel_rfl) (by simp) ?_
          refine (AllReadyH.cons (o := ({ dst := some 12, op := Op.assign (Operand.tmp 139), type := 25, pos := "outright.go:83", after := #[{ on := 5, ground := Ground.data }, { on := 5, ground := Ground.chain }, { on := 0, ground := Ground.phase }, { on := 1, ground := Ground.phase }, { on := 2, ground := Ground.phase }, { on := 3, ground := Ground.phase }, { on := 4, ground := Ground.phase }, { on := 5, ground := Ground.phase }], guard := none } : Oper)) rfl (fun K' hK => ?_) AllReadyH.nil)
          go_simp
          refine hK.out _ _ (nb) (fun hS0 => ?_)
          try simp only [Act.put, List.setIfInBounds_toArray, List.set_cons_zero, List.set_cons_succ]
          refine wpAnyH_done (by kernel_rfl) ?_ _
          go_wp2_with fail
          go_meet
          exact ⟨ya, yc, rfl, by simpa [hsc_app, hsc_one] using o2, nb⟩
      · have CLq : Hid ((hsc ql).length = qn * 32) := OQ12.out.1
        have CWq : Hid (∀ V, Nw w12 V → ∀ j u, (hsc ql)[j]? = some u → V.cell? ((⟨qg, 0, none⟩ : Addr).add j) = some u) := fun V nV j u hu => nV.cellOf (OQ12.out.cells (g := qg) rfl j u hu)
        have C1q : Hid (∀ u ∈ hsc ql, u.oneCell' = true) := hsc_cellV _
        have nb : Nw w12 w12.drew := (Fr.refl _ _).drew
        refine wp_region_held_drew (S := (fun V => Nw w12 V)) (by kernel_rfl) (nb) ?_
        intro hS0
        refine wpAnyH_take (i := 1) (oi := ({ dst := some 135, op := Op.move (Operand.tmp 13), type := 25, pos := "outright.go:83", after := #[], guard := none } : Oper)) (v := .slice (some ⟨qg, 0, none⟩) qn qc) rfl (by kernel_rfl) (by kernel_rfl) (by kernel_rfl) (fun _ _ _ h => h) (Or.inl ⟨by rfl, by intro w hw; go_simp⟩) hS0 ?_
        try simp only [Act.put, List.setIfInBounds_toArray, List.set_cons_zero, List.set_cons_succ]
        refine wpAnyH_take (i := 3) (oi := ({ dst := some 137, op := Op.load 24 (Operand.tmp 8), type := 24, pos := "outright.go:83", after := #[], guard := none } : Oper)) (v := .agg (hbs rt)) rfl (by kernel_rfl) (by kernel_rfl) (by kernel_rfl) (fun _ _ _ h => h) (yields_loadV (by kernel_rfl) (.tmp 8) 24 32 rfl Tryd.isAgg24 Tryd.sizeOf24 rb (0) rfl (hbs rt) hrts (fun w hw => HRTw12.out w hw)) hS0 ?_
        try simp only [Act.put, List.setIfInBounds_toArray, List.set_cons_zero, List.set_cons_succ]
        refine wpAnyH_ready (rs := [0, 4]) (by kernel_rfl) (by simp) ?_
        refine (AllReadyH.cons (o := ({ dst := some 134, op := Op.buildSlice 25 0 #[], type := 25, pos := "outright.go:83", after := #[], guard := none } : Oper)) rfl (fun K' hK => ?_) (AllReadyH.cons (o := ({ dst := some 138, op := Op.buildSlice 25 1 #[(0, Operand.tmp 137)], type := 25, pos := "outright.go:83", after := #[{ on := 3, ground := Ground.data }], guard := none } : Oper)) rfl (fun K' hK => ?_) AllReadyH.nil))
        · refine step_build0V rfl rfl ?_
          have OW := own_emptyV (w12.drew)
          obtain ⟨u1, hu1⟩ : ∃ q, (w12.drew).alloc (.cells #[] 24) = q := ⟨_, rfl⟩
          have nu1 : Nw (w12.drew) u1 := by rw [← hu1]; exact nwa _ _
          rw [hu1] at OW ⊢
          obtain ⟨ga, hga⟩ : ∃ q, q = (w12.drew).heap.size := ⟨_, rfl⟩
          have LA : w12.heap.size ≤ ga := by rw [hga]; exact nb.size
          rw [← hga] at OW ⊢
          have nb := nb.tr nu1
          clear hu1 hga nu1
          refine hK.out _ _ (nb) (fun hS0 => ?_)
          try simp only [Act.put, List.setIfInBounds_toArray, List.set_cons_zero, List.set_cons_succ]
          refine wpAnyH_ready (rs := [2, 4]) (by kernel_rfl) (by simp) ?_
          refine (AllReadyH.cons (o := ({ dst := some 136, op := Op.call { callee := Callee.builtin Builtin.append, args := #[Operand.tmp 134, Operand.tmp 135], argTypes := #[25, 25] }, type := 25, pos := "outright.go:83", after := #[{ on := 0, ground := Ground.data }, { on := 1, ground := Ground.data }], guard := none } : Oper)) rfl (fun K' hK => ?_) (AllReadyH.cons (o := ({ dst := some 138, op := Op.buildSlice 25 1 #[(0, Operand.tmp 137)], type := 25, pos := "outright.go:83", after := #[{ on := 3, ground := Ground.data }], guard := none } : Oper)) rfl (fun K' hK => ?_) AllReadyH.nil))
          · refine step_two rfl (.tmp 134) (.tmp 135) 25 rfl ga 24 i0 (.agg z32) 32 32 Tryd.underlying25 HI0.out.1 HI0.out.2.1 HI0.out.2.2.1 HI0.out.2.2.2 z32_size (by decide) (.slice (some ⟨ga, 0, none⟩) 0 0) 0 [] (by kernel_rfl) OW ⟨qg, 0, none⟩ qn qc (hsc ql) (by kernel_rfl) CLq.out (CWq.out _ nb) C1q.out (by unfold maxLen; omega) (by omega) (by have := (OW.lt ga rfl).2; omega) ?_
            intro v1 u2 OW t1
            have nb : Nw w12 u2 := nb.trans t1.fr (fun j hj e => by simp only [Value.ownBlock, Option.some.injEq] at e; omega)
            obtain ⟨xa, xc, rfl⟩ := ownsRow_form OW
            clear t1
            refine hK.out _ _ (nb) (fun hS0 => ?_)
            try simp only [Act.put, List.setIfInBounds_toArray, List.set_cons_zero, List.set_cons_succ]
            refine wpAnyH_ready (rs := [4]) (by kernel_rfl) (by simp) ?_
            refine (AllReadyH.cons (o := ({ dst := some 138, op := Op.buildSlice 25 1 #[(0, Operand.tmp 137)], type := 25, pos := "outright.go:83", after := #[{ on := 3, ground := Ground.data }], guard := none } : Oper)) rfl (fun K' hK => ?_) AllReadyH.nil)
            refine step_build1 rfl (.tmp 137) rfl (hbs rt) (by kernel_rfl) hrts ?_
            have BB := heap_new (u2) (.cells (hbs rt) 24)
            obtain ⟨u3, hu3⟩ : ∃ q, (u2).alloc (.cells (hbs rt) 24) = q := ⟨_, rfl⟩
            have nu3 : Nw (u2) u3 := by rw [← hu3]; exact nwa _ _
            rw [hu3] at BB ⊢
            obtain ⟨gb, hgb⟩ : ∃ q, q = (u2).heap.size := ⟨_, rfl⟩
            rw [← hgb] at BB ⊢
            have HNE : True := trivial
            have OW := ownsRow_keep OW (fun q hq => nu3.block q (OW.lt q hq).2 (fun f => f))
            have nb := nb.tr nu3
            clear hu3 hgb nu3
            refine hK.out _ _ (nb) (fun hS0 => ?_)
            try simp only [Act.put, List.setIfInBounds_toArray, List.set_cons_zero, List.set_cons_succ]
            refine wpAnyH_ready (rs := [5]) (by kernel_rfl) (by simp) ?_
            refine (AllReadyH.cons (o := ({ dst := some 139, op := Op.call { callee := Callee.builtin Builtin.append, args := #[Operand.tmp 136, Operand.tmp 138], argTypes := #[25, 25] }, type := 25, pos := "outright.go:83", after := #[{ on := 2, ground := Ground.data }, { on := 4, ground := Ground.data }, { on := 2, ground := Ground.chain }], guard := none } : Oper)) rfl (fun K' hK => ?_) AllReadyH.nil)
            refine step_two rfl (.tmp 136) (.tmp 138) 25 rfl w12.heap.size 24 i0 (.agg z32) 32 32 Tryd.underlying25 HI0.out.1 HI0.out.2.1 HI0.out.2.2.1 HI0.out.2.2.2 z32_size (by decide) (.slice xa (0 + qn) xc) (0 + qn) ([] ++ hsc ql) (by kernel_rfl) (own_mono OW LA) ⟨gb, 0, none⟩ 1 1 (hbs rt).toList (by kernel_rfl) (by simp [hrts]) (fun j u hu => by rw [addZ, cell_of BB]; simpa using hu) (hbs_one _) (by unfold maxLen; omega) (by omega) nb.size ?_
            intro v2 u4 o2 t2
            have nb : Nw w12 u4 := nb.trans t2.fr (fun j hj e => by have := (own_mono OW LA).lt j e; omega)
            obtain ⟨ya, yc, rfl⟩ := ownsRow_form o2
            clear t2
            refine hK.out _ _ (nb) (fun hS0 => ?_)
            try simp only [Act.put, List.setIfInBounds_toArray, List.set_cons_zero, List.set_cons_succ]
            refine wpAnyH_ready (rs := [6]) (by kernel_rfl) (by simp) ?_
            refine (AllReadyH.cons (o := ({ dst := some 12, op := Op.assign (Operand.tmp 139), type := 25, pos := "outright.go:83", after := #[{ on := 5, ground := Ground.data }, { on := 5, ground := Ground.chain }, { on := 0, ground := Ground.phase }, { on := 1, ground := Ground.phase }, { on := 2, ground := Ground.phase }, { on := 3, ground := Ground.phase }, { on := 4, ground := Ground.phase }, { on := 5, ground := Ground.phase }], guard := none } : Oper)) rfl (fun K' hK => ?_) AllReadyH.nil)
            go_simp
            refine hK.out _ _ (nb) (fun hS0 => ?_)
            try simp only [Act.put, List.setIfInBounds_toArray, List.set_cons_zero, List.set_cons_succ]
            refine wpAnyH_done (by kernel_rfl) ?_ _
            go_wp2_with fail
            go_meet
            rw [Nat.zero_add] at o2
            exact ⟨ya, yc, rfl, by rw [hsc_app, hsc_one]; simpa using o2, nb⟩
          · refine step_build1 rfl (.tmp 137) rfl (hbs rt) (by kernel_rfl) hrts ?_
            have BB := heap_new (u1) (.cells (hbs rt) 24)
            obtain ⟨u5, hu5⟩ : ∃ q, (u1).alloc (.cells (hbs rt) 24) = q := ⟨_, rfl⟩
            have nu5 : Nw (u1) u5 := by rw [← hu5]; exact nwa _ _
            rw [hu5] at BB ⊢
            obtain ⟨gb, hgb⟩ : ∃ q, q = (u1).heap.size := ⟨_, rfl⟩
            rw [← hgb] at BB ⊢
            have HNE : gb ≠ ga := by rw [hgb]; have := (OW.lt ga rfl).2; omega
            have OW := ownsRow_keep OW (fun q hq => nu5.block q (OW.lt q hq).2 (fun f => f))
            have nb := nb.tr nu5
            clear hu5 hgb nu5
            refine hK.out _ _ (nb) (fun hS0 => ?_)
            try simp only [Act.put, List.setIfInBounds_toArray, List.set_cons_zero, List.set_cons_succ]
            refine wpAnyH_ready (rs := [2]) (by kernel_rfl) (by simp) ?_
            refine (AllReadyH.cons (o := ({ dst := some 136, op := Op.call { callee := Callee.builtin Builtin.append, args := #[Operand.tmp 134, Operand.tmp 135], argTypes := #[25, 25] }, type := 25, pos := "outright.go:83", after := #[{ on := 0, ground := Ground.data }, { on := 1, ground := Ground.data }], guard := none } : Oper)) rfl (fun K' hK => ?_) AllReadyH.nil)
            refine step_two rfl (.tmp 134) (.tmp 135) 25 rfl ga 24 i0 (.agg z32) 32 32 Tryd.underlying25 HI0.out.1 HI0.out.2.1 HI0.out.2.2.1 HI0.out.2.2.2 z32_size (by decide) (.slice (some ⟨ga, 0, none⟩) 0 0) 0 [] (by kernel_rfl) OW ⟨qg, 0, none⟩ qn qc (hsc ql) (by kernel_rfl) CLq.out (CWq.out _ nb) C1q.out (by unfold maxLen; omega) (by omega) (by have := (OW.lt ga rfl).2; omega) ?_
            intro v1 u6 OW t1
            have nb : Nw w12 u6 := nb.trans t1.fr (fun j hj e => by simp only [Value.ownBlock, Option.some.injEq] at e; omega)
            have BB := (t1.fr.block _ (heap_lt BB) (fun e => by simp only [Value.ownBlock, Option.some.injEq] at e; omega)).trans BB
            obtain ⟨xa, xc, rfl⟩ := ownsRow_form OW
            clear t1
            refine hK.out _ _ (nb) (fun hS0 => ?_)
            try simp only [Act.put, List.setIfInBounds_toArray, List.set_cons_zero, List.set_cons_succ]
            refine wpAnyH_ready (rs := [5]) (by kernel_rfl) (by simp) ?_
            refine (AllReadyH.cons (o := ({ dst := some 139, op := Op.call { callee := Callee.builtin Builtin.append, args := #[Operand.tmp 136, Operand.tmp 138], argTypes := #[25, 25] }, type := 25, pos := "outright.go:83", after := #[{ on := 2, ground := Ground.data }, { on := 4, ground := Ground.data }, { on := 2, ground := Ground.chain }], guard := none } : Oper)) rfl (fun K' hK => ?_) AllReadyH.nil)
            refine step_two rfl (.tmp 136) (.tmp 138) 25 rfl w12.heap.size 24 i0 (.agg z32) 32 32 Tryd.underlying25 HI0.out.1 HI0.out.2.1 HI0.out.2.2.1 HI0.out.2.2.2 z32_size (by decide) (.slice xa (0 + qn) xc) (0 + qn) ([] ++ hsc ql) (by kernel_rfl) (own_mono OW LA) ⟨gb, 0, none⟩ 1 1 (hbs rt).toList (by kernel_rfl) (by simp [hrts]) (fun j u hu => by rw [addZ, cell_of BB]; simpa using hu) (hbs_one _) (by unfold maxLen; omega) (by omega) nb.size ?_
            intro v2 u7 o2 t2
            have nb : Nw w12 u7 := nb.trans t2.fr (fun j hj e => by have := (own_mono OW LA).lt j e; omega)
            obtain ⟨ya, yc, rfl⟩ := ownsRow_form o2
            clear t2
            refine hK.out _ _ (nb) (fun hS0 => ?_)
            try simp only [Act.put, List.setIfInBounds_toArray, List.set_cons_zero, List.set_cons_succ]
            refine wpAnyH_ready (rs := [6]) (by kernel_rfl) (by simp) ?_
            refine (AllReadyH.cons (o := ({ dst := some 12, op := Op.assign (Operand.tmp 139), type := 25, pos := "outright.go:83", after := #[{ on := 5, ground := Ground.data }, { on := 5, ground := Ground.chain }, { on := 0, ground := Ground.phase }, { on := 1, ground := Ground.phase }, { on := 2, ground := Ground.phase }, { on := 3, ground := Ground.phase }, { on := 4, ground := Ground.phase }, { on := 5, ground := Ground.phase }], guard := none } : Oper)) rfl (fun K' hK => ?_) AllReadyH.nil)
            go_simp
            refine hK.out _ _ (nb) (fun hS0 => ?_)
            try simp only [Act.put, List.setIfInBounds_toArray, List.set_cons_zero, List.set_cons_succ]
            refine wpAnyH_done (by kernel_rfl) ?_ _
            go_wp2_with fail
            go_meet
            rw [Nat.zero_add] at o2
            exact ⟨ya, yc, rfl, by rw [hsc_app, hsc_one]; simpa using o2, nb⟩
        · refine step_build1 rfl (.tmp 137) rfl (hbs rt) (by kernel_rfl) hrts ?_
          have BB := heap_new (w12.drew) (.cells (hbs rt) 24)
          obtain ⟨u8, hu8⟩ : ∃ q, (w12.drew).alloc (.cells (hbs rt) 24) = q := ⟨_, rfl⟩
          have nu8 : Nw (w12.drew) u8 := by rw [← hu8]; exact nwa _ _
          rw [hu8] at BB ⊢
          obtain ⟨gb, hgb⟩ : ∃ q, q = (w12.drew).heap.size := ⟨_, rfl⟩
          rw [← hgb] at BB ⊢
          have nb := nb.tr nu8
          clear hu8 hgb nu8
          refine hK.out _ _ (nb) (fun hS0 => ?_)
          try simp only [Act.put, List.setIfInBounds_toArray, List.set_cons_zero, List.set_cons_succ]
          refine wpAnyH_ready (rs := [0]) (by kernel_rfl) (by simp) ?_
          refine (AllReadyH.cons (o := ({ dst := some 134, op := Op.buildSlice 25 0 #[], type := 25, pos := "outright.go:83", after := #[], guard := none } : Oper)) rfl (fun K' hK => ?_) AllReadyH.nil)
          refine step_build0V rfl rfl ?_
          have OW := own_emptyV (u8)
          obtain ⟨u9, hu9⟩ : ∃ q, (u8).alloc (.cells #[] 24) = q := ⟨_, rfl⟩
          have nu9 : Nw (u8) u9 := by rw [← hu9]; exact nwa _ _
          rw [hu9] at OW ⊢
          obtain ⟨ga, hga⟩ : ∃ q, q = (u8).heap.size := ⟨_, rfl⟩
          have LA : w12.heap.size ≤ ga := by rw [hga]; exact nb.size
          rw [← hga] at OW ⊢
          have HNE : gb ≠ ga := by rw [hga]; have := heap_lt BB; omega
          have BB := (nu9.block _ (heap_lt BB) (fun f => f)).trans BB
          have nb := nb.tr nu9
          clear hu9 hga nu9
          refine hK.out _ _ (nb) (fun hS0 => ?_)
          try simp only [Act.put, List.setIfInBounds_toArray, List.set_cons_zero, List.set_cons_succ]
          refine wpAnyH_ready (rs := [2]) (by kernel_rfl) (by simp) ?_
          refine (AllReadyH.cons (o := ({ dst := some 136, op := Op.call { callee := Callee.builtin Builtin.append, args := #[Operand.tmp 134, Operand.tmp 135], argTypes := #[25, 25] }, type := 25, pos := "outright.go:83", after := #[{ on := 0, ground := Ground.data }, { on := 1, ground := Ground.data }], guard := none } : Oper)) rfl (fun K' hK => ?_) AllReadyH.nil)
          refine step_two rfl (.tmp 134) (.tmp 135) 25 rfl ga 24 i0 (.agg z32) 32 32 Tryd.underlying25 HI0.out.1 HI0.out.2.1 HI0.out.2.2.1 HI0.out.2.2.2 z32_size (by decide) (.slice (some ⟨ga, 0, none⟩) 0 0) 0 [] (by kernel_rfl) OW ⟨qg, 0, none⟩ qn qc (hsc ql) (by kernel_rfl) CLq.out (CWq.out _ nb) C1q.out (by unfold maxLen; omega) (by omega) (by have := (OW.lt ga rfl).2; omega) ?_
          intro v1 u10 OW t1
          have nb : Nw w12 u10 := nb.trans t1.fr (fun j hj e => by simp only [Value.ownBlock, Option.some.injEq] at e; omega)
          have BB := (t1.fr.block _ (heap_lt BB) (fun e => by simp only [Value.ownBlock, Option.some.injEq] at e; omega)).trans BB
          obtain ⟨xa, xc, rfl⟩ := ownsRow_form OW
          clear t1
          refine hK.out _ _ (nb) (fun hS0 => ?_)
          try simp only [Act.put, List.setIfInBounds_toArray, List.set_cons_zero, List.set_cons_succ]
          refine wpAnyH_ready (rs := [5]) (by kernel_rfl) (by simp) ?_
          refine (AllReadyH.cons (o := ({ dst := some 139, op := Op.call { callee := Callee.builtin Builtin.append, args := #[Operand.tmp 136, Operand.tmp 138], argTypes := #[25, 25] }, type := 25, pos := "outright.go:83", after := #[{ on := 2, ground := Ground.data }, { on := 4, ground := Ground.data }, { on := 2, ground := Ground.chain }], guard := none } : Oper)) rfl (fun K' hK => ?_) AllReadyH.nil)
          refine step_two rfl (.tmp 136) (.tmp 138) 25 rfl w12.heap.size 24 i0 (.agg z32) 32 32 Tryd.underlying25 HI0.out.1 HI0.out.2.1 HI0.out.2.2.1 HI0.out.2.2.2 z32_size (by decide) (.slice xa (0 + qn) xc) (0 + qn) ([] ++ hsc ql) (by kernel_rfl) (own_mono OW LA) ⟨gb, 0, none⟩ 1 1 (hbs rt).toList (by kernel_rfl) (by simp [hrts]) (fun j u hu => by rw [addZ, cell_of BB]; simpa using hu) (hbs_one _) (by unfold maxLen; omega) (by omega) nb.size ?_
          intro v2 u11 o2 t2
          have nb : Nw w12 u11 := nb.trans t2.fr (fun j hj e => by have := (own_mono OW LA).lt j e; omega)
          obtain ⟨ya, yc, rfl⟩ := ownsRow_form o2
          clear t2
          refine hK.out _ _ (nb) (fun hS0 => ?_)
          try simp only [Act.put, List.setIfInBounds_toArray, List.set_cons_zero, List.set_cons_succ]
          refine wpAnyH_ready (rs := [6]) (by kernel_rfl) (by simp) ?_
          refine (AllReadyH.cons (o := ({ dst := some 12, op := Op.assign (Operand.tmp 139), type := 25, pos := "outright.go:83", after := #[{ on := 5, ground := Ground.data }, { on := 5, ground := Ground.chain }, { on := 0, ground := Ground.phase }, { on := 1, ground := Ground.phase }, { on := 2, ground := Ground.phase }, { on := 3, ground := Ground.phase }, { on := 4, ground := Ground.phase }, { on := 5, ground := Ground.phase }], guard := none } : Oper)) rfl (fun K' hK => ?_) AllReadyH.nil)
          go_simp
          refine hK.out _ _ (nb) (fun hS0 => ?_)
          try simp only [Act.put, List.setIfInBounds_toArray, List.set_cons_zero, List.set_cons_succ]
          refine wpAnyH_done (by kernel_rfl) ?_ _
          go_wp2_with fail
          go_meet
          rw [Nat.zero_add] at o2
          exact ⟨ya, yc, rfl, by rw [hsc_app, hsc_one]; simpa using o2, nb⟩
    case rest =>
    obtain ⟨ka, kc, rfl, om, nm⟩ := hcut
    obtain ⟨wd, hwd⟩ : ∃ x, x = wc := ⟨_, rfl⟩
    rw [← hwd] at om nm ⊢
    have OMd : Hid (wd.ownsRow w12.heap.size 24 32 (.slice ka (qn + 1) kc) (qn + 1) (hsc (ql ++ [rt]))) := om
    have Nd : Hid (Nw w wd) := N12.out.tr nm
    have Md : Hid (Nw w3 wd) := M12.out.tr nm
    have M9d : Hid (Nw w9 wd) := M9c.out.tr nm
    have HRTwd : Hid (∀ V, Nw wd V → ∀ j, j < 32 → V.cell? ⟨rb, 0 + j, none⟩ = (hbs rt)[j]?) := fun V hV => HRTw3.out V (Md.out.tr hV)
    have HODwd : Hid (∀ V, Nw wd V → ∀ j, j < 32 → V.cell? ⟨ob, 0 + j, none⟩ = (hbs od)[j]?) := fun V hV => HOD12.out V (nm.tr hV)
    have hmo32 : ∀ y ∈ ql ++ [rt], y.length = 32 := fun y hy => by
      rcases List.mem_append.1 hy with h | h
      · exact HQ32.out y h
      · rw [List.mem_singleton.1 h]; exact RT32.out
    have hmol : (ql ++ [rt]).length = qn + 1 := by rw [List.length_append, HQN.out]; rfl
    have hkc : qn + 1 ≤ kc := by
      rcases OMd.out.2 with ⟨h3, h4⟩ | ⟨g, c, cur, h3, h4, h5, h6, _⟩
      · omega
      · cases h3; exact h6
    have HMO : Hid (∀ V, Nw wd V → Hss V (.slice ka (ql ++ [rt]).length kc) (ql ++ [rt])) := fun V hV => (Hss.of hmo32 (by rw [hmol]; exact OMd.out)).nw hmo32 hV
    have QC1 : Hid (∀ V, Nw wd V → Calls Tryd.prog 17 #[.int .u64 ((o : Int) + 1), .int .u64 (n : Int), .agg (hbs od), .agg (hbs rt), .slice ka (qn + 1) kc] V fun e w' => e = .returned (sen (a 9)) ∧ Nw V w') := fun V hV => by
      have := QC.out V (o + 1) (ql ++ [rt]) ka kc HMN.out.2.2.1 hmo32 (by rw [hmol]; omega) (by rw [hmol]; exact hkc) (Nd.out.tr hV) (HMO.out V hV)
      rw [cc_len HIO.out HQL.out (by rw [hmol, HQN.out]; omega), hmol, HEO.out] at this
      exact this
    clear hwd om nm hmo32 hmol hkc OMd
    go_upto_region 19 with fail
    go_cut [167] (fun v wx => v = .bool false ∧ Nw wd wx)
    case first => as_aux_lemma =>
      by_cases hp0 : qn = 0
      · subst hp0
        have hpos : ¬ (0 : Int) < (0 : Int) := by omega
        have nb : Nw wd wd.drew := (Fr.refl _ _).drew
        refine wp_region_held_drew (S := (fun V => Nw wd V)) (by kernel_rfl) (nb) ?_
        intro hS0
        refine wpAnyH_take (i := 0) (oi := ({ dst := some 140, op := Op.move (Operand.tmp 2), type := 3, pos := "outright.go:84", after := #[], guard := none } : Oper)) (v := .int .i64 ((o : Int) + 1)) rfl (by kernel_rfl) (by kernel_rfl) (by kernel_rfl) (fun _ _ _ h => h) (Or.inl ⟨by rfl, by intro w hw; go_simp⟩) hS0 ?_
        try simp only [Act.put, List.setIfInBounds_toArray, List.set_cons_zero, List.set_cons_succ]
        refine wpAnyH_take (i := 1) (oi := ({ dst := some 141, op := Op.convert 3 22 (Operand.tmp 140), type := 22, pos := "outright.go:84", after := #[{ on := 0, ground := Ground.data }], guard := none } : Oper)) (v := .int .u64 ((o : Int) + 1)) rfl (by kernel_rfl) (by kernel_rfl) (by kernel_rfl) (fun _ _ _ h => h) (Or.inl ⟨by kernel_rfl, by intro w hw; go_simp⟩) hS0 ?_
        try simp only [Act.put, List.setIfInBounds_toArray, List.set_cons_zero, List.set_cons_succ]
        refine wpAnyH_take (i := 2) (oi := ({ dst := some 142, op := Op.move (Operand.tmp 7), type := 3, pos := "outright.go:84", after := #[], guard := none } : Oper)) (v := .int .i64 (n : Int)) rfl (by kernel_rfl) (by kernel_rfl) (by kernel_rfl) (fun _ _ _ h => h) (Or.inl ⟨by rfl, by intro w hw; go_simp⟩) hS0 ?_
        try simp only [Act.put, List.setIfInBounds_toArray, List.set_cons_zero, List.set_cons_succ]
        refine wpAnyH_take (i := 3) (oi := ({ dst := some 143, op := Op.convert 3 22 (Operand.tmp 142), type := 22, pos := "outright.go:84", after := #[{ on := 2, ground := Ground.data }], guard := none } : Oper)) (v := .int .u64 (n : Int)) rfl (by kernel_rfl) (by kernel_rfl) (by kernel_rfl) (fun _ _ _ h => h) (Or.inl ⟨by kernel_rfl, by intro w hw; go_simp⟩) hS0 ?_
        try simp only [Act.put, List.setIfInBounds_toArray, List.set_cons_zero, List.set_cons_succ]
        refine wpAnyH_take (i := 4) (oi := ({ dst := some 144, op := Op.load 24 (Operand.tmp 14), type := 24, pos := "outright.go:84", after := #[], guard := none } : Oper)) (v := .agg (hbs od)) rfl (by kernel_rfl) (by kernel_rfl) (by kernel_rfl) (fun _ _ _ h => h) (yields_loadV (by kernel_rfl) (.tmp 14) 24 32 rfl Tryd.isAgg24 Tryd.sizeOf24 ob (0) rfl (hbs od) hods (fun w hw => HODwd.out w hw)) hS0 ?_
        try simp only [Act.put, List.setIfInBounds_toArray, List.set_cons_zero, List.set_cons_succ]
        refine wpAnyH_take (i := 5) (oi := ({ dst := some 145, op := Op.load 24 (Operand.tmp 8), type := 24, pos := "outright.go:84", after := #[], guard := none } : Oper)) (v := .agg (hbs rt)) rfl (by kernel_rfl) (by kernel_rfl) (by kernel_rfl) (fun _ _ _ h => h) (yields_loadV (by kernel_rfl) (.tmp 8) 24 32 rfl Tryd.isAgg24 Tryd.sizeOf24 rb (0) rfl (hbs rt) hrts (fun w hw => HRTwd.out w hw)) hS0 ?_
        try simp only [Act.put, List.setIfInBounds_toArray, List.set_cons_zero, List.set_cons_succ]
        refine wpAnyH_take (i := 6) (oi := ({ dst := some 146, op := Op.move (Operand.tmp 12), type := 25, pos := "outright.go:84", after := #[], guard := none } : Oper)) (v := .slice ka (0 + 1) kc) rfl (by kernel_rfl) (by kernel_rfl) (by kernel_rfl) (fun _ _ _ h => h) (Or.inl ⟨by rfl, by intro w hw; go_simp⟩) hS0 ?_
        try simp only [Act.put, List.setIfInBounds_toArray, List.set_cons_zero, List.set_cons_succ]
        refine wpAnyH_ready (rs := [7]) (by kernel_rfl) (by simp) ?_
        refine (AllReadyH.cons (o := ({ dst := some 147, op := Op.call { callee := Callee.value (Operand.func 17), args := #[Operand.tmp 141, Operand.tmp 143, Operand.tmp 144, Operand.tmp 145, Operand.tmp 146], argTypes := #[22, 22, 24, 24, 25] }, type := 31, pos := "outright.go:84", after := #[{ on := 1, ground := Ground.data }, { on := 3, ground := Ground.data }, { on := 4, ground := Ground.data }, { on := 5, ground := Ground.data }, { on := 6, ground := Ground.data }], guard := none } : Oper)) rfl (fun K' hK => ?_) AllReadyH.nil)
        go_simp
        go_wp2_with (go_at_call 17; refine (QC1.out _ nb).mono ?_; rintro ex w101 ⟨rfl, nw101⟩)
        have nb := nb.tr nw101
        refine hK.out _ _ (nb) (fun hS0 => ?_)
        try simp only [Act.put, List.setIfInBounds_toArray, List.set_cons_zero, List.set_cons_succ]
        refine wpAnyH_ready (rs := [8]) (by kernel_rfl) (by simp) ?_
        refine (AllReadyH.cons (o := ({ dst := some 148, op := Op.call { callee := Callee.value (Operand.func 21), args := #[Operand.tmp 147, Operand.const (Value.int IntKind.i64 10)], argTypes := #[31, 3] }, type := 4, pos := "outright.go:84", after := #[{ on := 7, ground := Ground.data }, { on := 7, ground := Ground.chain }], guard := none } : Oper)) rfl (fun K' hK => ?_) AllReadyH.nil)
        go_simp
        go_wp2_with (go_at_call 21; refine (QIS10.out _ (Nd.out.tr nb)).mono ?_; rintro ex w102 ⟨rfl, nw102⟩)
        have nb := nb.tr nw102
        refine hK.out _ _ (nb) (fun hS0 => ?_)
        try simp only [Act.put, List.setIfInBounds_toArray, List.set_cons_zero, List.set_cons_succ]
        refine wpAnyH_take (i := 9) (oi := ({ dst := some 149, op := Op.unOp UnOp.not 4 (Operand.tmp 148), type := 4, pos := "outright.go:84", after := #[{ on := 8, ground := Ground.data }], guard := none } : Oper)) (v := .bool false) rfl (by kernel_rfl) (by kernel_rfl) (by kernel_rfl) (fun _ _ _ h => h) (Or.inl ⟨by kernel_rfl, by intro w hw; go_simp⟩) hS0 ?_
        try simp only [Act.put, List.setIfInBounds_toArray, List.set_cons_zero, List.set_cons_succ]
        refine wpAnyH_take (i := 10) (oi := ({ dst := some 150, op := Op.move (Operand.tmp 149), type := 4, pos := "outright.go:84", after := #[{ on := 9, ground := Ground.data }, { on := 8, ground := Ground.chain }], guard := none } : Oper)) (v := .bool false) rfl (by kernel_rfl) (by kernel_rfl) (by kernel_rfl) (fun _ _ _ h => h) (Or.inl ⟨by rfl, by intro w hw; go_simp⟩) hS0 ?_
        try simp only [Act.put, List.setIfInBounds_toArray, List.set_cons_zero, List.set_cons_succ]
        refine wpAnyH_take (i := 11) (oi := ({ dst := some 151, op := Op.move (Operand.tmp 13), type := 25, pos := "outright.go:84", after := #[{ on := 10, ground := Ground.guard }], guard := some (10, false) } : Oper)) (v := .slice qa 0 qc) rfl (by kernel_rfl) (by kernel_rfl) (by kernel_rfl) (fun _ _ _ h => h) (Or.inl ⟨by kernel_rfl, by intro w hw; go_simp⟩) hS0 ?_
        try simp only [Act.put, List.setIfInBounds_toArray, List.set_cons_zero, List.set_cons_succ]
        refine wpAnyH_take (i := 12) (oi := ({ dst := some 152, op := Op.call { callee := Callee.builtin Builtin.len, args := #[Operand.tmp 151], argTypes := #[25] }, type := 3, pos := "outright.go:84", after := #[{ on := 11, ground := Ground.data }, { on := 10, ground := Ground.guard }], guard := some (10, false) } : Oper)) (v := .int .i64 0) rfl (by kernel_rfl) (by kernel_rfl) (by kernel_rfl) (fun _ _ _ h => h) (Or.inl ⟨by kernel_rfl, by intro w hw; go_simp⟩) hS0 ?_
        try simp only [Act.put, List.setIfInBounds_toArray, List.set_cons_zero, List.set_cons_succ]
        refine wpAnyH_take (i := 13) (oi := ({ dst := some 153, op := Op.binOp BinOp.gtr 3 (Operand.tmp 152) (Operand.const (Value.int IntKind.i64 0)) 3, type := 4, pos := "outright.go:84", after := #[{ on := 12, ground := Ground.data }, { on := 10, ground := Ground.guard }], guard := some (10, false) } : Oper)) (v := .bool false) rfl (by kernel_rfl) (by kernel_rfl) (by kernel_rfl) (fun _ _ _ h => h) (Or.inl ⟨by kernel_rfl, by intro w hw; have h1 := hpos; go_simp⟩) hS0 ?_
        try simp only [Act.put, List.setIfInBounds_toArray, List.set_cons_zero, List.set_cons_succ]
        refine wpAnyH_take (i := 14) (oi := ({ dst := some 154, op := Op.move (Operand.tmp 153), type := 4, pos := "outright.go:84", after := #[{ on := 13, ground := Ground.data }, { on := 10, ground := Ground.chain }, { on := 10, ground := Ground.guard }], guard := some (10, false) } : Oper)) (v := .bool false) rfl (by kernel_rfl) (by kernel_rfl) (by kernel_rfl) (fun _ _ _ h => h) (Or.inl ⟨by kernel_rfl, by intro w hw; go_simp⟩) hS0 ?_
        try simp only [Act.put, List.setIfInBounds_toArray, List.set_cons_zero, List.set_cons_succ]
        refine wpAnyH_take (i := 15) (oi := ({ dst := some 155, op := Op.move (Operand.tmp 2), type := 3, pos := "outright.go:84", after := #[{ on := 14, ground := Ground.guard }], guard := some (14, true) } : Oper)) (v := undef) rfl (by kernel_rfl) (by kernel_rfl) (by kernel_rfl) (fun _ _ _ h => h) (Or.inr ⟨by rfl, rfl⟩) hS0 ?_
        try simp only [Act.put, List.setIfInBounds_toArray, List.set_cons_zero, List.set_cons_succ]
        refine wpAnyH_take (i := 16) (oi := ({ dst := some 156, op := Op.convert 3 22 (Operand.tmp 155), type := 22, pos := "outright.go:84", after := #[{ on := 15, ground := Ground.data }, { on := 14, ground := Ground.guard }], guard := some (14, true) } : Oper)) (v := undef) rfl (by kernel_rfl) (by kernel_rfl) (by kernel_rfl) (fun _ _ _ h => h) (Or.inr ⟨by rfl, rfl⟩) hS0 ?_
        try simp only [Act.put, List.setIfInBounds_toArray, List.set_cons_zero, List.set_cons_succ]
        refine wpAnyH_take (i := 17) (oi := ({ dst := some 157, op := Op.move (Operand.tmp 7), type := 3, pos := "outright.go:84", after := #[{ on := 14, ground := Ground.guard }], guard := some (14, true) } : Oper)) (v := undef) rfl (by kernel_rfl) (by kernel_rfl) (by kernel_rfl) (fun _ _ _ h => h) (Or.inr ⟨by rfl, rfl⟩) hS0 ?_
        try simp only [Act.put, List.setIfInBounds_toArray, List.set_cons_zero, List.set_cons_succ]
        refine wpAnyH_take (i := 18) (oi := ({ dst := some 158, op := Op.convert 3 22 (Operand.tmp 157), type := 22, pos := "outright.go:84", after := #[{ on := 17, ground := Ground.data }, { on := 14, ground := Ground.guard }], guard := some (14, true) } : Oper)) (v := undef) rfl (by kernel_rfl) (by kernel_rfl) (by kernel_rfl) (fun _ _ _ h => h) (Or.inr ⟨by rfl, rfl⟩) hS0 ?_
        try simp only [Act.put, List.setIfInBounds_toArray, List.set_cons_zero, List.set_cons_succ]
        refine wpAnyH_take (i := 19) (oi := ({ dst := some 159, op := Op.load 24 (Operand.tmp 14), type := 24, pos := "outright.go:84", after := #[{ on := 14, ground := Ground.guard }], guard := some (14, true) } : Oper)) (v := undef) rfl (by kernel_rfl) (by kernel_rfl) (by kernel_rfl) (fun _ _ _ h => h) (Or.inr ⟨by rfl, rfl⟩) hS0 ?_
        try simp only [Act.put, List.setIfInBounds_toArray, List.set_cons_zero, List.set_cons_succ]
        refine wpAnyH_take (i := 20) (oi := ({ dst := some 160, op := Op.load 24 (Operand.tmp 8), type := 24, pos := "outright.go:84", after := #[{ on := 14, ground := Ground.guard }], guard := some (14, true) } : Oper)) (v := undef) rfl (by kernel_rfl) (by kernel_rfl) (by kernel_rfl) (fun _ _ _ h => h) (Or.inr ⟨by rfl, rfl⟩) hS0 ?_
        try simp only [Act.put, List.setIfInBounds_toArray, List.set_cons_zero, List.set_cons_succ]
        refine wpAnyH_take (i := 21) (oi := ({ dst := some 161, op := Op.move (Operand.tmp 13), type := 25, pos := "outright.go:84", after := #[{ on := 14, ground := Ground.guard }], guard := some (14, true) } : Oper)) (v := undef) rfl (by kernel_rfl) (by kernel_rfl) (by kernel_rfl) (fun _ _ _ h => h) (Or.inr ⟨by rfl, rfl⟩) hS0 ?_
        try simp only [Act.put, List.setIfInBounds_toArray, List.set_cons_zero, List.set_cons_succ]
        refine wpAnyH_take (i := 22) (oi := ({ dst := some 162, op := Op.slice 25 (Operand.tmp 161) (some (Operand.const (Value.int IntKind.i64 1))) none none, type := 25, pos := "outright.go:84", after := #[{ on := 21, ground := Ground.data }, { on := 14, ground := Ground.guard }], guard := some (14, true) } : Oper)) (v := undef) rfl (by kernel_rfl) (by kernel_rfl) (by kernel_rfl) (fun _ _ _ h => h) (Or.inr ⟨by rfl, rfl⟩) hS0 ?_
        try simp only [Act.put, List.setIfInBounds_toArray, List.set_cons_zero, List.set_cons_succ]
        refine wpAnyH_ready (rs := [23]) (by kernel_rfl) (by simp) ?_
        refine (AllReadyH.cons (o := ({ dst := some 163, op := Op.call { callee := Callee.value (Operand.func 17), args := #[Operand.tmp 156, Operand.tmp 158, Operand.tmp 159, Operand.tmp 160, Operand.tmp 162], argTypes := #[22, 22, 24, 24, 25] }, type := 31, pos := "outright.go:84", after := #[{ on := 16, ground := Ground.data }, { on := 18, ground := Ground.data }, { on := 19, ground := Ground.data }, { on := 20, ground := Ground.data }, { on := 22, ground := Ground.data }, { on := 14, ground := Ground.chain }, { on := 14, ground := Ground.guard }], guard := some (14, true) } : Oper)) rfl (fun K' hK => ?_) AllReadyH.nil)
        go_simp
        refine hK.out _ _ (nb) (fun hS0 => ?_)
        try simp only [Act.put, List.setIfInBounds_toArray, List.set_cons_zero, List.set_cons_succ]
        refine wpAnyH_ready (rs := [24]) (by kernel_rfl) (by simp) ?_
        refine (AllReadyH.cons (o := ({ dst := some 164, op := Op.call { callee := Callee.value (Operand.func 21), args := #[Operand.tmp 163, Operand.const (Value.int IntKind.i64 10)], argTypes := #[31, 3] }, type := 4, pos := "outright.go:84", after := #[{ on := 23, ground := Ground.data }, { on := 23, ground := Ground.chain }, { on := 14, ground := Ground.guard }], guard := some (14, true) } : Oper)) rfl (fun K' hK => ?_) AllReadyH.nil)
        go_simp
        refine hK.out _ _ (nb) (fun hS0 => ?_)
        try simp only [Act.put, List.setIfInBounds_toArray, List.set_cons_zero, List.set_cons_succ]
        refine wpAnyH_take (i := 25) (oi := ({ dst := some 165, op := Op.unOp UnOp.not 4 (Operand.tmp 164), type := 4, pos := "outright.go:84", after := #[{ on := 24, ground := Ground.data }, { on := 14, ground := Ground.guard }], guard := some (14, true) } : Oper)) (v := undef) rfl (by kernel_rfl) (by kernel_rfl) (by kernel_rfl) (fun _ _ _ h => h) (Or.inr ⟨by rfl, rfl⟩) hS0 ?_
        try simp only [Act.put, List.setIfInBounds_toArray, List.set_cons_zero, List.set_cons_succ]
        refine wpAnyH_take (i := 26) (oi := ({ dst := some 166, op := Op.pick (Operand.tmp 154) (Operand.tmp 165) (Operand.const (Value.bool false)), type := 4, pos := "outright.go:84", after := #[{ on := 14, ground := Ground.data }, { on := 25, ground := Ground.data }, { on := 10, ground := Ground.guard }], guard := some (10, false) } : Oper)) (v := .bool false) rfl (by kernel_rfl) (by kernel_rfl) (by kernel_rfl) (fun _ _ _ h => h) (Or.inl ⟨by kernel_rfl, by intro w hw; go_simp⟩) hS0 ?_
        try simp only [Act.put, List.setIfInBounds_toArray, List.set_cons_zero, List.set_cons_succ]
        refine wpAnyH_take (i := 27) (oi := ({ dst := some 167, op := Op.pick (Operand.tmp 150) (Operand.const (Value.bool true)) (Operand.tmp 166), type := 4, pos := "outright.go:84", after := #[{ on := 10, ground := Ground.data }, { on := 26, ground := Ground.data }], guard := none } : Oper)) (v := .bool false) rfl (by kernel_rfl) (by kernel_rfl) (by kernel_rfl) (fun _ _ _ h => h) (Or.inl ⟨by rfl, by intro w hw; go_simp⟩) hS0 ?_
        try simp only [Act.put, List.setIfInBounds_toArray, List.set_cons_zero, List.set_cons_succ]
        refine wpAnyH_done (by kernel_rfl) ?_ _
        go_wp2_with fail
        go_meet
        exact ⟨rfl, nb⟩
      · obtain ⟨qm, rfl⟩ : ∃ q, qn = q + 1 := ⟨qn - 1, by omega⟩
        have hpos : (0 : Int) < (qm : Int) + 1 := by omega
        obtain ⟨f, R, hfR⟩ : ∃ f R, ql = f :: R := by
          cases ql with
          | nil => have := HQN.out; simp at this
          | cons f R => exact ⟨f, R, rfl⟩
        subst hfR
        have hRm : R.length = qm := by have := HQN.out; simp at this; omega
        obtain ⟨qg, rfl⟩ : ∃ pg, qa = some ⟨pg, 0, none⟩ := by
          rcases HCASQ.out with ⟨_, h2, _⟩ | h2
          · omega
          · exact h2
        have hpc : qm + 1 ≤ qc := HQCAP.out
        obtain ⟨qta, had2, hcut⟩ := cut_one qg 0 qm qc hpc
        have QC2 : Hid (∀ V, Nw wd V → Calls Tryd.prog 17 #[.int .u64 ((o : Int) + 1), .int .u64 (n : Int), .agg (hbs od), .agg (hbs rt), .slice qta qm (qc - 1)] V fun e w' => e = .returned (sen (a 9)) ∧ Nw V w') := fun V hV => by
          have h9 := hss_tailV (c' := qc - 1) (HSQ.out V (M9d.out.tr hV)) hRm had2
          rw [← hRm] at h9
          have := QC.out V (o + 1) R qta (qc - 1) HMN.out.2.2.1 (fun y hy => HQ32.out y (by simp [hy])) (by omega) (by omega) (Nd.out.tr hV) h9
          rw [cc_len HIO.out HQL.out (by simp), hRm, HEO.out] at this
          exact this
        clear had2 hpc hRm
        have nb : Nw wd wd.drew := (Fr.refl _ _).drew
        refine wp_region_held_drew (S := (fun V => Nw wd V)) (by kernel_rfl) (nb) ?_
        intro hS0
        refine wpAnyH_take (i := 0) (oi := ({ dst := some 140, op := Op.move (Operand.tmp 2), type := 3, pos := "outright.go:84", after := #[], guard := none } : Oper)) (v := .int .i64 ((o : Int) + 1)) rfl (by kernel_rfl) (by kernel_rfl) (by kernel_rfl) (fun _ _ _ h => h) (Or.inl ⟨by rfl, by intro w hw; go_simp⟩) hS0 ?_
        try simp only [Act.put, List.setIfInBounds_toArray, List.set_cons_zero, List.set_cons_succ]
        refine wpAnyH_take (i := 1) (oi := ({ dst := some 141, op := Op.convert 3 22 (Operand.tmp 140), type := 22, pos := "outright.go:84", after := #[{ on := 0, ground := Ground.data }], guard := none } : Oper)) (v := .int .u64 ((o : Int) + 1)) rfl (by kernel_rfl) (by kernel_rfl) (by kernel_rfl) (fun _ _ _ h => h) (Or.inl ⟨by kernel_rfl, by intro w hw; go_simp⟩) hS0 ?_
        try simp only [Act.put, List.setIfInBounds_toArray, List.set_cons_zero, List.set_cons_succ]
        refine wpAnyH_take (i := 2) (oi := ({ dst := some 142, op := Op.move (Operand.tmp 7), type := 3, pos := "outright.go:84", after := #[], guard := none } : Oper)) (v := .int .i64 (n : Int)) rfl (by kernel_rfl) (by kernel_rfl) (by kernel_rfl) (fun _ _ _ h => h) (Or.inl ⟨by rfl, by intro w hw; go_simp⟩) hS0 ?_
        try simp only [Act.put, List.setIfInBounds_toArray, List.set_cons_zero, List.set_cons_succ]
        refine wpAnyH_take (i := 3) (oi := ({ dst := some 143, op := Op.convert 3 22 (Operand.tmp 142), type := 22, pos := "outright.go:84", after := #[{ on := 2, ground := Ground.data }], guard := none } : Oper)) (v := .int .u64 (n : Int)) rfl (by kernel_rfl) (by kernel_rfl) (by kernel_rfl) (fun _ _ _ h => h) (Or.inl ⟨by kernel_rfl, by intro w hw; go_simp⟩) hS0 ?_
        try simp only [Act.put, List.setIfInBounds_toArray, List.set_cons_zero, List.set_cons_succ]
        refine wpAnyH_take (i := 4) (oi := ({ dst := some 144, op := Op.load 24 (Operand.tmp 14), type := 24, pos := "outright.go:84", after := #[], guard := none } : Oper)) (v := .agg (hbs od)) rfl (by kernel_rfl) (by kernel_rfl) (by kernel_rfl) (fun _ _ _ h => h) (yields_loadV (by kernel_rfl) (.tmp 14) 24 32 rfl Tryd.isAgg24 Tryd.sizeOf24 ob (0) rfl (hbs od) hods (fun w hw => HODwd.out w hw)) hS0 ?_
        try simp only [Act.put, List.setIfInBounds_toArray, List.set_cons_zero, List.set_cons_succ]
        refine wpAnyH_take (i := 5) (oi := ({ dst := some 145, op := Op.load 24 (Operand.tmp 8), type := 24, pos := "outright.go:84", after := #[], guard := none } : Oper)) (v := .agg (hbs rt)) rfl (by kernel_rfl) (by kernel_rfl) (by kernel_rfl) (fun _ _ _ h => h) (yields_loadV (by kernel_rfl) (.tmp 8) 24 32 rfl Tryd.isAgg24 Tryd.sizeOf24 rb (0) rfl (hbs rt) hrts (fun w hw => HRTwd.out w hw)) hS0 ?_
        try simp only [Act.put, List.setIfInBounds_toArray, List.set_cons_zero, List.set_cons_succ]
        refine wpAnyH_take (i := 6) (oi := ({ dst := some 146, op := Op.move (Operand.tmp 12), type := 25, pos := "outright.go:84", after := #[], guard := none } : Oper)) (v := .slice ka (qm + 1 + 1) kc) rfl (by kernel_rfl) (by kernel_rfl) (by kernel_rfl) (fun _ _ _ h => h) (Or.inl ⟨by rfl, by intro w hw; go_simp⟩) hS0 ?_
        try simp only [Act.put, List.setIfInBounds_toArray, List.set_cons_zero, List.set_cons_succ]
        refine wpAnyH_ready (rs := [7]) (by kernel_rfl) (by simp) ?_
        refine (AllReadyH.cons (o := ({ dst := some 147, op := Op.call { callee := Callee.value (Operand.func 17), args := #[Operand.tmp 141, Operand.tmp 143, Operand.tmp 144, Operand.tmp 145, Operand.tmp 146], argTypes := #[22, 22, 24, 24, 25] }, type := 31, pos := "outright.go:84", after := #[{ on := 1, ground := Ground.data }, { on := 3, ground := Ground.data }, { on := 4, ground := Ground.data }, { on := 5, ground := Ground.data }, { on := 6, ground := Ground.data }], guard := none } : Oper)) rfl (fun K' hK => ?_) AllReadyH.nil)
        go_simp
        go_wp2_with (go_at_call 17; refine (QC1.out _ nb).mono ?_; rintro ex w101 ⟨rfl, nw101⟩)
        have nb := nb.tr nw101
        refine hK.out _ _ (nb) (fun hS0 => ?_)
        try simp only [Act.put, List.setIfInBounds_toArray, List.set_cons_zero, List.set_cons_succ]
        refine wpAnyH_ready (rs := [8]) (by kernel_rfl) (by simp) ?_
        refine (AllReadyH.cons (o := ({ dst := some 148, op := Op.call { callee := Callee.value (Operand.func 21), args := #[Operand.tmp 147, Operand.const (Value.int IntKind.i64 10)], argTypes := #[31, 3] }, type := 4, pos := "outright.go:84", after := #[{ on := 7, ground := Ground.data }, { on := 7, ground := Ground.chain }], guard := none } : Oper)) rfl (fun K' hK => ?_) AllReadyH.nil)
        go_simp
        go_wp2_with (go_at_call 21; refine (QIS10.out _ (Nd.out.tr nb)).mono ?_; rintro ex w102 ⟨rfl, nw102⟩)
        have nb := nb.tr nw102
        refine hK.out _ _ (nb) (fun hS0 => ?_)
        try simp only [Act.put, List.setIfInBounds_toArray, List.set_cons_zero, List.set_cons_succ]
        refine wpAnyH_take (i := 9) (oi := ({ dst := some 149, op := Op.unOp UnOp.not 4 (Operand.tmp 148), type := 4, pos := "outright.go:84", after := #[{ on := 8, ground := Ground.data }], guard := none } : Oper)) (v := .bool false) rfl (by kernel_rfl) (by kernel_rfl) (by kernel_rfl) (fun _ _ _ h => h) (Or.inl ⟨by kernel_rfl, by intro w hw; go_simp⟩) hS0 ?_
        try simp only [Act.put, List.setIfInBounds_toArray, List.set_cons_zero, List.set_cons_succ]
        refine wpAnyH_take (i := 10) (oi := ({ dst := some 150, op := Op.move (Operand.tmp 149), type := 4, pos := "outright.go:84", after := #[{ on := 9, ground := Ground.data }, { on := 8, ground := Ground.chain }], guard := none } : Oper)) (v := .bool false) rfl (by kernel_rfl) (by kernel_rfl) (by kernel_rfl) (fun _ _ _ h => h) (Or.inl ⟨by rfl, by intro w hw; go_simp⟩) hS0 ?_
        try simp only [Act.put, List.setIfInBounds_toArray, List.set_cons_zero, List.set_cons_succ]
        refine wpAnyH_take (i := 11) (oi := ({ dst := some 151, op := Op.move (Operand.tmp 13), type := 25, pos := "outright.go:84", after := #[{ on := 10, ground := Ground.guard }], guard := some (10, false) } : Oper)) (v := .slice (some ⟨qg, 0, none⟩) (qm + 1) qc) rfl (by kernel_rfl) (by kernel_rfl) (by kernel_rfl) (fun _ _ _ h => h) (Or.inl ⟨by kernel_rfl, by intro w hw; go_simp⟩) hS0 ?_
        try simp only [Act.put, List.setIfInBounds_toArray, List.set_cons_zero, List.set_cons_succ]
        refine wpAnyH_take (i := 12) (oi := ({ dst := some 152, op := Op.call { callee := Callee.builtin Builtin.len, args := #[Operand.tmp 151], argTypes := #[25] }, type := 3, pos := "outright.go:84", after := #[{ on := 11, ground := Ground.data }, { on := 10, ground := Ground.guard }], guard := some (10, false) } : Oper)) (v := .int .i64 ((qm : Int) + 1)) rfl (by kernel_rfl) (by kernel_rfl) (by kernel_rfl) (fun _ _ _ h => h) (Or.inl ⟨by kernel_rfl, by intro w hw; go_simp⟩) hS0 ?_
        try simp only [Act.put, List.setIfInBounds_toArray, List.set_cons_zero, List.set_cons_succ]
        refine wpAnyH_take (i := 13) (oi := ({ dst := some 153, op := Op.binOp BinOp.gtr 3 (Operand.tmp 152) (Operand.const (Value.int IntKind.i64 0)) 3, type := 4, pos := "outright.go:84", after := #[{ on := 12, ground := Ground.data }, { on := 10, ground := Ground.guard }], guard := some (10, false) } : Oper)) (v := .bool true) rfl (by kernel_rfl) (by kernel_rfl) (by kernel_rfl) (fun _ _ _ h => h) (Or.inl ⟨by kernel_rfl, by intro w hw; have h1 := hpos; go_simp⟩) hS0 ?_
        try simp only [Act.put, List.setIfInBounds_toArray, List.set_cons_zero, List.set_cons_succ]
        refine wpAnyH_take (i := 14) (oi := ({ dst := some 154, op := Op.move (Operand.tmp 153), type := 4, pos := "outright.go:84", after := #[{ on := 13, ground := Ground.data }, { on := 10, ground := Ground.chain }, { on := 10, ground := Ground.guard }], guard := some (10, false) } : Oper)) (v := .bool true) rfl (by kernel_rfl) (by kernel_rfl) (by kernel_rfl) (fun _ _ _ h => h) (Or.inl ⟨by kernel_rfl, by intro w hw; go_simp⟩) hS0 ?_
        try simp only [Act.put, List.setIfInBounds_toArray, List.set_cons_zero, List.set_cons_succ]
        refine wpAnyH_take (i := 15) (oi := ({ dst := some 155, op := Op.move (Operand.tmp 2), type := 3, pos := "outright.go:84", after := #[{ on := 14, ground := Ground.guard }], guard := some (14, true) } : Oper)) (v := .int .i64 ((o : Int) + 1)) rfl (by kernel_rfl) (by kernel_rfl) (by kernel_rfl) (fun _ _ _ h => h) (Or.inl ⟨by kernel_rfl, by intro w hw; go_simp⟩) hS0 ?_
        try simp only [Act.put, List.setIfInBounds_toArray, List.set_cons_zero, List.set_cons_succ]
        refine wpAnyH_take (i := 16) (oi := ({ dst := some 156, op := Op.convert 3 22 (Operand.tmp 155), type := 22, pos := "outright.go:84", after := #[{ on := 15, ground := Ground.data }, { on := 14, ground := Ground.guard }], guard := some (14, true) } : Oper)) (v := .int .u64 ((o : Int) + 1)) rfl (by kernel_rfl) (by kernel_rfl) (by kernel_rfl) (fun _ _ _ h => h) (Or.inl ⟨by kernel_rfl, by intro w hw; go_simp⟩) hS0 ?_
        try simp only [Act.put, List.setIfInBounds_toArray, List.set_cons_zero, List.set_cons_succ]
        refine wpAnyH_take (i := 17) (oi := ({ dst := some 157, op := Op.move (Operand.tmp 7), type := 3, pos := "outright.go:84", after := #[{ on := 14, ground := Ground.guard }], guard := some (14, true) } : Oper)) (v := .int .i64 (n : Int)) rfl (by kernel_rfl) (by kernel_rfl) (by kernel_rfl) (fun _ _ _ h => h) (Or.inl ⟨by kernel_rfl, by intro w hw; go_simp⟩) hS0 ?_
        try simp only [Act.put, List.setIfInBounds_toArray, List.set_cons_zero, List.set_cons_succ]
        refine wpAnyH_take (i := 18) (oi := ({ dst := some 158, op := Op.convert 3 22 (Operand.tmp 157), type := 22, pos := "outright.go:84", after := #[{ on := 17, ground := Ground.data }, { on := 14, ground := Ground.guard }], guard := some (14, true) } : Oper)) (v := .int .u64 (n : Int)) rfl (by kernel_rfl) (by kernel_rfl) (by kernel_rfl) (fun _ _ _ h => h) (Or.inl ⟨by kernel_rfl, by intro w hw; go_simp⟩) hS0 ?_
        try simp only [Act.put, List.setIfInBounds_toArray, List.set_cons_zero, List.set_cons_succ]
        refine wpAnyH_take (i := 19) (oi := ({ dst := some 159, op := Op.load 24 (Operand.tmp 14), type := 24, pos := "outright.go:84", after := #[{ on := 14, ground := Ground.guard }], guard := some (14, true) } : Oper)) (v := .agg (hbs od)) rfl (by kernel_rfl) (by kernel_rfl) (by kernel_rfl) (fun _ _ _ h => h) (yields_loadV (by kernel_rfl) (.tmp 14) 24 32 rfl Tryd.isAgg24 Tryd.sizeOf24 ob (0) rfl (hbs od) hods (fun w hw => HODwd.out w hw)) hS0 ?_
        try simp only [Act.put, List.setIfInBounds_toArray, List.set_cons_zero, List.set_cons_succ]
        refine wpAnyH_take (i := 20) (oi := ({ dst := some 160, op := Op.load 24 (Operand.tmp 8), type := 24, pos := "outright.go:84", after := #[{ on := 14, ground := Ground.guard }], guard := some (14, true) } : Oper)) (v := .agg (hbs rt)) rfl (by kernel_rfl) (by kernel_rfl) (by kernel_rfl) (fun _ _ _ h => h) (yields_loadV (by kernel_rfl) (.tmp 8) 24 32 rfl Tryd.isAgg24 Tryd.sizeOf24 rb (0) rfl (hbs rt) hrts (fun w hw => HRTwd.out w hw)) hS0 ?_
        try simp only [Act.put, List.setIfInBounds_toArray, List.set_cons_zero, List.set_cons_succ]
        refine wpAnyH_take (i := 21) (oi := ({ dst := some 161, op := Op.move (Operand.tmp 13), type := 25, pos := "outright.go:84", after := #[{ on := 14, ground := Ground.guard }], guard := some (14, true) } : Oper)) (v := .slice (some ⟨qg, 0, none⟩) (qm + 1) qc) rfl (by kernel_rfl) (by kernel_rfl) (by kernel_rfl) (fun _ _ _ h => h) (Or.inl ⟨by kernel_rfl, by intro w hw; go_simp⟩) hS0 ?_
        try simp only [Act.put, List.setIfInBounds_toArray, List.set_cons_zero, List.set_cons_succ]
        refine wpAnyH_take (i := 22) (oi := ({ dst := some 162, op := Op.slice 25 (Operand.tmp 161) (some (Operand.const (Value.int IntKind.i64 1))) none none, type := 25, pos := "outright.go:84", after := #[{ on := 21, ground := Ground.data }, { on := 14, ground := Ground.guard }], guard := some (14, true) } : Oper)) (v := .slice qta qm (qc - 1)) rfl (by kernel_rfl) (by kernel_rfl) (by kernel_rfl) (fun _ _ _ h => h) (Or.inl ⟨by kernel_rfl, by intro w hw; have := hcut w; go_simp⟩) hS0 ?_
        try simp only [Act.put, List.setIfInBounds_toArray, List.set_cons_zero, List.set_cons_succ]
        refine wpAnyH_ready (rs := [23]) (by kernel_rfl) (by simp) ?_
        refine (AllReadyH.cons (o := ({ dst := some 163, op := Op.call { callee := Callee.value (Operand.func 17), args := #[Operand.tmp 156, Operand.tmp 158, Operand.tmp 159, Operand.tmp 160, Operand.tmp 162], argTypes := #[22, 22, 24, 24, 25] }, type := 31, pos := "outright.go:84", after := #[{ on := 16, ground := Ground.data }, { on := 18, ground := Ground.data }, { on := 19, ground := Ground.data }, { on := 20, ground := Ground.data }, { on := 22, ground := Ground.data }, { on := 14, ground := Ground.chain }, { on := 14, ground := Ground.guard }], guard := some (14, true) } : Oper)) rfl (fun K' hK => ?_) AllReadyH.nil)
        go_simp
        go_wp2_with (go_at_call 17; refine (QC2.out _ nb).mono ?_; rintro ex w103 ⟨rfl, nw103⟩)
        have nb := nb.tr nw103
        refine hK.out _ _ (nb) (fun hS0 => ?_)
        try simp only [Act.put, List.setIfInBounds_toArray, List.set_cons_zero, List.set_cons_succ]
        refine wpAnyH_ready (rs := [24]) (by kernel_rfl) (by simp) ?_
        refine (AllReadyH.cons (o := ({ dst := some 164, op := Op.call { callee := Callee.value (Operand.func 21), args := #[Operand.tmp 163, Operand.const (Value.int IntKind.i64 10)], argTypes := #[31, 3] }, type := 4, pos := "outright.go:84", after := #[{ on := 23, ground := Ground.data }, { on := 23, ground := Ground.chain }, { on := 14, ground := Ground.guard }], guard := some (14, true) } : Oper)) rfl (fun K' hK => ?_) AllReadyH.nil)
        go_simp
        go_wp2_with (go_at_call 21; refine (QIS10.out _ (Nd.out.tr nb)).mono ?_; rintro ex w104 ⟨rfl, nw104⟩)
        have nb := nb.tr nw104
        refine hK.out _ _ (nb) (fun hS0 => ?_)
        try simp only [Act.put, List.setIfInBounds_toArray, List.set_cons_zero, List.set_cons_succ]
        refine wpAnyH_take (i := 25) (oi := ({ dst := some 165, op := Op.unOp UnOp.not 4 (Operand.tmp 164), type := 4, pos := "outright.go:84", after := #[{ on := 24, ground := Ground.data }, { on := 14, ground := Ground.guard }], guard := some (14, true) } : Oper)) (v := .bool false) rfl (by kernel_rfl) (by kernel_rfl) (by kernel_rfl) (fun _ _ _ h => h) (Or.inl ⟨by kernel_rfl, by intro w hw; go_simp⟩) hS0 ?_
        try simp only [Act.put, List.setIfInBounds_toArray, List.set_cons_zero, List.set_cons_succ]
        refine wpAnyH_take (i := 26) (oi := ({ dst := some 166, op := Op.pick (Operand.tmp 154) (Operand.tmp 165) (Operand.const (Value.bool false)), type := 4, pos := "outright.go:84", after := #[{ on := 14, ground := Ground.data }, { on := 25, ground := Ground.data }, { on := 10, ground := Ground.guard }], guard := some (10, false) } : Oper)) (v := .bool false) rfl (by kernel_rfl) (by kernel_rfl) (by kernel_rfl) (fun _ _ _ h => h) (Or.inl ⟨by kernel_rfl, by intro w hw; go_simp⟩) hS0 ?_
        try simp only [Act.put, List.setIfInBounds_toArray, List.set_cons_zero, List.set_cons_succ]
        refine wpAnyH_take (i := 27) (oi := ({ dst := some 167, op := Op.pick (Operand.tmp 150) (Operand.const (Value.bool true)) (Operand.tmp 166), type := 4, pos := "outright.go:84", after := #[{ on := 10, ground := Ground.data }, { on := 26, ground := Ground.data }], guard := none } : Oper)) (v := .bool false) rfl (by kernel_rfl) (by kernel_rfl) (by kernel_rfl) (fun _ _ _ h => h) (Or.inl ⟨by rfl, by intro w hw; go_simp⟩) hS0 ?_
        try simp only [Act.put, List.setIfInBounds_toArray, List.set_cons_zero, List.set_cons_succ]
        refine wpAnyH_done (by kernel_rfl) ?_ _
        go_wp2_with fail
        go_meet
        exact ⟨rfl, nb⟩
    case rest =>
    obtain ⟨rfl, nm⟩ := hcut
    obtain ⟨we, hwe⟩ : ∃ x, x = wc := ⟨_, rfl⟩
    rw [← hwe] at nm ⊢
    have Ne : Hid (Nw w we) := Nd.out.tr nm
    have Me : Hid (Nw w3 we) := Md.out.tr nm
    have M9e : Hid (Nw w9 we) := M9d.out.tr nm
    have HRTwe : Hid (∀ V, Nw we V → ∀ j, j < 32 → V.cell? ⟨rb, 0 + j, none⟩ = (hbs rt)[j]?) := fun V hV => HRTw3.out V (Me.out.tr hV)
    have HODwe : Hid (∀ V, Nw we V → ∀ j, j < 32 → V.cell? ⟨ob, 0 + j, none⟩ = (hbs od)[j]?) := fun V hV => HODwd.out V (nm.tr hV)
    have HLVwe : Hid (∀ V, Nw we V → ∀ j, j < 32 → V.cell? ⟨lg, lo + m * 32 + j, none⟩ = (hbs x)[j]?) := fun V hV => HLV.out V (Ne.out.tr hV)
    have QI5 : Hid (∀ V, Nw we V → Calls Tryd.prog 14 #[.int .u64 (n : Int), .int .u64 (n : Int), .agg (hbs x), .slice pa pn pc, .agg (hbs rt)] V fun e w' => e = .returned (sen (a 4)) ∧ Nw V w') := fun V hV => by
      have := QI.out V n pl pa pc HMN.out.2.1 HP32.out (by have := HP8.out; omega) (Ne.out.tr hV) (by rw [← HPN.out]; exact HSP.out V (Me.out.tr hV))
      rw [show icA n n x pl rt = 5 by unfold icA; rw [rtA_range (.inr (Nat.le_refl _))]; rfl, ← HPN.out] at this
      exact this
    have QC5 : Hid (∀ V, Nw we V → Calls Tryd.prog 17 #[.int .u64 ((n : Int) + 1), .int .u64 (n : Int), .agg (hbs od), .agg (hbs rt), .slice qa qn qc] V fun e w' => e = .returned (sen (a 4)) ∧ Nw V w') := fun V hV => by
      have := QC.out V (n + 1) ql qa qc HMN.out.2.2.2 HQ32.out (by have := HQ9.out; omega) (by rw [← HQN.out]; exact HQCAP.out) (Ne.out.tr hV) (by rw [← HQN.out]; exact HSQ.out V (M9e.out.tr hV))
      rw [ccA_range (.inr (.inr (by omega))), ← HQN.out, show ((n + 1 : Nat) : Int) = (n : Int) + 1 by omega] at this
      exact this
    clear hwe nm
    go_upto_region 21 with fail
    have nb : Nw we we.drew := (Fr.refl _ _).drew
    refine wp_region_held_drew (S := (fun V => Nw we V)) (by kernel_rfl) (nb) ?_
    intro hS0
    refine wpAnyH_take (i := 0) (oi := ({ dst := some 168, op := Op.move (Operand.tmp 7), type := 3, pos := "outright.go:87", after := #[], guard := none } : Oper)) (v := .int .i64 (n : Int)) rfl (by kernel_rfl) (by kernel_rfl) (by kernel_rfl) (fun _ _ _ h => h) (Or.inl ⟨by rfl, by intro w hw; go_simp⟩) hS0 ?_
    try simp only [Act.put, List.setIfInBounds_toArray, List.set_cons_zero, List.set_cons_succ]
    refine wpAnyH_take (i := 1) (oi := ({ dst := some 169, op := Op.convert 3 22 (Operand.tmp 168), type := 22, pos := "outright.go:87", after := #[{ on := 0, ground := Ground.data }], guard := none } : Oper)) (v := .int .u64 (n : Int)) rfl (by kernel_rfl) (by kernel_rfl) (by kernel_rfl) (fun _ _ _ h => h) (Or.inl ⟨by kernel_rfl, by intro w hw; go_simp⟩) hS0 ?_
    try simp only [Act.put, List.setIfInBounds_toArray, List.set_cons_zero, List.set_cons_succ]
    refine wpAnyH_take (i := 2) (oi := ({ dst := some 170, op := Op.move (Operand.tmp 7), type := 3, pos := "outright.go:87", after := #[], guard := none } : Oper)) (v := .int .i64 (n : Int)) rfl (by kernel_rfl) (by kernel_rfl) (by kernel_rfl) (fun _ _ _ h => h) (Or.inl ⟨by rfl, by intro w hw; go_simp⟩) hS0 ?_
    try simp only [Act.put, List.setIfInBounds_toArray, List.set_cons_zero, List.set_cons_succ]
    refine wpAnyH_take (i := 3) (oi := ({ dst := some 171, op := Op.convert 3 22 (Operand.tmp 170), type := 22, pos := "outright.go:87", after := #[{ on := 2, ground := Ground.data }], guard := none } : Oper)) (v := .int .u64 (n : Int)) rfl (by kernel_rfl) (by kernel_rfl) (by kernel_rfl) (fun _ _ _ h => h) (Or.inl ⟨by kernel_rfl, by intro w hw; go_simp⟩) hS0 ?_
    try simp only [Act.put, List.setIfInBounds_toArray, List.set_cons_zero, List.set_cons_succ]
    refine wpAnyH_take (i := 4) (oi := ({ dst := some 172, op := Op.move (Operand.tmp 0), type := 25, pos := "outright.go:87", after := #[], guard := none } : Oper)) (v := .slice (some ⟨lg, lo, none⟩) n cap) rfl (by kernel_rfl) (by kernel_rfl) (by kernel_rfl) (fun _ _ _ h => h) (Or.inl ⟨by rfl, by intro w hw; go_simp⟩) hS0 ?_
    try simp only [Act.put, List.setIfInBounds_toArray, List.set_cons_zero, List.set_cons_succ]
    refine wpAnyH_take (i := 5) (oi := ({ dst := some 173, op := Op.move (Operand.tmp 1), type := 3, pos := "outright.go:87", after := #[], guard := none } : Oper)) (v := .int .i64 (m : Int)) rfl (by kernel_rfl) (by kernel_rfl) (by kernel_rfl) (fun _ _ _ h => h) (Or.inl ⟨by rfl, by intro w hw; go_simp⟩) hS0 ?_
    try simp only [Act.put, List.setIfInBounds_toArray, List.set_cons_zero, List.set_cons_succ]
    refine wpAnyH_take (i := 6) (oi := ({ dst := some 174, op := Op.indexAddr 25 (Operand.tmp 172) (Operand.tmp 173), type := 0, pos := "outright.go:87", after := #[{ on := 4, ground := Ground.data }, { on := 5, ground := Ground.data }], guard := none } : Oper)) (v := .pointer (some ⟨lg, lo + m * 32, none⟩)) rfl (by kernel_rfl) (by kernel_rfl) (by kernel_rfl) (fun _ _ _ h => h) (Or.inl ⟨by kernel_rfl, by intro w hw; go_simp; try (intro hq; omega)⟩) hS0 ?_
    try simp only [Act.put, List.setIfInBounds_toArray, List.set_cons_zero, List.set_cons_succ]
    refine wpAnyH_take (i := 7) (oi := ({ dst := some 175, op := Op.load 24 (Operand.tmp 174), type := 24, pos := "outright.go:87", after := #[{ on := 6, ground := Ground.data }], guard := none } : Oper)) (v := .agg (hbs x)) rfl (by kernel_rfl) (by kernel_rfl) (by kernel_rfl) (fun _ _ _ h => h) (yields_loadV (by kernel_rfl) (.tmp 174) 24 32 rfl Tryd.isAgg24 Tryd.sizeOf24 lg (lo + m * 32) rfl (hbs x) hxs (fun w hw => HLVwe.out w hw)) hS0 ?_
    try simp only [Act.put, List.setIfInBounds_toArray, List.set_cons_zero, List.set_cons_succ]
    refine wpAnyH_take (i := 8) (oi := ({ dst := some 176, op := Op.move (Operand.tmp 9), type := 25, pos := "outright.go:87", after := #[], guard := none } : Oper)) (v := .slice pa pn pc) rfl (by kernel_rfl) (by kernel_rfl) (by kernel_rfl) (fun _ _ _ h => h) (Or.inl ⟨by rfl, by intro w hw; go_simp⟩) hS0 ?_
    try simp only [Act.put, List.setIfInBounds_toArray, List.set_cons_zero, List.set_cons_succ]
    refine wpAnyH_take (i := 9) (oi := ({ dst := some 177, op := Op.load 24 (Operand.tmp 8), type := 24, pos := "outright.go:87", after := #[], guard := none } : Oper)) (v := .agg (hbs rt)) rfl (by kernel_rfl) (by kernel_rfl) (by kernel_rfl) (fun _ _ _ h => h) (yields_loadV (by kernel_rfl) (.tmp 8) 24 32 rfl Tryd.isAgg24 Tryd.sizeOf24 rb (0) rfl (hbs rt) hrts (fun w hw => HRTwe.out w hw)) hS0 ?_
    try simp only [Act.put, List.setIfInBounds_toArray, List.set_cons_zero, List.set_cons_succ]
    refine wpAnyH_ready (rs := [10]) (by kernel_rfl) (by simp) ?_
    refine (AllReadyH.cons (o := ({ dst := some 178, op := Op.call { callee := Callee.value (Operand.func 14), args := #[Operand.tmp 169, Operand.tmp 171, Operand.tmp 175, Operand.tmp 176, Operand.tmp 177], argTypes := #[22, 22, 24, 25, 24] }, type := 31, pos := "outright.go:87", after := #[{ on := 1, ground := Ground.data }, { on := 3, ground := Ground.data }, { on := 7, ground := Ground.data }, { on := 8, ground := Ground.data }, { on := 9, ground := Ground.data }], guard := none } : Oper)) rfl (fun K' hK => ?_) AllReadyH.nil)
    go_simp
    go_wp2_with (go_at_call 14; refine (QI5.out _ nb).mono ?_; rintro ex w101 ⟨rfl, nw101⟩)
    have nb := nb.tr nw101
    refine hK.out _ _ (nb) (fun hS0 => ?_)
    try simp only [Act.put, List.setIfInBounds_toArray, List.set_cons_zero, List.set_cons_succ]
    refine wpAnyH_ready (rs := [11]) (by kernel_rfl) (by simp) ?_
    refine (AllReadyH.cons (o := ({ dst := some 179, op := Op.call { callee := Callee.value (Operand.func 21), args := #[Operand.tmp 178, Operand.const (Value.int IntKind.i64 5)], argTypes := #[31, 3] }, type := 4, pos := "outright.go:87", after := #[{ on := 10, ground := Ground.data }, { on := 10, ground := Ground.chain }], guard := none } : Oper)) rfl (fun K' hK => ?_) AllReadyH.nil)
    go_simp
    go_wp2_with (go_at_call 21; refine (QIS5.out _ (Ne.out.tr nb)).mono ?_; rintro ex w102 ⟨rfl, nw102⟩)
    have nb := nb.tr nw102
    refine hK.out _ _ (nb) (fun hS0 => ?_)
    try simp only [Act.put, List.setIfInBounds_toArray, List.set_cons_zero, List.set_cons_succ]
    refine wpAnyH_take (i := 12) (oi := ({ dst := some 180, op := Op.move (Operand.tmp 179), type := 4, pos := "outright.go:87", after := #[{ on := 11, ground := Ground.data }, { on := 11, ground := Ground.chain }], guard := none } : Oper)) (v := .bool true) rfl (by kernel_rfl) (by kernel_rfl) (by kernel_rfl) (fun _ _ _ h => h) (Or.inl ⟨by rfl, by intro w hw; go_simp⟩) hS0 ?_
    try simp only [Act.put, List.setIfInBounds_toArray, List.set_cons_zero, List.set_cons_succ]
    refine wpAnyH_take (i := 13) (oi := ({ dst := some 181, op := Op.move (Operand.tmp 7), type := 3, pos := "outright.go:87", after := #[{ on := 12, ground := Ground.guard }], guard := some (12, true) } : Oper)) (v := .int .i64 (n : Int)) rfl (by kernel_rfl) (by kernel_rfl) (by kernel_rfl) (fun _ _ _ h => h) (Or.inl ⟨by kernel_rfl, by intro w hw; go_simp⟩) hS0 ?_
    try simp only [Act.put, List.setIfInBounds_toArray, List.set_cons_zero, List.set_cons_succ]
    refine wpAnyH_take (i := 14) (oi := ({ dst := some 182, op := Op.convert 3 22 (Operand.tmp 181), type := 22, pos := "outright.go:87", after := #[{ on := 13, ground := Ground.data }, { on := 12, ground := Ground.guard }], guard := some (12, true) } : Oper)) (v := .int .u64 (n : Int)) rfl (by kernel_rfl) (by kernel_rfl) (by kernel_rfl) (fun _ _ _ h => h) (Or.inl ⟨by kernel_rfl, by intro w hw; go_simp⟩) hS0 ?_
    try simp only [Act.put, List.setIfInBounds_toArray, List.set_cons_zero, List.set_cons_succ]
    refine wpAnyH_take (i := 15) (oi := ({ dst := some 183, op := Op.binOp BinOp.add 22 (Operand.tmp 182) (Operand.const (Value.int IntKind.u64 1)) 22, type := 22, pos := "outright.go:87", after := #[{ on := 14, ground := Ground.data }, { on := 12, ground := Ground.guard }], guard := some (12, true) } : Oper)) (v := .int .u64 ((n : Int) + 1)) rfl (by kernel_rfl) (by kernel_rfl) (by kernel_rfl) (fun _ _ _ h => h) (Or.inl ⟨by kernel_rfl, by intro w hw; go_simp⟩) hS0 ?_
    try simp only [Act.put, List.setIfInBounds_toArray, List.set_cons_zero, List.set_cons_succ]
    refine wpAnyH_take (i := 16) (oi := ({ dst := some 184, op := Op.move (Operand.tmp 7), type := 3, pos := "outright.go:87", after := #[{ on := 12, ground := Ground.guard }], guard := some (12, true) } : Oper)) (v := .int .i64 (n : Int)) rfl (by kernel_rfl) (by kernel_rfl) (by kernel_rfl) (fun _ _ _ h => h) (Or.inl ⟨by kernel_rfl, by intro w hw; go_simp⟩) hS0 ?_
    try simp only [Act.put, List.setIfInBounds_toArray, List.set_cons_zero, List.set_cons_succ]
    refine wpAnyH_take (i := 17) (oi := ({ dst := some 185, op := Op.convert 3 22 (Operand.tmp 184), type := 22, pos := "outright.go:87", after := #[{ on := 16, ground := Ground.data }, { on := 12, ground := Ground.guard }], guard := some (12, true) } : Oper)) (v := .int .u64 (n : Int)) rfl (by kernel_rfl) (by kernel_rfl) (by kernel_rfl) (fun _ _ _ h => h) (Or.inl ⟨by kernel_rfl, by intro w hw; go_simp⟩) hS0 ?_
    try simp only [Act.put, List.setIfInBounds_toArray, List.set_cons_zero, List.set_cons_succ]
    refine wpAnyH_take (i := 18) (oi := ({ dst := some 186, op := Op.load 24 (Operand.tmp 14), type := 24, pos := "outright.go:87", after := #[{ on := 12, ground := Ground.guard }], guard := some (12, true) } : Oper)) (v := .agg (hbs od)) rfl (by kernel_rfl) (by kernel_rfl) (by kernel_rfl) (fun _ _ _ h => h) (yields_loadV (by kernel_rfl) (.tmp 14) 24 32 rfl Tryd.isAgg24 Tryd.sizeOf24 ob (0) rfl (hbs od) hods (fun w hw => HODwe.out w hw)) hS0 ?_
    try simp only [Act.put, List.setIfInBounds_toArray, List.set_cons_zero, List.set_cons_succ]
    refine wpAnyH_take (i := 19) (oi := ({ dst := some 187, op := Op.load 24 (Operand.tmp 8), type := 24, pos := "outright.go:87", after := #[{ on := 12, ground := Ground.guard }], guard := some (12, true) } : Oper)) (v := .agg (hbs rt)) rfl (by kernel_rfl) (by kernel_rfl) (by kernel_rfl) (fun _ _ _ h => h) (yields_loadV (by kernel_rfl) (.tmp 8) 24 32 rfl Tryd.isAgg24 Tryd.sizeOf24 rb (0) rfl (hbs rt) hrts (fun w hw => HRTwe.out w hw)) hS0 ?_
    try simp only [Act.put, List.setIfInBounds_toArray, List.set_cons_zero, List.set_cons_succ]
    refine wpAnyH_take (i := 20) (oi := ({ dst := some 188, op := Op.move (Operand.tmp 13), type := 25, pos := "outright.go:87", after := #[{ on := 12, ground := Ground.guard }], guard := some (12, true) } : Oper)) (v := .slice qa qn qc) rfl (by kernel_rfl) (by kernel_rfl) (by kernel_rfl) (fun _ _ _ h => h) (Or.inl ⟨by kernel_rfl, by intro w hw; go_simp⟩) hS0 ?_
    try simp only [Act.put, List.setIfInBounds_toArray, List.set_cons_zero, List.set_cons_succ]
    refine wpAnyH_ready (rs := [21]) (by kernel_rfl) (by simp) ?_
    refine (AllReadyH.cons (o := ({ dst := some 189, op := Op.call { callee := Callee.value (Operand.func 17), args := #[Operand.tmp 183, Operand.tmp 185, Operand.tmp 186, Operand.tmp 187, Operand.tmp 188], argTypes := #[22, 22, 24, 24, 25] }, type := 31, pos := "outright.go:87", after := #[{ on := 15, ground := Ground.data }, { on := 17, ground := Ground.data }, { on := 18, ground := Ground.data }, { on := 19, ground := Ground.data }, { on := 20, ground := Ground.data }, { on := 12, ground := Ground.chain }, { on := 12, ground := Ground.guard }], guard := some (12, true) } : Oper)) rfl (fun K' hK => ?_) AllReadyH.nil)
    go_simp
    go_wp2_with (go_at_call 17; refine (QC5.out _ nb).mono ?_; rintro ex w103 ⟨rfl, nw103⟩)
    have nb := nb.tr nw103
    refine hK.out _ _ (nb) (fun hS0 => ?_)
    try simp only [Act.put, List.setIfInBounds_toArray, List.set_cons_zero, List.set_cons_succ]
    refine wpAnyH_ready (rs := [22]) (by kernel_rfl) (by simp) ?_
    refine (AllReadyH.cons (o := ({ dst := some 190, op := Op.call { callee := Callee.value (Operand.func 21), args := #[Operand.tmp 189, Operand.const (Value.int IntKind.i64 5)], argTypes := #[31, 3] }, type := 4, pos := "outright.go:87", after := #[{ on := 21, ground := Ground.data }, { on := 21, ground := Ground.chain }, { on := 12, ground := Ground.guard }], guard := some (12, true) } : Oper)) rfl (fun K' hK => ?_) AllReadyH.nil)
    go_simp
    go_wp2_with (go_at_call 21; refine (QIS5.out _ (Ne.out.tr nb)).mono ?_; rintro ex w104 ⟨rfl, nw104⟩)
    have nb := nb.tr nw104
    refine hK.out _ _ (nb) (fun hS0 => ?_)
    try simp only [Act.put, List.setIfInBounds_toArray, List.set_cons_zero, List.set_cons_succ]
    refine wpAnyH_take (i := 23) (oi := ({ dst := some 191, op := Op.pick (Operand.tmp 180) (Operand.tmp 190) (Operand.const (Value.bool false)), type := 4, pos := "outright.go:87", after := #[{ on := 12, ground := Ground.data }, { on := 22, ground := Ground.data }], guard := none } : Oper)) (v := .bool true) rfl (by kernel_rfl) (by kernel_rfl) (by kernel_rfl) (fun _ _ _ h => h) (Or.inl ⟨by rfl, by intro w hw; go_simp⟩) hS0 ?_
    try simp only [Act.put, List.setIfInBounds_toArray, List.set_cons_zero, List.set_cons_succ]
    refine wpAnyH_take (i := 24) (oi := ({ dst := some 192, op := Op.move (Operand.tmp 191), type := 4, pos := "outright.go:87", after := #[{ on := 23, ground := Ground.data }, { on := 22, ground := Ground.chain }], guard := none } : Oper)) (v := .bool true) rfl (by kernel_rfl) (by kernel_rfl) (by kernel_rfl) (fun _ _ _ h => h) (Or.inl ⟨by rfl, by intro w hw; go_simp⟩) hS0 ?_
    try simp only [Act.put, List.setIfInBounds_toArray, List.set_cons_zero, List.set_cons_succ]
    refine wpAnyH_ready (rs := [25]) (by kernel_rfl) (by simp) ?_
    refine (AllReadyH.cons (o := ({ dst := some 193, op := Op.call { callee := Callee.value (Operand.func 16), args := #[], argTypes := #[] }, type := 4, pos := "outright.go:87", after := #[{ on := 24, ground := Ground.chain }, { on := 24, ground := Ground.guard }], guard := some (24, true) } : Oper)) rfl (fun K' hK => ?_) AllReadyH.nil)
    go_simp
    go_wp2_with (go_at_call 16; refine (QAL.out _ (Ne.out.tr nb)).mono ?_; rintro ex w105 ⟨rfl, nw105⟩)
    have nb := nb.tr nw105
    refine hK.out _ _ (nb) (fun hS0 => ?_)
    try simp only [Act.put, List.setIfInBounds_toArray, List.set_cons_zero, List.set_cons_succ]
    refine wpAnyH_take (i := 26) (oi := ({ dst := some 194, op := Op.pick (Operand.tmp 192) (Operand.tmp 193) (Operand.const (Value.bool false)), type := 4, pos := "outright.go:87", after := #[{ on := 24, ground := Ground.data }, { on := 25, ground := Ground.data }], guard := none } : Oper)) (v := .bool true) rfl (by kernel_rfl) (by kernel_rfl) (by kernel_rfl) (fun _ _ _ h => h) (Or.inl ⟨by rfl, by intro w hw; go_simp⟩) hS0 ?_
    try simp only [Act.put, List.setIfInBounds_toArray, List.set_cons_zero, List.set_cons_succ]
    refine wpAnyH_ready (rs := [27]) (by kernel_rfl) (by simp) ?_
    refine (AllReadyH.cons (o := ({ dst := some 6, op := Op.assign (Operand.tmp 194), type := 4, pos := "outright.go:87", after := #[{ on := 26, ground := Ground.data }, { on := 25, ground := Ground.chain }, { on := 0, ground := Ground.phase }, { on := 1, ground := Ground.phase }, { on := 2, ground := Ground.phase }, { on := 3, ground := Ground.phase }, { on := 4, ground := Ground.phase }, { on := 5, ground := Ground.phase }, { on := 6, ground := Ground.phase }, { on := 7, ground := Ground.phase }, { on := 8, ground := Ground.phase }, { on := 9, ground := Ground.phase }, { on := 10, ground := Ground.phase }, { on := 11, ground := Ground.phase }, { on := 12, ground := Ground.phase }, { on := 13, ground := Ground.phase }, { on := 14, ground := Ground.phase }, { on := 15, ground := Ground.phase }, { on := 16, ground := Ground.phase }, { on := 17, ground := Ground.phase }, { on := 18, ground := Ground.phase }, { on := 19, ground := Ground.phase }, { on := 20, ground := Ground.phase }, { on := 21, ground := Ground.phase }, { on := 22, ground := Ground.phase }, { on := 23, ground := Ground.phase }, { on := 24, ground := Ground.phase }, { on := 25, ground := Ground.phase }, { on := 26, ground := Ground.phase }], guard := none } : Oper)) rfl (fun K' hK => ?_) AllReadyH.nil)
    go_simp
    refine hK.out _ _ (nb) (fun hS0 => ?_)
    try simp only [Act.put, List.setIfInBounds_toArray, List.set_cons_zero, List.set_cons_succ]
    refine wpAnyH_done (by kernel_rfl) ?_ _
    go_wp2_with fail
    go_ret
    exact ⟨rfl, Ne.out.tr nb⟩
end Go.Proofs.YtaeocbdphfkflaaDoor
