/- EmitFolds: the walk. -/
import Derived.Test.YtlcheobdkkiffaaDoorZ1
import Derived.Test.YtlcheobdkkiffaaDoorZ2
import Derived.Test.YtlcheobdkkiffaaDoorTh
import Derived.Test.YtlcheobdkkiffaaDoorTz
namespace Go.Proofs.YtlcheobdkkiffaaDoor
open Go.RowKit Go.Shelf
set_option linter.unusedVariables false
set_option linter.unusedSimpArgs false
theorem yieldsL {P : Program} {ops : Array Oper} {S : World → Prop} {o : Oper} {a : Act} (hw0 : Region.wanted o (yielded ops a.tmps) = true) (x : Operand) (t : TypeId) (n : Nat) (ho : o.op = .load t x) (hagg : ∀ W : World, (isAgg t).run P W = .ok true W) (hsz : ∀ W : World, (sizeOf t).run P W = .ok n W) (g off : Nat) (hx : a.eval x = .pointer (some ⟨g, off, none⟩)) (V : Array Value) (hV : V.size = n)
    (hc : ∀ W, S W → ∀ j, j < n → W.cell? ⟨g, off + j, none⟩ = V[j]?) : YieldsIf P ops S o (.agg V) a := by
  refine .inl ⟨hw0, fun w hw => ?_⟩
  have hl : (loadCells ⟨g, off, none⟩ n).run P w = .ok V w := by
    have := run_loadCells_list (P := P) w ⟨g, off, none⟩ V.toList (fun j v hv => by
      have hj : j < n := by
        have := (List.getElem?_eq_some_iff.1 hv).1
        simpa [hV] using this
      rw [addO, hc w hw j hj]
      simpa using hv)
    simpa [hV] using this
  unfold execOp
  simp only [ho, hx, Instr.loadAt, sure, loadVar, Sem.run_bind, Sem.run_pure, hagg, hsz, hl, Result.andThen_ok, if_true]
theorem yieldsNe {ops : Array Oper} {S : World → Prop} {o : Oper} {a : Act} (hw0 : Region.wanted o (yielded ops a.tmps) = true) (x y : Operand) (ho : o.op = .binOp .neq 32 x y 32) (A : List UInt8) (hA : A.length = 32) (hx : a.eval x = .agg (hbs A)) (hy : a.eval y = .agg (hbs A)) : YieldsIf Tryd.prog ops S o (.bool false) a := by
  refine .inl ⟨hw0, fun w hw => ?_⟩
  unfold execOp
  simp only [ho, hx, hy, run_eqGuard, hbs_neq A hA w, Sem.run_bind, Sem.run_pure, Result.andThen_ok]
theorem fde_32 : ∀ (l : List (List UInt8)), (∀ x ∈ l, x.length = 32) → (fde l).length = 32
  | [], _ => Sh_len _
  | [x], h => h x (by simp)
  | x :: y :: r, h => ndh_len _ _
set_option maxRecDepth 100000 in
set_option maxHeartbeats 2000000 in
theorem folds10_any (n : Nat) (hn : n < 18446744073709551616) (L : List (List UInt8)) (h32 : ∀ x ∈ L, x.length = 32) (ad : Option Addr) (c : Nat) (hll : L.length < 4611686018427387904) (x : List UInt8) (hx : x.length = 32) (w : World) (hs : Hss w (.slice ad L.length c) L) (hL : Laid w) (hT : TabAt w) {B : Nat} {a : Nat → Addr} (hS : Sent B w a) :
    Calls Tryd.prog 5 #[.int .u64 (n : Int), .slice ad L.length c, .agg (hbs x)] w fun e w' => e = .returned (.bool true) ∧ Nw w w' := by
  have HL : Hid (Laid w) := hL
  have HT : Hid (TabAt w) := hT
  have SS : Hid (∀ V, Nw w V → Sent B V a) := fun V nV => hS.fr nV (fun _ _ f => f)
  have hxs : (hbs x).size = 32 := by rw [hbs_size, hx]
  have X32 : Hid (x.length = 32) := hx
  have H32 : Hid (∀ y ∈ L, y.length = 32) := h32
  have QI : Hid (∀ (j : Nat) (m : Int), j < 16 → m = ((j + 1 : Nat) : Int) → ∀ V, Nw w V → Calls Tryd.prog 24 #[sen (a j), .int .i64 m] V fun e w' => e = .returned (.bool true) ∧ Nw V w') := fun j m hj hm V nV => by subst hm; exact isj (SS.out w (nwr w)) j hj V nV
  have QA : Hid (∀ V, Nw w V → Calls Tryd.prog 7 #[] V fun e w' => e = .returned (.bool true) ∧ Nw V w') := fun V nV => alive10_any V (HL.out.nw nV) (HT.out.nw nV) (SS.out V nV)
  obtain ⟨m, hm⟩ : ∃ m, m = L.length := ⟨_, rfl⟩
  have HM : Hid (L.length = m) := hm.symm
  have HS : Hid (Hss w (.slice ad m c) L) := by rw [hm]; exact hs
  rw [← hm] at hll ⊢
  clear hL hT hS hx h32 hs hm
  go_enter Tryd.func5, Tryd.ntmps5
  go_wp2_with fail
  obtain ⟨w0, hw0⟩ : ∃ q, w.alloc (.cells (hbs x) 32) = q := ⟨_, rfl⟩
  have n0 : Nw w w0 := by rw [← hw0]; exact nwa w _
  have b0 : w0.heap[w.heap.size]? = some (.cells (hbs x) 32) := by rw [← hw0]; exact heap_new _ _
  rw [hw0]
  obtain ⟨xb, hxb⟩ : ∃ q, q = w.heap.size := ⟨_, rfl⟩
  rw [← hxb] at b0 ⊢
  refine (QA.out _ n0).mono ?_
  rintro e w1 ⟨rfl, n1⟩
  have N1 : Hid (Nw w w1) := n0.tr n1
  have BX : Hid (w1.heap[xb]? = some (.cells (hbs x) 32)) := (n1.block _ (heap_lt b0) (fun f => f)).trans b0
  clear hw0 hxb n0 n1 b0
  have q2 := beyond_any (some ⟨w1.heap.size, 0, none⟩) 1 [m] _ (one_int w1 m) (getD_one m hll) (by simp)
  go_wp2_with fail
  refine q2.mono ?_
  rintro e2 w2 ⟨rfl, hw2⟩
  have N2 : Hid (Nw w1 w2) := by show Nw w1 w2; rw [hw2]; exact nwa w1 _
  have BX2 : Hid (w2.heap[xb]? = some (.cells (hbs x) 32)) := (N2.out.block _ (heap_lt BX.out) (fun f => f)).trans BX.out
  have N2w : Hid (Nw w w2) := N1.out.tr N2.out
  clear hw2 q2 BX
  by_cases hbig : 1048576 < m
  · have hd : decide (1048576 < [m].sum) = true := decide_eq_true (by simpa using hbig)
    rw [hd]
    go_wp2_with fail
    refine (QA.out _ N2w.out).mono ?_
    rintro e3 w3 ⟨rfl, n3⟩
    go_wp2
    go_ret
    exact ⟨rfl, N2w.out.tr n3⟩
  have hd : decide (1048576 < [m].sum) = false := decide_eq_false (by simpa using hbig)
  rw [hd]
  have q3 := twinh_any ad c L H32.out w2 (by rw [HM.out]; exact HS.out.nw H32.out N2w.out) (by rw [HM.out]; omega)
  rw [HM.out] at q3
  go_wp2_with fail
  refine q3.mono ?_
  rintro e w3 ⟨rfl, o3, n3⟩
  obtain ⟨g, hg⟩ : ∃ q, q = w2.heap.size := ⟨_, rfl⟩
  rw [← hg] at o3 ⊢
  have O3 : Hid (w3.ownsRow g 32 32 (.slice (some ⟨g, 0, none⟩) m (m + 1)) m (hsc L)) := by
    have q := own_headT (m := m) (by intro y hy; rcases List.mem_append.1 hy with hy | hy; exact H32.out y hy; rw [List.mem_singleton.1 hy]; exact HB.mk_len _) o3 (by omega)
    rwa [List.take_append_of_le_length (by rw [HM.out]; exact Nat.le_refl _), List.take_of_length_le (by rw [HM.out]; exact Nat.le_refl _)] at q
  have N3 : Hid (Nw w w3) := N2w.out.tr n3
  have BX3 : Hid (w3.heap[xb]? = some (.cells (hbs x) 32)) := (n3.block _ (heap_lt BX2.out) (fun f => f)).trans BX2.out
  clear q3 o3 n3 hd hg BX2
  have hc := count_any n
  by_cases hr : 9223372036854775808 < n
  · have hri : (9223372036854775808 : Int) < (n : Int) := by omega
    go_wp2_with fail
    refine (eload_range n hr _ (SS.out _ N3.out)).mono ?_
    rintro e w4 ⟨rfl, n4⟩
    have N4 : Hid (Nw w w4) := N3.out.tr n4
    clear n4
    go_wp2_with fail
    refine (QI.out 4 5 (by decide) rfl _ N4.out).mono ?_
    rintro e w5 ⟨rfl, n5⟩
    go_wp2
    go_ret
    exact ⟨rfl, N4.out.tr n5⟩
  have hri : decide ((9223372036854775808 : Int) < (n : Int)) = false := decide_eq_false (by omega)
  have HR : Hid (n ≤ 9223372036854775808) := by show n ≤ _; omega
  have HBG : Hid (m ≤ 1048576) := by show m ≤ _; omega
  clear hr hbig
  have hpe := exs_pop n hn
  obtain ⟨pl, hpl⟩ : ∃ q, q = (exs n).length := ⟨_, rfl⟩
  rw [← hpl] at hpe
  have HPE : Hid (Lib.popAux 64 n = pl) := hpe
  have QC : Hid (∀ V : World, Calls Tryd.prog 12 #[.int .u64 (n : Int)] V fun e w' => e = .returned (.int .i64 (pl : Int)) ∧ w' = V) := fun V => by rw [hpl]; exact count_any n V hn
  clear hc hpl hpe
  by_cases hme : m = pl
  case neg =>
    have hmi : ((m : Int) != (pl : Int)) = true := by simp only [bne_iff_ne, ne_eq]; omega
    have hne : m ≠ Lib.popAux 64 n := by rw [HPE.out]; exact hme
    have q4 := eload_arg n HR.out (some ⟨g, 0, none⟩) m (m + 1) hne (SS.out _ N3.out)
    clear hne hme
    go_wp2_with fail
    refine q4.mono ?_
    clear q4
    rintro e w4 ⟨rfl, n4⟩
    have N4 : Hid (Nw w w4) := N3.out.tr n4
    clear n4
    go_wp2_with fail
    refine (QC.out _).mono ?_
    rintro e w4' ⟨rfl, rfl⟩
    go_wp2_with fail
    refine (QI.out 1 2 (by decide) rfl _ N4.out).mono ?_
    rintro e w5 ⟨rfl, n5⟩
    go_wp2
    go_ret
    exact ⟨rfl, N4.out.tr n5⟩
  have hmi2 : ((m : Int) != (pl : Int)) = false := by rw [hme]; simp
  have HME : Hid (m = pl) := hme
  clear hme
  have q4 := eload_any n HR.out _ L (by rw [HM.out]; exact O3.out) H32.out (by rw [HM.out, HPE.out]; exact HME.out) (HL.out.nw N3.out)
  go_wp2_with fail
  refine q4.mono ?_
  rintro e w4 ⟨b, v, rfl, hb1, hB, n4⟩
  have N4 : Hid (Nw w w4) := N3.out.tr n4
  have BX4 : Hid (w4.heap[xb]? = some (.cells (hbs x) 32)) := (n4.block _ (heap_lt BX3.out) (fun f => f)).trans BX3.out
  have HBd : Hid (Bd w4 b w3.heap.size v n L) := hB
  clear q4 n4 hB BX3
  go_wp2_with fail
  refine (QC.out _).mono ?_
  rintro e w4' ⟨rfl, rfl⟩
  obtain ⟨E0, hE0⟩ : ∃ q, q = Sh [] := ⟨_, rfl⟩
  have E32 : Hid (E0.length = 32) := by rw [hE0]; exact Sh_len _
  have hEs : (hbs E0).size = 32 := by rw [hbs_size, E32.out]
  have HE0 : Hid (E0 = Sh []) := hE0
  have QE := empty_any w4' (HL.out.nw N4.out)
  rw [← hE0] at QE
  clear hE0
  go_wp2_with fail
  refine QE.mono ?_
  rintro e w5 ⟨rfl, n5⟩
  clear QE
  have N5 : Hid (Nw w4' w5) := n5
  clear n5
  go_wp2_with (refine wp_store_agg rfl (.tmp 9) (.tmp 54) 32 32 rfl Tryd.sizeOf32 w5.heap.size 0 rfl _ 32 (heap_new _ _) (hbs E0) rfl hEs (hbs_one _) (by decide) (hbs E0) (by simp) ?_; intro w6 j6 f6 zz; clear zz; have N6 : Hid (Nw w4' w6) := (N5.out.alloc _).trans f6 (fun k hk q => by have := N5.out.size; omega); have J6 : Hid (w6.heap[w5.heap.size]? = some (.cells (hbs E0) 32 (0, 0))) := j6; clear j6 f6)
  -- LOOP
  obtain ⟨wb, hwb⟩ : ∃ q, q = w5.heap.size := ⟨_, rfl⟩
  rw [← hwb] at J6 ⊢
  have HWB : Hid (w4'.heap.size ≤ wb) := by have := N5.out.size; rw [hwb]; exact this
  have HB6 : Hid (Bd w6 b w3.heap.size v n L) := HBd.out.nw N6.out
  have HV : Hid (b < w4'.heap.size ∧ ∀ q, v.ownBlock = some q → q < w4'.heap.size) := ⟨heap_lt HBd.out.blk, fun q hq => (HBd.out.own.lt q hq).2⟩
  have N6w : Hid (Nw w w6) := N4.out.tr N6.out
  have BX6 : Hid (w6.heap[xb]? = some (.cells (hbs x) 32)) := (N6.out.block _ (heap_lt BX4.out) (fun f => f)).trans BX4.out
  have XLT : Hid (xb < w4'.heap.size) := heap_lt BX4.out
  have E1 : Hid (fde (L.drop m) = E0) := by show fde (L.drop m) = E0; rw [List.drop_of_length_le (by rw [HM.out]; exact Nat.le_refl _), HE0.out]; rfl
  have hml : m ≤ 64 := by rw [HME.out, ← HPE.out]; exact popAux_le 64 n
  have HML : Hid (m ≤ 64) := hml
  clear hwb hmi2 hri hll BX4 HBd O3 hEs
  have DR : Hid (∀ k y, L[k]? = some y → L.drop k = y :: L.drop (k + 1)) := fun k y hy => by
    have hlt := (List.getElem?_eq_some_iff.1 hy).1
    rw [List.drop_eq_getElem_cons hlt, (List.getElem?_eq_some_iff.1 hy).2]
  have D32 : Hid (∀ k, (fde (L.drop k)).length = 32) := fun k => fde_32 _ (fun y hy => H32.out y (List.mem_of_mem_drop hy))
  go_loopw [10] (fun i wr => ∃ k : Nat, k ≤ m ∧ i = .int .i64 ((k : Int) - 1) ∧ wr.heap[wb]? = some (.cells (hbs (fde (L.drop k))) 32 (0, 0)) ∧ Fr (fun q => q = wb) w6 wr) (fun i _ => (intOf i + 1).toNat)
  case atStart => exact ⟨m, Nat.le_refl _, rfl, by rw [E1.out]; exact J6.out, Fr.refl _ _⟩
  case round =>
    obtain ⟨k, hk, rfl, hj, hf⟩ := hrel
    have HF : Hid (Fr (fun q => q = wb) w6 wr) := hf
    have HJ : Hid (wr.heap[wb]? = some (.cells (hbs (fde (L.drop k))) 32 (0, 0))) := hj
    have NWR : Hid (Nw w wr) := N6w.out.trans hf (fun q hq e => by have := HWB.out; have := N4.out.size; omega)
    clear hj hf
    cases k with
    | succ k =>
      obtain ⟨y, hy⟩ : ∃ y, L[k]? = some y := ⟨_, List.getElem?_eq_getElem (by rw [HM.out]; omega)⟩
      have HY : Hid (L[k]? = some y) := hy
      have Y32 : Hid (y.length = 32) := H32.out y (List.mem_of_getElem? hy)
      have hys : (hbs y).size = 32 := by rw [hbs_size, Y32.out]
      obtain ⟨p, off, rfl, hc⟩ := (HS.out.nw H32.out NWR.out).atT hy
      have HCW : Hid (∀ V, Nw w V → ∀ j, j < 32 → V.cell? ⟨p, off + k * 32 + j, none⟩ = (hbs y)[j]?) := fun V nV => by
        obtain ⟨p', off', e, h⟩ := (HS.out.nw H32.out nV).atT HY.out
        cases e
        exact h
      have HC : Hid (∀ j, j < 32 → wr.cell? ⟨p, off + k * 32 + j, none⟩ = (hbs y)[j]?) := hc
      have ek : (((k + 1 : Nat) : Int) - 1) = (k : Int) := by omega
      rw [ek]
      have hki : (k : Int) < (m : Int) := by omega
      have hkm : k < m := by omega
      have HKM : Hid (k < m) := hkm
      obtain ⟨F, hF⟩ : ∃ q, q = fde (L.drop (k + 1)) := ⟨_, rfl⟩
      rw [← hF] at HJ
      have F32 : Hid (F.length = 32) := by rw [hF]; exact D32.out _
      have hFs : (hbs F).size = 32 := by rw [hbs_size, F32.out]
      have HF0 : Hid (F = fde (L.drop (k + 1))) := hF
      clear hc hy hF hk
      by_cases hlast : k = m - 1
      · have hle : ((k : Int) == (m : Int) - 1) = true := by simp only [beq_iff_eq]; omega
        have e1 : fde (L.drop k) = y := by rw [DR.out k y HY.out, List.drop_of_length_le (i := k + 1) (by rw [HM.out]; omega)]; rfl
        have EF : Hid (fde (L.drop k) = y) := e1
        clear hlast e1
        go_wp2_with first
          | refine wpl_load rfl (.tmp 69) rfl p (off + k * 32) rfl y Y32.out HC.out ?_
          | (refine wp_store_agg rfl (.tmp 9) (.tmp 70) 32 32 rfl Tryd.sizeOf32 wb 0 rfl _ 32 HJ.out (hbs y) rfl hys (hbs_one _) (by rw [hFs]; decide) (hbs y) (by rw [dropA hFs]; simp) ?_; intro w8 j8 f8 z8; clear z8)
        exact ⟨⟨k, by have := HKM.out; omega, by go_num, by rw [EF.out]; exact j8, HF.out.trans f8 (fun _ _ q => q)⟩, by simp [intOf]⟩
      · have hle : ((k : Int) == (m : Int) - 1) = false := by simp only [beq_eq_false_iff_ne, ne_eq]; omega
        have e1 : fde (L.drop k) = ndh y F := by
          rw [DR.out k y HY.out, fde_cons _ _ (fun e => by have := congrArg List.length e; simp only [List.length_drop, HM.out, List.length_nil] at this; omega), HF0.out]
        obtain ⟨R, hR⟩ : ∃ R, R = ndh y F := ⟨_, rfl⟩
        have EF : Hid (fde (L.drop k) = R) := by rw [hR]; exact e1
        have R32 : Hid (R.length = 32) := by rw [hR]; exact ndh_len _ _
        have hRs : (hbs R).size = 32 := by rw [hbs_size, R32.out]
        have QN : Hid (∀ V, Nw wr V → Calls Tryd.prog 15 #[.agg (hbs y), .agg (hbs F)] V fun e w' => e = .returned (.agg (hbs R)) ∧ Nw V w') := fun V nV => by rw [hR]; exact node_any y F Y32.out F32.out V (HL.out.nw (NWR.out.tr nV))
        clear hlast e1 hR
        go_upto_region 16 with fail
        have nb : Nw wr wr.drew := (Fr.refl _ _).drew
        have hkp : Hid (∀ V, Fr (fun q => q = wb) wr V → ∀ j, j < 32 → V.cell? ⟨p, off + k * 32 + j, none⟩ = (hbs y)[j]?) := fun V hV => HCW.out V (NWR.out.trans hV (fun q hq e => by have := HWB.out; have := N4.out.size; omega))
        refine wp_region_held_drew (S := fun V => ∀ j, j < 32 → V.cell? ⟨p, off + k * 32 + j, none⟩ = (hbs y)[j]?) (by kernel_rfl) (hkp.out _ (nb.mono (fun _ _ f => f.elim))) ?_
        intro hS0
        refine wpAnyH_take (i := 0) (v := .slice (some ⟨p, off, none⟩) m c) rfl (by kernel_rfl) (by kernel_rfl) (by kernel_rfl) (fun _ _ _ h => h) (Or.inl ⟨by rfl, by intro w hw; go_simp⟩) hS0 ?_
        try simp only [Act.put, List.setIfInBounds_toArray, List.set_cons_zero, List.set_cons_succ]
        refine wpAnyH_take (i := 1) (v := .int .i64 (k : Int)) rfl (by kernel_rfl) (by kernel_rfl) (by kernel_rfl) (fun _ _ _ h => h) (Or.inl ⟨by rfl, by intro w hw; go_simp⟩) hS0 ?_
        try simp only [Act.put, List.setIfInBounds_toArray, List.set_cons_zero, List.set_cons_succ]
        refine wpAnyH_take (i := 2) (v := .pointer (some ⟨p, off + k * 32, none⟩)) rfl (by kernel_rfl) (by kernel_rfl) (by kernel_rfl) (fun _ _ _ h => h) (Or.inl ⟨by rfl, by intro w hw; go_simp⟩) hS0 ?_
        try simp only [Act.put, List.setIfInBounds_toArray, List.set_cons_zero, List.set_cons_succ]
        refine wpAnyH_take (i := 3) (oi := Oper.mk (some 74) _ _ _ _ _) (v := .agg (hbs y)) rfl (by kernel_rfl) (by kernel_rfl) (by kernel_rfl) (fun _ _ _ h => h) (yieldsL (by rfl) (.tmp 73) 32 32 rfl Tryd.isAgg32 Tryd.sizeOf32 p (off + k * 32) rfl (hbs y) hys (fun w hw => hw)) hS0 ?_
        try simp only [Act.put, List.setIfInBounds_toArray, List.set_cons_zero, List.set_cons_succ]
        refine wpAnyH_ready (rs := [4]) (by kernel_rfl) (by simp) ?_
        refine AllReadyH.cons rfl (fun K' hK => ?_) AllReadyH.nil
        refine step_load_at rfl (.tmp 9) 32 32 rfl Tryd.isAgg32 Tryd.sizeOf32 wb 0 (by kernel_rfl) (hbs F) hFs (hash_cells ((nb.block _ (heap_lt HJ.out) (fun f => f)).trans HJ.out)) ?_
        refine hK.out _ _ (hkp.out _ (nb.mono (fun _ _ f => f.elim))) (fun hS0 => ?_)
        try simp only [Act.put, List.setIfInBounds_toArray, List.set_cons_zero, List.set_cons_succ]
        refine wpAnyH_ready (rs := [5]) (by kernel_rfl) (by simp) ?_
        refine AllReadyH.cons rfl (fun K' hK => ?_) AllReadyH.nil
        go_simp
        go_wp2_with (go_at_call 15; refine (QN.out _ nb).mono ?_; rintro e2 w8 ⟨rfl, n8⟩)
        have nb8 : Nw wr w8 := nb.tr n8
        refine hK.out _ _ (hkp.out _ (nb8.mono (fun _ _ f => f.elim))) (fun hS0 => ?_)
        try simp only [Act.put, List.setIfInBounds_toArray, List.set_cons_zero, List.set_cons_succ]
        refine wpAnyH_ready (rs := [6]) (by kernel_rfl) (by simp) ?_
        refine AllReadyH.cons rfl (fun K' hK => ?_) AllReadyH.nil
        refine step_store_agg rfl (.tmp 9) (.tmp 76) 32 32 rfl Tryd.sizeOf32 wb 0 (by kernel_rfl) _ 32 ((nb8.block _ (heap_lt HJ.out) (fun f => f)).trans HJ.out) (hbs R) (by kernel_rfl) hRs (hbs_one _) (by rw [hFs]; decide) (hbs R) (by rw [dropA hFs]; simp) ?_
        intro w9 j9 f9 z9
        have f9b : Fr (fun q => q = wb) wr w9 := (nb8.mono (fun _ _ f => f.elim)).trans f9 (fun _ _ q => q)
        refine hK.out _ _ (hkp.out _ f9b) (fun hS0 => ?_)
        try simp only [Act.put, List.setIfInBounds_toArray, List.set_cons_zero, List.set_cons_succ]
        refine wpAnyH_done (by kernel_rfl) ?_ _
        go_wp2_with fail
        exact ⟨⟨k, by have := HKM.out; omega, by go_num, by rw [EF.out]; exact j9, HF.out.trans f9b (fun _ _ q => q)⟩, by simp [intOf]⟩
    | zero =>
      have e0 : (((0 : Nat) : Int) - 1) = -1 := by simp
      rw [e0]
      obtain ⟨w7, hw7⟩ : ∃ q, q = wr := ⟨_, rfl⟩
      have B7 : Hid (Bd wr b w3.heap.size v n L) := HB6.out.fr HF.out (fun q => by have := HV.out.1; have := HWB.out; omega) (fun q hq e => by have := HV.out.2 q hq; have := HWB.out; omega)
      obtain ⟨F, hF⟩ : ∃ q, q = fde L := ⟨_, rfl⟩
      have J7 : Hid (wr.heap[wb]? = some (.cells (hbs F) 32 (0, 0))) := by rw [hF]; exact HJ.out
      have F32 : Hid (F.length = 32) := by rw [hF]; exact D32.out 0
      have hFs : (hbs F).size = 32 := by rw [hbs_size, F32.out]
      have BX7 : Hid (wr.heap[xb]? = some (.cells (hbs x) 32)) := (HF.out.block _ (heap_lt BX6.out) (fun q => by have := XLT.out; have := HWB.out; omega)).trans BX6.out
      have QR : Hid (∀ V, Nw wr V → Calls Tryd.prog 20 #[.pointer (some ⟨b, 0, none⟩)] V fun e w' => e = .returned (.agg (hbs F)) ∧ Nw V w') := fun V nV => by
        rw [hF]
        have hb := B7.out.nw nV
        by_cases hnil : L = []
        · rw [hnil] at hb ⊢
          exact eroot_empty hb (HL.out.nw (NWR.out.tr nV))
        · exact eroot_some hb hnil (by rw [HM.out]; have := HML.out; omega) (HL.out.nw (NWR.out.tr nV))
      have QS : Hid (∀ V, Nw wr V → Calls Tryd.prog 16 #[.pointer (some ⟨b, 0, none⟩)] V fun e w' => e = .returned (.int .u64 (n : Int)) ∧ Nw V w') := fun V nV => (esize_any (B7.out.nw nV)).mono (by rintro e w' ⟨rfl, rfl⟩; exact ⟨rfl, nwr _⟩)
      have QH : Hid (∀ V, Nw wr V → Calls Tryd.prog 19 #[.pointer (some ⟨b, 0, none⟩)] V fun e w' => ∃ v', e = .returned v' ∧ w'.ownsRow V.heap.size 32 32 v' m (hsc L) ∧ Nw V w') := fun V nV => by
        have q := ehashes_any (B7.out.nw nV) (by rw [HM.out]; have := HML.out; omega)
        rw [HM.out] at q
        exact q
      have QSM : Hid (∀ V ha hc, Nw wr V → V.ownsRow 0 32 32 (.slice ha m hc) m (hsc L) → Calls Tryd.prog 22 #[.slice ha m hc, .slice ad m c] V fun e w' => e = .returned (.bool true) ∧ Nw V w') := fun V ha hc nV ho => sameh_yes _ _ L H32.out V (Hss.of H32.out (by rw [HM.out]; exact ho)) (HS.out.nw H32.out (NWR.out.tr nV)) (by rw [HM.out]; have := HML.out; omega)
      clear hF hw7 e0
      go_upto_region 17 with fail
      have nb : Nw wr wr.drew := (Fr.refl _ _).drew
      refine wp_region_held_drew (S := fun V => Nw wr V) (by kernel_rfl) (nb) ?_
      intro hS0
      refine wpAnyH_take (i := 0) (oi := ({ dst := some 77, op := Op.move (Operand.tmp 7), type := 24, pos := "outright.go:131", after := #[], guard := none } : Oper)) (v := .pointer (some ⟨b, 0, none⟩)) rfl (by kernel_rfl) (by kernel_rfl) (by kernel_rfl) (fun _ _ _ h => h) (Or.inl ⟨by rfl, by intro w hw; go_simp⟩) hS0 ?_
      try simp only [Act.put, List.setIfInBounds_toArray, List.set_cons_zero, List.set_cons_succ]
      refine wpAnyH_take (i := 2) (oi := ({ dst := some 79, op := Op.load 32 (Operand.tmp 9), type := 32, pos := "outright.go:131", after := #[], guard := none } : Oper)) (v := .agg (hbs F)) rfl (by kernel_rfl) (by kernel_rfl) (by kernel_rfl) (fun _ _ _ h => h) (yieldsL (by rfl) (.tmp 9) 32 32 rfl Tryd.isAgg32 Tryd.sizeOf32 wb 0 rfl (hbs F) hFs (fun w hw => hash_cells ((hw.block _ (heap_lt J7.out) (fun f => f)).trans J7.out))) hS0 ?_
      try simp only [Act.put, List.setIfInBounds_toArray, List.set_cons_zero, List.set_cons_succ]
      refine wpAnyH_ready (rs := [1]) (by kernel_rfl) (by simp) ?_
      refine (AllReadyH.cons (o := ({ dst := some 78, op := Op.call { callee := Callee.value (Operand.func 20), args := #[Operand.tmp 77], argTypes := #[24] }, type := 32, pos := "outright.go:131", after := #[{ on := 0, ground := Ground.data }], guard := none } : Oper)) rfl (fun K' hK => ?_) AllReadyH.nil)
      go_simp
      go_wp2_with (go_at_call 20; refine (QR.out _ nb).mono ?_; rintro ex w101 ⟨rfl, nw101⟩)
      have nb := nb.tr nw101
      refine hK.out _ _ (nb) (fun hS0 => ?_)
      try simp only [Act.put, List.setIfInBounds_toArray, List.set_cons_zero, List.set_cons_succ]
      refine wpAnyH_take (i := 3) (oi := ({ dst := some 80, op := Op.binOp BinOp.neq 32 (Operand.tmp 78) (Operand.tmp 79) 32, type := 4, pos := "outright.go:131", after := #[{ on := 1, ground := Ground.data }, { on := 2, ground := Ground.data }], guard := none } : Oper)) (v := .bool false) rfl (by kernel_rfl) (by kernel_rfl) (by kernel_rfl) (fun _ _ _ h => h) (yieldsNe (by rfl) (.tmp 78) (.tmp 79) rfl F F32.out rfl rfl) hS0 ?_
      try simp only [Act.put, List.setIfInBounds_toArray, List.set_cons_zero, List.set_cons_succ]
      refine wpAnyH_take (i := 4) (oi := ({ dst := some 81, op := Op.move (Operand.tmp 80), type := 4, pos := "outright.go:131", after := #[{ on := 3, ground := Ground.data }, { on := 1, ground := Ground.chain }], guard := none } : Oper)) (v := .bool false) rfl (by kernel_rfl) (by kernel_rfl) (by kernel_rfl) (fun _ _ _ h => h) (Or.inl ⟨by rfl, by intro w hw; go_simp⟩) hS0 ?_
      try simp only [Act.put, List.setIfInBounds_toArray, List.set_cons_zero, List.set_cons_succ]
      refine wpAnyH_take (i := 5) (oi := ({ dst := some 82, op := Op.move (Operand.tmp 7), type := 24, pos := "outright.go:131", after := #[{ on := 4, ground := Ground.guard }], guard := some (4, false) } : Oper)) (v := .pointer (some ⟨b, 0, none⟩)) rfl (by kernel_rfl) (by kernel_rfl) (by kernel_rfl) (fun _ _ _ h => h) (Or.inl ⟨by rfl, by intro w hw; go_simp⟩) hS0 ?_
      try simp only [Act.put, List.setIfInBounds_toArray, List.set_cons_zero, List.set_cons_succ]
      refine wpAnyH_take (i := 7) (oi := ({ dst := some 84, op := Op.move (Operand.tmp 0), type := 34, pos := "outright.go:131", after := #[{ on := 4, ground := Ground.guard }], guard := some (4, false) } : Oper)) (v := .int .u64 (n : Int)) rfl (by kernel_rfl) (by kernel_rfl) (by kernel_rfl) (fun _ _ _ h => h) (Or.inl ⟨by rfl, by intro w hw; go_simp⟩) hS0 ?_
      try simp only [Act.put, List.setIfInBounds_toArray, List.set_cons_zero, List.set_cons_succ]
      refine wpAnyH_ready (rs := [6]) (by kernel_rfl) (by simp) ?_
      refine (AllReadyH.cons (o := ({ dst := some 83, op := Op.call { callee := Callee.value (Operand.func 16), args := #[Operand.tmp 82], argTypes := #[24] }, type := 34, pos := "outright.go:131", after := #[{ on := 5, ground := Ground.data }, { on := 4, ground := Ground.chain }, { on := 4, ground := Ground.guard }], guard := some (4, false) } : Oper)) rfl (fun K' hK => ?_) AllReadyH.nil)
      go_simp
      go_wp2_with (go_at_call 16; refine (QS.out _ nb).mono ?_; rintro ex w102 ⟨rfl, nw102⟩)
      have nb := nb.tr nw102
      refine hK.out _ _ (nb) (fun hS0 => ?_)
      try simp only [Act.put, List.setIfInBounds_toArray, List.set_cons_zero, List.set_cons_succ]
      refine wpAnyH_take (i := 8) (oi := ({ dst := some 85, op := Op.binOp BinOp.neq 34 (Operand.tmp 83) (Operand.tmp 84) 34, type := 4, pos := "outright.go:131", after := #[{ on := 6, ground := Ground.data }, { on := 7, ground := Ground.data }, { on := 4, ground := Ground.guard }], guard := some (4, false) } : Oper)) (v := .bool false) rfl (by kernel_rfl) (by kernel_rfl) (by kernel_rfl) (fun _ _ _ h => h) (Or.inl ⟨by rfl, by intro w hw; go_simp⟩) hS0 ?_
      try simp only [Act.put, List.setIfInBounds_toArray, List.set_cons_zero, List.set_cons_succ]
      refine wpAnyH_take (i := 9) (oi := ({ dst := some 86, op := Op.pick (Operand.tmp 81) (Operand.const (Value.bool true)) (Operand.tmp 85), type := 4, pos := "outright.go:131", after := #[{ on := 4, ground := Ground.data }, { on := 8, ground := Ground.data }], guard := none } : Oper)) (v := .bool false) rfl (by kernel_rfl) (by kernel_rfl) (by kernel_rfl) (fun _ _ _ h => h) (Or.inl ⟨by rfl, by intro w hw; go_simp⟩) hS0 ?_
      try simp only [Act.put, List.setIfInBounds_toArray, List.set_cons_zero, List.set_cons_succ]
      refine wpAnyH_take (i := 10) (oi := ({ dst := some 87, op := Op.move (Operand.tmp 86), type := 4, pos := "outright.go:131", after := #[{ on := 9, ground := Ground.data }, { on := 6, ground := Ground.chain }], guard := none } : Oper)) (v := .bool false) rfl (by kernel_rfl) (by kernel_rfl) (by kernel_rfl) (fun _ _ _ h => h) (Or.inl ⟨by rfl, by intro w hw; go_simp⟩) hS0 ?_
      try simp only [Act.put, List.setIfInBounds_toArray, List.set_cons_zero, List.set_cons_succ]
      refine wpAnyH_take (i := 11) (oi := ({ dst := some 88, op := Op.move (Operand.tmp 7), type := 24, pos := "outright.go:131", after := #[{ on := 10, ground := Ground.guard }], guard := some (10, false) } : Oper)) (v := .pointer (some ⟨b, 0, none⟩)) rfl (by kernel_rfl) (by kernel_rfl) (by kernel_rfl) (fun _ _ _ h => h) (Or.inl ⟨by rfl, by intro w hw; go_simp⟩) hS0 ?_
      try simp only [Act.put, List.setIfInBounds_toArray, List.set_cons_zero, List.set_cons_succ]
      refine wpAnyH_take (i := 13) (oi := ({ dst := some 90, op := Op.move (Operand.tmp 1), type := 22, pos := "outright.go:131", after := #[{ on := 10, ground := Ground.guard }], guard := some (10, false) } : Oper)) (v := .slice ad m c) rfl (by kernel_rfl) (by kernel_rfl) (by kernel_rfl) (fun _ _ _ h => h) (Or.inl ⟨by rfl, by intro w hw; go_simp⟩) hS0 ?_
      try simp only [Act.put, List.setIfInBounds_toArray, List.set_cons_zero, List.set_cons_succ]
      refine wpAnyH_ready (rs := [12]) (by kernel_rfl) (by simp) ?_
      refine (AllReadyH.cons (o := ({ dst := some 89, op := Op.call { callee := Callee.value (Operand.func 19), args := #[Operand.tmp 88], argTypes := #[24] }, type := 22, pos := "outright.go:131", after := #[{ on := 11, ground := Ground.data }, { on := 10, ground := Ground.chain }, { on := 10, ground := Ground.guard }], guard := some (10, false) } : Oper)) rfl (fun K' hK => ?_) AllReadyH.nil)
      go_simp
      go_wp2_with (go_at_call 19; refine (QH.out _ nb).mono ?_; rintro ex w103 ⟨hv, rfl, ho, nw103⟩)
      obtain ⟨ha, hc, rfl⟩ := ownsRow_form ho
      have HO : Hid (w103.ownsRow 0 32 32 (.slice ha m hc) m (hsc L)) := ownsRow_base ho (Nat.zero_le _)
      clear ho
      have nb := nb.tr nw103
      refine hK.out _ _ (nb) (fun hS0 => ?_)
      try simp only [Act.put, List.setIfInBounds_toArray, List.set_cons_zero, List.set_cons_succ]
      refine wpAnyH_ready (rs := [14]) (by kernel_rfl) (by simp) ?_
      refine (AllReadyH.cons (o := ({ dst := some 91, op := Op.call { callee := Callee.value (Operand.func 22), args := #[Operand.tmp 89, Operand.tmp 90], argTypes := #[22, 22] }, type := 4, pos := "outright.go:131", after := #[{ on := 12, ground := Ground.data }, { on := 13, ground := Ground.data }, { on := 12, ground := Ground.chain }, { on := 10, ground := Ground.guard }], guard := some (10, false) } : Oper)) rfl (fun K' hK => ?_) AllReadyH.nil)
      go_simp
      go_wp2_with (go_at_call 22; refine ((QSM.out _ ha hc nb HO.out)).mono ?_; rintro ex w104 ⟨rfl, nw104⟩)
      have nb := nb.tr nw104
      refine hK.out _ _ (nb) (fun hS0 => ?_)
      try simp only [Act.put, List.setIfInBounds_toArray, List.set_cons_zero, List.set_cons_succ]
      refine wpAnyH_take (i := 15) (oi := ({ dst := some 92, op := Op.unOp UnOp.not 4 (Operand.tmp 91), type := 4, pos := "outright.go:131", after := #[{ on := 14, ground := Ground.data }, { on := 10, ground := Ground.guard }], guard := some (10, false) } : Oper)) (v := .bool false) rfl (by kernel_rfl) (by kernel_rfl) (by kernel_rfl) (fun _ _ _ h => h) (Or.inl ⟨by rfl, by intro w hw; go_simp⟩) hS0 ?_
      try simp only [Act.put, List.setIfInBounds_toArray, List.set_cons_zero, List.set_cons_succ]
      refine wpAnyH_take (i := 16) (oi := ({ dst := some 93, op := Op.pick (Operand.tmp 87) (Operand.const (Value.bool true)) (Operand.tmp 92), type := 4, pos := "outright.go:131", after := #[{ on := 10, ground := Ground.data }, { on := 15, ground := Ground.data }], guard := none } : Oper)) (v := .bool false) rfl (by kernel_rfl) (by kernel_rfl) (by kernel_rfl) (fun _ _ _ h => h) (Or.inl ⟨by rfl, by intro w hw; go_simp⟩) hS0 ?_
      try simp only [Act.put, List.setIfInBounds_toArray, List.set_cons_zero, List.set_cons_succ]
      refine wpAnyH_done (by kernel_rfl) ?_ _
      have NE : Hid (Nw wr w104) := nb
      have NEw : Hid (Nw w w104) := NWR.out.tr nb
      have BXE : Hid (w104.heap[xb]? = some (.cells (hbs x) 32)) := (nb.block _ (heap_lt BX7.out) (fun f => f)).trans BX7.out
      have BE : Hid (Bd w104 b w3.heap.size v n L) := B7.out.nw nb
      have JE : Hid (w104.heap[wb]? = some (.cells (hbs F) 32 (0, 0))) := (nb.block _ (heap_lt J7.out) (fun f => f)).trans J7.out
      clear nb HO J6 E1 HJ HB6 QH QSM
      by_cases hmax : n = 9223372036854775808
      · have q8 := eadd_limit BE.out (by omega) x (SS.out _ NEw.out)
        have hme : ((n : Int) == 9223372036854775808) = true := by simp only [beq_iff_eq]; omega
        go_wp2_with (refine wpl_load rfl (.tmp 5) rfl xb 0 rfl x X32.out (hash_cells BXE.out) ?_)
        refine q8.mono ?_
        rintro e w8 ⟨rfl, n8⟩
        have N8 : Hid (Nw w104 w8) := n8
        have N8w : Hid (Nw w w8) := NEw.out.tr n8
        have J8 : Hid (w8.heap[wb]? = some (.cells (hbs F) 32 (0, 0))) := (n8.block _ (heap_lt JE.out) (fun f => f)).trans JE.out
        have QR8 : Hid (∀ V, Nw w8 V → Calls Tryd.prog 20 #[.pointer (some ⟨b, 0, none⟩)] V fun e w' => e = .returned (.agg (hbs F)) ∧ Nw V w') := fun V nV => QR.out V ((NE.out.tr N8.out).tr nV)
        have QS8 : Hid (∀ V, Nw w8 V → Calls Tryd.prog 16 #[.pointer (some ⟨b, 0, none⟩)] V fun e w' => e = .returned (.int .u64 (n : Int)) ∧ Nw V w') := fun V nV => QS.out V ((NE.out.tr N8.out).tr nV)
        have QI8 : Hid (∀ V, Nw w8 V → Calls Tryd.prog 24 #[sen (a 3), .int .i64 4] V fun e w' => e = .returned (.bool true) ∧ Nw V w') := fun V nV => QI.out 3 4 (by decide) rfl V (N8w.out.tr nV)
        clear q8 n8 hmax
        go_upto_region 21 with fail
        (refine wp_region_grown (by kernel_rfl) (by kernel_rfl) ?_; (repeat (first | go_big_quiet_skip | (go_big_quiet_want; first | (refine quiet_load (.tmp 9) rfl wb 0 rfl F F32.out (hash_cells J8.out) ?_; ((try simp only [Act.put, List.setIfInBounds_toArray, List.set_cons_zero, List.set_cons_succ]); go_big_quiet_on)) | (refine quiet_eql (.tmp 117) (.tmp 118) rfl F F32.out rfl rfl ?_; ((try simp only [Act.put, List.setIfInBounds_toArray, List.set_cons_zero, List.set_cons_succ]); go_big_quiet_on)) | (go_big_quiet_op; first | go_big_quiet_on | go_big_quiet_call (first | rfl | with_reducible exact grw_call QS8.out (nwr _) _ | with_reducible exact grw_call QR8.out (nwr _) _ | with_reducible exact grw_call QI8.out (nwr _) _))))); refine wpQuiet_nil ?_; rintro W ⟨⟨_, nW⟩, rfl⟩)
        go_wp2
        go_ret
        exact ⟨rfl, N8w.out.tr nW⟩
      · have hn63 : n < 9223372036854775808 := by have := HR.out; omega
        have hme : ((n : Int) == 9223372036854775808) = false := by simp only [beq_eq_false_iff_ne, ne_eq]; omega
        have hop := ones_pop 64 n
        have q8 := eadd_any BE.out hn63 x X32.out (ones 64 n) (ctz_succ n).symm (by rw [HM.out, HME.out, ← HPE.out]; exact hop) (ones_may n hn63) (by rw [HM.out]; have := HML.out; omega) (HL.out.nw NEw.out) (HT.out.nw NEw.out)
        have QO : Hid (∀ V, Nw w V → Calls Tryd.prog 10 #[.int .u64 (n : Int)] V fun e w' => e = .returned (.int .i64 (ones 64 n : Int)) ∧ w' = V) := fun V nV => by
          have q := ones_any (n : Int) V (by omega) (by omega) (HT.out.nw nV)
          rw [Int.toNat_natCast] at q
          exact q
        have ho64 := ones_63 n hn63
        obtain ⟨j, hj⟩ : ∃ j, j = ones 64 n := ⟨_, rfl⟩
        rw [← hj] at q8 QO ho64
        clear hop hmax hj
        go_wp2_with (refine wpl_load rfl (.tmp 5) rfl xb 0 rfl x X32.out (hash_cells BXE.out) ?_)
        refine q8.mono ?_
        rintro e w8 ⟨tv, v8, rfl, o8, b8, s8, f8⟩
        obtain ⟨ta, tc, rfl⟩ := ownsRow_form o8
        have N8w : Hid (Nw w w8) := NEw.out.trans f8 (fun q hq e => by
          have h1 := N3.out.size
          rcases e with e | e
          · omega
          · have := (BE.out.own.lt q e).1; omega)
        have q9 := esize_any b8
        rw [show ((n + 1 : Nat) : Int) = (n : Int) + 1 by omega] at q9
        have Q9 : Hid (Calls Tryd.prog 16 #[.pointer (some ⟨b, 0, none⟩)] w8 fun e w' => e = .returned (.int .u64 ((n : Int) + 1)) ∧ w' = w8) := q9
        clear q8 q9 o8 b8 s8 f8
        go_wp2_with fail
        refine Q9.out.mono ?_
        rintro e w9 ⟨rfl, rfl⟩
        go_wp2_with fail
        refine (QO.out _ N8w.out).mono ?_
        rintro e w10 ⟨rfl, rfl⟩
        go_wp2
        go_ret
        exact ⟨rfl, N8w.out⟩
theorem folds10_v (n : Nat) (hn : n < 18446744073709551616) (L : List (List UInt8)) (h32 : ∀ x ∈ L, x.length = 32) (v : Value) (hll : L.length < 4611686018427387904) (x : List UInt8) (hx : x.length = 32) (w : World) (hs : Hss w v L) (hL : Laid w) (hT : TabAt w) {B : Nat} {a : Nat → Addr} (hS : Sent B w a) :
    Calls Tryd.prog 5 #[.int .u64 (n : Int), v, .agg (hbs x)] w fun e w' => e = .returned (.bool true) ∧ Nw w w' := by
  obtain ⟨ad, c, rfl⟩ := hs.form
  exact folds10_any n hn L h32 ad c hll x hx w hs hL hT hS
end Go.Proofs.YtlcheobdkkiffaaDoor
