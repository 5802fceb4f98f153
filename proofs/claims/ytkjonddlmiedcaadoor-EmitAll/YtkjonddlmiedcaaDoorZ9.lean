/- EmitAll: the walk. -/
import Derived.Test.YtkjonddlmiedcaaDoorZ8
namespace Go.Proofs.YtkjonddlmiedcaaDoor
open Go.RowKit Go.Shelf
set_option linter.unusedVariables false
set_option linter.unusedSimpArgs false
def zrow : List UInt8 := List.replicate 32 0
def fE (A : List (List UInt8)) (i : Nat) : List UInt8 := A.getD i zrow
theorem fE_len {A : List (List UInt8)} (h : ∀ x ∈ A, x.length = 32) (i : Nat) : (fE A i).length = 32 := by
  unfold fE
  rw [List.getD_eq_getElem?_getD]
  cases e : A[i]? with
  | none => simp [zrow]
  | some x => exact h x (List.mem_of_getElem? e)
set_option maxRecDepth 100000 in
set_option maxHeartbeats 4000000 in
theorem all10_any (A : List (List UInt8)) (hA32 : ∀ x ∈ A, x.length = 32) (ad : Option Addr) (c : Nat) (hAl : A.length < 4611686018427387904) (w : World) (hsA : Hss w (.slice ad A.length c) A) (hL : Laid w) (hT : TabAt w) {B0 : Nat} {a : Nat → Addr} (hS : Sent B0 w a) :
    Calls Tryd.prog 3 #[.slice ad A.length c] w fun e w' => e = .returned (.bool true) ∧ Nw w w' := by
  have HL : Hid (Laid w) := hL
  have HT : Hid (TabAt w) := hT
  have A32 : Hid (∀ y ∈ A, y.length = 32) := hA32
  have F32 : Hid (∀ i, (fE A i).length = 32) := fE_len hA32
  have QA := alive10_any w hL hT hS
  obtain ⟨m1, hm1⟩ : ∃ m, m = A.length := ⟨_, rfl⟩
  have HM1 : Hid (A.length = m1) := hm1.symm
  have HSA : Hid (Hss w (.slice ad m1 c) A) := by rw [hm1]; exact hsA
  rw [← hm1] at hAl ⊢
  have hnn : ∀ W : World, (binOp .neq 28 .nilIface .nilIface).run Tryd.prog W = .ok (.bool false) W := fun W => by kernel_rfl
  obtain ⟨n, hn⟩ : ∃ n, n = min m1 600 := ⟨_, rfl⟩
  have emin : min (m1 : Int) 600 = (n : Int) := by omega
  have hn6 : n ≤ 600 := by omega
  have hnm : n ≤ m1 := by omega
  clear hL hT hS hA32 hsA hm1 hn
  go_enter Tryd.func3, Tryd.ntmps3
  go_wp2_with fail
  refine QA.mono ?_
  rintro e w1 ⟨rfl, n1⟩
  have N1 : Hid (Nw w w1) := n1
  clear n1 QA
  have q3 := pnew w1 (HL.out.nw N1.out)
  go_wp2_with fail
  refine q3.mono ?_
  rintro e w3 ⟨P0, rfl, p3, l3, n3⟩
  obtain ⟨rb, hrb⟩ : ∃ q, q = w1.heap.size := ⟨_, rfl⟩
  rw [← hrb] at p3 l3 ⊢
  have HRB : Hid (w.heap.size ≤ rb) := by rw [hrb]; exact N1.out.size
  have EB : Hid (Eb w rb (fE A) w3 0 none 0) := ⟨⟨.slice none 0 0, P0, by rw [stE_zero]; exact p3, l3, fun g hg => by cases hg⟩, World.ownsRow_nil _ _ _ _, N1.out.tr n3⟩
  clear hrb q3 p3 l3 n3 N1
  go_wp2
  clear emin
  go_loopw [4, 6] (fun u v wr => ∃ (k : Nat) (va : Option Addr) (vc : Nat), k ≤ n ∧ v = .int .i64 k ∧ u = .slice va (allE (fE A) k).length vc ∧ Eb w rb (fE A) wr k va vc) (fun _ v _ => n - (intOf v).toNat)
  case atStart => exact ⟨0, none, 0, by omega, rfl, rfl, EB.out⟩
  case round =>
    obtain ⟨k, va, vc, hk, rfl, rfl, eb⟩ := hrel
    have HB : Hid (Eb w rb (fE A) wr k va vc) := eb
    clear eb EB
    have hal := allE_le (fE A) k (by omega)
    by_cases hkn : k < n
    · obtain ⟨y, hy⟩ : ∃ y, A[k]? = some y := ⟨_, List.getElem?_eq_getElem (by rw [HM1.out]; omega)⟩
      have Y32 : Hid (y.length = 32) := A32.out y (List.mem_of_getElem? hy)
      have HYF : Hid (y = fE A k) := by show _ = _; unfold fE; rw [List.getD_eq_getElem?_getD, hy]; rfl
      obtain ⟨p, off, e, hc⟩ := (HSA.out.nw A32.out HB.out.nw).atT hy
      subst e
      have HC0 : Hid (∀ j, j < 32 → w.cell? ⟨p, off + k * 32 + j, none⟩ = (hbs y)[j]?) := by
        obtain ⟨p', off', e', hc'⟩ := HSA.out.atT hy
        cases e'
        exact hc'
      have HC : Hid (∀ j, j < 32 → wr.cell? ⟨p, off + k * 32 + j, none⟩ = (hbs y)[j]?) := hc
      have hki : (k : Int) < (n : Int) := by omega
      have hkm : (k : Int) < (m1 : Int) := by omega
      obtain ⟨o, ho⟩ : ∃ o, o = ones 64 k := ⟨_, rfl⟩
      have HO : Hid (o = ones 64 k) := ho
      have ho64 : o ≤ 64 := by rw [ho]; exact ones_le 64 k
      have q4 := HB.out.add HRB.out F32.out (by omega) HL.out HT.out HYF.out ho
      clear hc hy ho
      go_wp2_with (refine wpl_load rfl (.tmp 35) rfl p (off + k * 32) rfl y Y32.out HC.out ?_)
      refine q4.mono ?_
      rintro e w4 ⟨g4, tc, bv, P, rfl, o4, b4, p4, d4, a4, n4⟩
      have B4 : Hid (Bp w4 P rb bv (k + 1) (stE (fE A) (k + 1)) ∧ (∀ g, P g → rb ≤ g) ∧ (∀ g, (Value.slice va (allE (fE A) k).length vc).ownBlock = some g → ¬ P g)) := ⟨b4, p4, d4⟩
      have O4 : Hid (w4.ownsRow wr.heap.size 38 34 (.slice (some ⟨g4, 0, none⟩) (o + 1) tc) (o + 1) (tsc (ndE (fE A) k))) := o4
      have A4 : Hid (w4.ownsRow rb 38 34 (.slice va (allE (fE A) k).length vc) (allE (fE A) k).length (tsc (allE (fE A) k))) := a4
      have N4 : Hid (Nw w w4) := n4
      have ND : Hid (Nds w4 (.slice (some ⟨g4, 0, none⟩) (o + 1) tc) (ndE (fE A) k)) := Nds.of (fun t ht => (ndE_ok (fE A) F32.out k (by omega) t ht).h32) (by rw [ndE_len, ← HO.out]; exact o4)
      clear q4 o4 b4 p4 d4 a4 n4 HC
      have HCN : Hid (∀ j, j < 32 → w4.cell? ⟨g4, 2 + j, none⟩ = (hbs y)[j]?) := by
        obtain ⟨g', off', e', hc'⟩ := ND.out.at (ndE_at (fE A) k 0 (by omega))
        cases e'
        have := (tre_cells hc').2.2
        intro j hj
        have h1 := this j hj
        simp only [Nat.zero_mul, Nat.zero_add, Nat.pow_zero, Nat.div_one, mhE] at h1
        rw [HYF.out]
        exact h1
      have HC4 : Hid (∀ j, j < 32 → w4.cell? ⟨p, off + k * 32 + j, none⟩ = (hbs y)[j]?) := fun j hj => by
        have h1 := HC0.out j hj
        obtain ⟨x, hx⟩ : ∃ x, (hbs y)[j]? = some x := ⟨_, Array.getElem?_eq_getElem (by rw [hbs_size, Y32.out]; exact hj)⟩
        rw [hx] at h1 ⊢
        exact N4.out.cellOf h1
      have QO : Hid (∀ W, Nw w4 W → Calls Tryd.prog 7 #[.int .u64 (k : Int)] W fun e w' => e = .returned (.int .i64 (o : Int)) ∧ Nw W w') := fun W nW => (ones_any (k : Int) W (by omega) (by omega) (HT.out.nw (N4.out.tr nW))).mono fun e w' ⟨h1, h2⟩ => ⟨by rw [h1, Int.toNat_natCast, HO.out], by rw [h2]; exact nwr _⟩
      go_wp2_with fail
      haveI : Nonempty (Grw w4) := ⟨⟨w4, nwr w4⟩⟩
      have hex := fun x : Grw w4 => (⟨x, rfl⟩ : ∃ y : Grw w4, x.val = y.val)
      have eo : (((o : Int) + 1) == 0) = false := by simp only [beq_eq_false_iff_ne]; omega
      have eo2 : (((o + 1 : Nat) : Int) == 0) = false := by simp only [beq_eq_false_iff_ne]; omega
      have ew : IntKind.u64.wrap (k : Int) = (k : Int) := by rw [IntKind.wrap_u64]; omega
      have ew2 : IntKind.i64.wrap ((o : Int) + 1) = (o : Int) + 1 := by rw [IntKind.wrap_i64]; omega
      (refine wp_region_grown (by kernel_rfl) (by kernel_rfl) ?_; (repeat (first | go_big_quiet_skip | (go_big_quiet_want; first | (refine quiet_load (.tmp 59) rfl g4 2 rfl y Y32.out HCN.out ?_; ((try simp only [Act.put, List.setIfInBounds_toArray, List.set_cons_zero, List.set_cons_succ]); go_big_quiet_on)) | (refine quiet_load (.tmp 63) rfl p (off + k * 32) rfl y Y32.out HC4.out ?_; ((try simp only [Act.put, List.setIfInBounds_toArray, List.set_cons_zero, List.set_cons_succ]); go_big_quiet_on)) | (refine quiet_neq (.tmp 60) (.tmp 64) rfl y Y32.out rfl rfl ?_; ((try simp only [Act.put, List.setIfInBounds_toArray, List.set_cons_zero, List.set_cons_succ]); go_big_quiet_on)) | (go_big_quiet_op; first | go_big_quiet_on | go_big_quiet_call (first | rfl | with_reducible exact grw_call QO.out (nwr w4) _))))); refine wpQuiet_nil ?_; rintro W ⟨⟨_, nW⟩, rfl⟩)
      have N5 : Hid (Nw w4 W) := nW
      clear nW hex this QO HCN HC4 eo eo2 ew2
      obtain ⟨w5, hw5⟩ : ∃ q, q = W := ⟨_, rfl⟩
      rw [← hw5] at N5 ⊢
      clear hw5
      go_wp2
      go_loopw [9] (fun v wx => ∃ t : Nat, t ≤ o + 1 ∧ v = .int .i64 t ∧ Nw w5 wx) (fun v _ => o + 1 - (intOf v).toNat)
      case atStart => exact ⟨0, by omega, rfl, nwr _⟩
      case round =>
        obtain ⟨t, ht, rfl, hnw⟩ := hrel
        have NX : Hid (Nw w5 wr) := hnw
        by_cases hto : t < o + 1
        · have hti : (t : Int) < (o : Int) + 1 := by omega
          obtain ⟨g', off', e', hc'⟩ := ND.out.at (ndE_at (fE A) k t (by rw [← HO.out]; exact hto))
          cases e'
          obtain ⟨d0, d1, _⟩ := tre_cells hc'
          have hend := ones_end 64 k t (by rw [← HO.out]; omega)
          have hmay := (inE_may (ndE_in (fE A) k _ (List.mem_of_getElem? (ndE_at (fE A) k t (by rw [← HO.out]; exact hto)))) (by omega)).1
          simp only at d0 d1 hmay
          generalize k / 2 ^ t = I at d0 d1 hmay hend
          have q6 := fun W => span_yes t I hmay W
          rw [hend] at q6
          generalize I * 2 ^ t = sb at q6
          have z0 := (N5.out.tr NX.out).cellOf d0
          have z1 := (N5.out.tr NX.out).cellOf d1
          clear hc' hend hmay d0 d1
          rw [Nat.zero_add] at z0 z1
          go_wp2_with fail
          refine (q6 _).mono ?_
          rintro e w6 ⟨rfl, n6⟩
          have N6 : Hid (Nw w5 w6) := NX.out.tr n6
          have y0 := n6.cellOf z0
          have y1 := n6.cellOf z1
          clear n6 q6 hnw NX z0 z1
          have ew3 : IntKind.u64.wrap ((k : Int) + 1) = (k : Int) + 1 := by rw [IntKind.wrap_u64]; omega
          have hsz6 := N6.out.size
          have lg6 : g4 < w6.heap.size := World.block_lt_of_cell? w6 _ y0
          go_wp2
          exact ⟨⟨t + 1, by omega, by go_num, (by repeat first | with_reducible exact N6.out | with_reducible refine Fr.alloc ?_ _ | with_reducible refine Fr.drew ?_ | (with_reducible refine Fr.setCell ?_ _ _ (fun h => ?_); rotate_left; focus (simp only at h; omega)))⟩, by simp [intOf]; omega⟩
        · have hge : ¬ (t : Int) < (o : Int) + 1 := by omega
          have NA : Hid (Nw w4 wr) := N5.out.tr NX.out
          obtain ⟨i0, hi0, hz0, hz1, hz2⟩ := info_parts infoNd
          obtain ⟨L, hL⟩ : ∃ L, L = (allE (fE A) k).length := ⟨_, rfl⟩
          have HLL : Hid (L = (allE (fE A) k).length) := hL
          have hLb : L ≤ 2000 := by omega
          rw [← hL] at A4 B4 ⊢
          have OA : Hid (wr.ownsRow rb 38 34 (.slice va L vc) L (tsc (allE (fE A) k))) := ownsRow_keep A4.out (fun g hg => NA.out.block g (A4.out.lt g hg).2 (fun q => q))
          have ON : Hid (∀ j u, (tsc (ndE (fE A) k))[j]? = some u → wr.cell? ((⟨g4, 0, none⟩ : Addr).add j) = some u) := fun j u hj => NA.out.cellOf (O4.out.cells (g := g4) rfl j u hj)
          have HLn : Hid ((tsc (ndE (fE A) k)).length = (o + 1) * 34) := by show _ = _; rw [tsc_len _ (ndE_ok (fE A) F32.out k (by omega)), ndE_len, ← HO.out]
          have HSZ : Hid (rb ≤ wr.heap.size) := by
            show _ ≤ _
            have h1 := B4.out.1.plt rb B4.out.1.pb
            have h2 := NA.out.size
            omega
          clear hL hal hnw ht hto
          go_wp2_with (at_builtin; refine wpList_two _ rfl (.tmp 103) (.tmp 104) 26 rfl rb 38 i0 (.agg zt.c) 34 48 Tryd.underlying26 hi0 hz0 hz1 hz2 zt34 (by decide) (.slice va L vc) L (tsc (allE (fE A) k)) rfl OA.out ⟨g4, 0, none⟩ (o + 1) tc (tsc (ndE (fE A) k)) rfl HLn.out ON.out tsc_ones (by unfold maxLen; omega) (by omega) HSZ.out ?_; intro v' w7 o7 t7; have HF : Hid (∃ xa xc, v' = .slice xa (allE (fE A) (k + 1)).length xc ∧ Eb w rb (fE A) w7 (k + 1) xa xc) := by (have hb := B4.out; have hr7 := fun g hg => (A4.out.lt g hg).1; rw [HLL.out] at o7 t7 hb hr7; exact Eb.app HRB.out (hb.1.nw NA.out) hb.2.1 hb.2.2 hr7 (N4.out.tr NA.out) HO.out o7 t7))
          obtain ⟨xa, xc, rfl, eb7⟩ := HF.out
          have E7 : Hid (Eb w rb (fE A) w7 (k + 1) xa xc) := eb7
          clear o7 t7 eb7 HF OA ON A4 B4 O4 N4 N5 NA HB
          go_wp2
          exact ⟨⟨k + 1, xa, xc, by omega, by go_num, rfl, E7.out⟩, by simp [intOf]; omega⟩
    · obtain rfl : k = n := by omega
      have hge : ¬ (k : Int) < (k : Int) := by omega
      have hlen := allE_len (fE A) k (by omega)
      obtain ⟨L, hL⟩ : ∃ L, L = (allE (fE A) k).length := ⟨_, rfl⟩
      obtain ⟨pc, hpc⟩ : ∃ x, x = Lib.popAux 64 k := ⟨_, rfl⟩
      have qc := fun W => cpop_any k W (by omega)
      rw [← hL, ← hpc] at hlen
      rw [← hpc] at qc
      rw [← hL] at hal ⊢
      have HLL : Hid (L = (allE (fE A) k).length) := hL
      have ew : IntKind.u64.wrap (k : Int) = (k : Int) := by rw [IntKind.wrap_u64]; omega
      have e2 : (2 : Int) * (k : Int) - (pc : Int) = (L : Int) := by omega
      have e3 : wrap64 ((2 : Int) * (k : Int) - (pc : Int)) = (L : Int) := by rw [e2]; unfold wrap64; omega
      have hpk : pc ≤ 2 * k := by omega
      clear hL hpc
      go_wp2_with fail
      refine (qc _).mono ?_
      rintro e w5 ⟨rfl, rfl⟩
      clear qc hlen
      go_wp2
      clear e2 e3
      have ND : Hid (Nds w5 (.slice va L vc) (allE (fE A) k)) := Nds.of (fun t ht => (allE_ok (fE A) F32.out k (by omega) t ht).h32) (by have := HB.out.own; rw [← HLL.out] at this ⊢; exact this)
      have A3 : Hid (∀ t ∈ allE (fE A) k, t.H.length = 32) := fun t ht => (allE_ok (fE A) F32.out k (by omega) t ht).h32
      have AI : Hid (∀ t ∈ allE (fE A) k, t.H = mhE (fE A) t.L t.I ∧ t.H.length = 32) := fun t ht => ⟨(allE_in (fE A) k t ht).1, A3.out t ht⟩
      obtain ⟨wz, hwz⟩ : ∃ q, q = w5 := ⟨_, rfl⟩
      rw [← hwz] at ND HB ⊢
      clear hwz
      go_loopw [12] (fun v wx => ∃ t : Nat, t ≤ L ∧ v = .int .i64 t ∧ Nw wz wx) (fun v _ => L - (intOf v).toNat)
      case atStart => exact ⟨0, by omega, rfl, nwr _⟩
      case round =>
        obtain ⟨t, ht, rfl, hnw⟩ := hrel
        have NX : Hid (Nw wz wr) := hnw
        by_cases htl : t < L
        · have hti : (t : Int) < (L : Int) := by omega
          obtain ⟨T, hT⟩ : ∃ T, (allE (fE A) k)[t]? = some T := ⟨_, List.getElem?_eq_getElem (by rw [← HLL.out]; exact htl)⟩
          have hTm := List.mem_of_getElem? hT
          obtain ⟨g, off, e, hc⟩ := (ND.out.nw A3.out NX.out).at hT
          subst e
          obtain ⟨d0, d1, _⟩ := tre_cells hc
          have dh : ∀ j, j < 32 → wz.cell? ⟨g, off + t * 34 + 2 + j, none⟩ = (hbs T.H)[j]? := by
            obtain ⟨g', o', e', hc'⟩ := ND.out.at hT
            cases e'
            exact (tre_cells hc').2.2
          have hin := allE_in (fE A) k T hTm
          have hmay := (inE_may hin (by omega)).1
          obtain ⟨hH, hE⟩ := hin
          obtain ⟨TL, hTL⟩ : ∃ x, x = T.L := ⟨_, rfl⟩
          obtain ⟨TI, hTI⟩ : ∃ x, x = T.I := ⟨_, rfl⟩
          rw [← hTL, ← hTI] at hmay hH hE
          rw [← hTL] at d0
          rw [← hTI] at d1
          rw [hH] at dh
          have DH : Hid (∀ j, j < 32 → wz.cell? ⟨g, off + t * 34 + 2 + j, none⟩ = (hbs (mhE (fE A) TL TI))[j]?) := dh
          clear hc hT hTm hH hTL hTI dh
          cases TL with
          | zero =>
            go_wp2
            exact ⟨⟨t + 1, by omega, by go_num, NX.out⟩, by simp [intOf]; omega⟩
          | succ l0 =>
            have hz : (((l0 + 1 : Nat) : Int) == 0) = false := by simp only [beq_eq_false_iff_ne]; omega
            have hz2 : (((l0 : Int) + 1) == 0) = false := by simp only [beq_eq_false_iff_ne]; omega
            have q6 := fun W => children_yes (l0 + 1) TI hmay (by omega) W
            rw [show l0 + 1 - 1 = l0 by omega] at q6
            have hp2 : 2 ^ (l0 + 1) = 2 * 2 ^ l0 := by rw [Nat.pow_succ]; omega
            have m1 : Hid ((⟨l0, 2 * TI, mhE (fE A) l0 (2 * TI)⟩ : Tre) ∈ allE (fE A) k) := allE_has (fE A) k (by omega) _ _ (by
              have e1 : (2 * TI + 1) * 2 ^ l0 ≤ (TI + 1) * 2 ^ (l0 + 1) := by rw [hp2, ← Nat.mul_assoc]; exact Nat.mul_le_mul_right _ (by omega)
              omega)
            have m2 : Hid ((⟨l0, 2 * TI + 1, mhE (fE A) l0 (2 * TI + 1)⟩ : Tre) ∈ allE (fE A) k) := allE_has (fE A) k (by omega) _ _ (by
              have e1 : (2 * TI + 1 + 1) * 2 ^ l0 ≤ (TI + 1) * 2 ^ (l0 + 1) := by rw [hp2, ← Nat.mul_assoc]; exact Nat.mul_le_mul_right _ (by omega)
              omega)
            have qf1 := fun (W : World) (nW : Nw wz W) => find_any (fE A) (allE (fE A) k) AI.out l0 (2 * TI) m1.out (by rw [← HLL.out]; omega) (some ⟨g, off, none⟩) vc L HLL.out W (ND.out.nw A3.out nW)
            have qf2 := fun (W : World) (nW : Nw wz W) => find_any (fE A) (allE (fE A) k) AI.out l0 (2 * TI + 1) m2.out (by rw [← HLL.out]; omega) (some ⟨g, off, none⟩) vc L HLL.out W (ND.out.nw A3.out nW)
            have HR : Hid (mhE (fE A) (l0 + 1) TI = ndh (mhE (fE A) l0 (2 * TI)) (mhE (fE A) l0 (2 * TI + 1))) := rfl
            have X32 : Hid ((mhE (fE A) l0 (2 * TI)).length = 32) := mhE_len _ F32.out _ _
            have Y32 : Hid ((mhE (fE A) l0 (2 * TI + 1)).length = 32) := mhE_len _ F32.out _ _
            have R32 : Hid ((mhE (fE A) (l0 + 1) TI).length = 32) := mhE_len _ F32.out _ _
            have QN : Hid (∀ V, Nw w V → Calls Tryd.prog 12 #[.agg (hbs (mhE (fE A) l0 (2 * TI))), .agg (hbs (mhE (fE A) l0 (2 * TI + 1)))] V fun e w' => e = .returned (.agg (hbs (mhE (fE A) (l0 + 1) TI))) ∧ Nw V w') := fun V nV => by rw [HR.out]; exact node_any _ _ X32.out Y32.out V (HL.out.nw nV)
            generalize mhE (fE A) (l0 + 1) TI = R at DH HR R32 QN
            generalize mhE (fE A) l0 (2 * TI) = X at HR X32 QN qf1 m1
            generalize mhE (fE A) l0 (2 * TI + 1) = Y at HR Y32 QN qf2 m2
            obtain ⟨c1, hc1⟩ : ∃ x, x = 2 * TI := ⟨_, rfl⟩
            obtain ⟨c2, hc2⟩ : ∃ x, x = 2 * TI + 1 := ⟨_, rfl⟩
            rw [← hc1] at qf1
            rw [← hc2] at qf2
            have q7 : ∀ W, Calls Tryd.prog 10 #[cd (l0 + 1) TI] W fun e w' => e = .returned (.tuple #[cd l0 c1, cd l0 c2, .bool true]) ∧ Nw W w' := fun W => by rw [hc1, hc2]; exact q6 W
            have hXs : (hbs X).size = 32 := by rw [hbs_size, X32.out]
            have hYs : (hbs Y).size = 32 := by rw [hbs_size, Y32.out]
            clear hc1 hc2 q6 m1 m2 hp2 hE hmay
            go_wp2_with fail
            refine (q7 _).mono ?_
            rintro e w6 ⟨rfl, n6⟩
            have N6 : Hid (Nw wz w6) := NX.out.tr n6
            have hs6 := n6.size
            clear n6 q7 hnw
            go_wp2_with fail
            refine (qf1 _ ?_).mono ?_
            · exact (by repeat first | with_reducible exact N6.out | with_reducible refine Fr.alloc ?_ _ | with_reducible refine Fr.drew ?_ | (with_reducible refine Fr.setCell ?_ _ _ (fun h => ?_); rotate_left; focus (simp only at h; omega)))
            rintro e w8 ⟨rfl, n8⟩
            have k0 := n8.cellOf ((cell_of (heap_next w6 (.cells #[.int .u8 (l0 : Int), .int .u64 (c1 : Int)] 36) (.cells #[.int .u8 (l0 : Int), .int .u64 (c2 : Int)] 36)) 0).trans rfl)
            have k1 := n8.cellOf ((cell_of (heap_next w6 (.cells #[.int .u8 (l0 : Int), .int .u64 (c1 : Int)] 36) (.cells #[.int .u8 (l0 : Int), .int .u64 (c2 : Int)] 36)) 1).trans rfl)
            have hs8 : w6.heap.size + 2 ≤ w8.heap.size := by have := n8.size; simp at this; omega
            have N8 : Hid (Nw wz w8) := by
              have q : Nw wz ((w6.alloc (.cells #[.int .u8 (l0 : Int), .int .u64 (c1 : Int)] 36)).alloc (.cells #[.int .u8 (l0 : Int), .int .u64 (c2 : Int)] 36)) := (N6.out.alloc _).alloc _
              exact q.tr n8
            have HK : Hid (w8.cell? ⟨w6.heap.size + 1, 0, none⟩ = some (.int .u8 (l0 : Int)) ∧ w8.cell? ⟨w6.heap.size + 1, 1, none⟩ = some (.int .u64 (c2 : Int))) := ⟨k0, k1⟩
            clear n8 k0 k1 qf1 N6
            go_wp2_with (refine wp_store_agg rfl (.tmp 16) (.tmp 142) 32 32 rfl Tryd.sizeOf32 w8.heap.size 0 rfl _ 32 (heap_new _ _) (hbs X) rfl hXs (hbs_one _) (by decide) (hbs X) (by simp) ?_; intro w9 j9 f9 zz; clear zz; have N9 : Hid (Nw wz w9) := (N8.out.alloc _).trans f9 (fun j hj q => by have := N8.out.size; omega); have J9 : Hid (w9.heap[w8.heap.size]? = some (.cells (hbs X) 32 (0, 0))) := j9; have k0 : w9.cell? ⟨w6.heap.size + 1, 0, none⟩ = some (.int .u8 (l0 : Int)) := (f9.cell (by simp; omega) (by simp only; omega)).trans ((nwa w8 _).cellOf HK.out.1); have k1 : w9.cell? ⟨w6.heap.size + 1, 1, none⟩ = some (.int .u64 (c2 : Int)) := (f9.cell (by simp; omega) (by simp only; omega)).trans ((nwa w8 _).cellOf HK.out.2); clear j9 f9)
            refine (qf2 _ N9.out).mono ?_
            rintro e w10 ⟨rfl, n10⟩
            have N10 : Hid (Nw wz w10) := N9.out.tr n10
            have J10 : Hid (w10.heap[w8.heap.size]? = some (.cells (hbs X) 32 (0, 0))) := (n10.block _ (heap_lt J9.out) (fun q => q)).trans J9.out
            have hs9 := heap_lt J9.out
            have hs10 := n10.size
            clear n10 qf2 N9 J9 HK k0 k1 N8
            go_wp2_with (refine wp_store_agg rfl (.tmp 18) (.tmp 148) 32 32 rfl Tryd.sizeOf32 w10.heap.size 0 rfl _ 32 (heap_new _ _) (hbs Y) rfl hYs (hbs_one _) (by decide) (hbs Y) (by simp) ?_; intro w11 j11 f11 zz; clear zz; have N11 : Hid (Nw wz w11) := (N10.out.alloc _).trans f11 (fun j hj q => by have := N10.out.size; omega); have J11 : Hid (w11.heap[w10.heap.size]? = some (.cells (hbs Y) 32 (0, 0))) := j11; have K11 : Hid (w11.heap[w8.heap.size]? = some (.cells (hbs X) 32 (0, 0))) := (f11.block _ (by simp; omega) (by omega)).trans (((nwa w10 _).block _ (heap_lt J10.out) (fun q => q)).trans J10.out); clear j11 f11)
            have HT0 : Hid (∀ j, j < 32 → w11.cell? ⟨g, off + t * 34 + 2 + j, none⟩ = (hbs R)[j]?) := by
              intro j hj
              obtain ⟨x, hx⟩ : ∃ x, (hbs R)[j]? = some x := ⟨_, Array.getElem?_eq_getElem (by rw [hbs_size, R32.out]; exact hj)⟩
              have h1 := DH.out j hj
              rw [hx] at h1 ⊢
              exact N11.out.cellOf h1
            have NW11 : Hid (Nw w w11) := HB.out.nw.tr N11.out
            obtain ⟨b1, hb1⟩ : ∃ x, x = w8.heap.size := ⟨_, rfl⟩
            obtain ⟨b2, hb2⟩ : ∃ x, x = w10.heap.size := ⟨_, rfl⟩
            have HX1 : Hid (∀ j, j < 32 → w11.cell? ⟨b1, 0 + j, none⟩ = (hbs X)[j]?) := by rw [hb1]; exact hash_cells K11.out
            have HY1 : Hid (∀ j, j < 32 → w11.cell? ⟨b2, 0 + j, none⟩ = (hbs Y)[j]?) := by rw [hb2]; exact hash_cells J11.out
            rw [← hb1, ← hb2]
            clear hb1 hb2 DH hs8 hs9 hs10 J10 N10 K11 J11
            go_wp2_with fail
            haveI : Nonempty (Grw w11) := ⟨⟨w11, nwr w11⟩⟩
            have hex := fun x : Grw w11 => (⟨x, rfl⟩ : ∃ y : Grw w11, x.val = y.val)
            (refine wp_region_grown (by kernel_rfl) (by kernel_rfl) ?_; (repeat (first | go_big_quiet_skip | (go_big_quiet_want; first | (refine quiet_load (.tmp 164) rfl g (off + t * 34 + 2) rfl R R32.out HT0.out ?_; ((try simp only [Act.put, List.setIfInBounds_toArray, List.set_cons_zero, List.set_cons_succ]); go_big_quiet_on)) | (refine quiet_load (.tmp 16) rfl b1 0 rfl X X32.out HX1.out ?_; ((try simp only [Act.put, List.setIfInBounds_toArray, List.set_cons_zero, List.set_cons_succ]); go_big_quiet_on)) | (refine quiet_load (.tmp 18) rfl b2 0 rfl Y Y32.out HY1.out ?_; ((try simp only [Act.put, List.setIfInBounds_toArray, List.set_cons_zero, List.set_cons_succ]); go_big_quiet_on)) | (refine quiet_neq (.tmp 165) (.tmp 168) rfl R R32.out rfl rfl ?_; ((try simp only [Act.put, List.setIfInBounds_toArray, List.set_cons_zero, List.set_cons_succ]); go_big_quiet_on)) | (go_big_quiet_op; first | go_big_quiet_on | go_big_quiet_call (first | rfl | with_reducible exact grw_call QN.out NW11.out _))))); refine wpQuiet_nil ?_; rintro W ⟨⟨_, nW⟩, rfl⟩)
            have N12 : Hid (Nw wz W) := N11.out.tr nW
            clear nW this hex
            go_wp2
            exact ⟨⟨t + 1, by omega, by go_num, N12.out⟩, by simp [intOf]; omega⟩
        · have hge2 : ¬ (t : Int) < (L : Int) := by omega
          have EZ : Hid (Eb w rb (fE A) wr k va vc) := HB.out.go NX.out
          obtain ⟨bv, P, hbp, _, _⟩ := EZ.out.bp
          have q9 := psize hbp
          clear hbp
          go_wp2_with fail
          refine q9.mono ?_
          rintro e w6 ⟨rfl, n6⟩
          have N6 : Hid (Nw w w6) := EZ.out.nw.tr n6
          clear n6 q9
          go_wp2
          go_ret
          exact ⟨rfl, N6.out⟩
theorem all10_v (A : List (List UInt8)) (hA32 : ∀ x ∈ A, x.length = 32) (v : Value) (hAl : A.length < 4611686018427387904) (w : World) (hsA : Hss w v A) (hL : Laid w) (hT : TabAt w) {B0 : Nat} {a : Nat → Addr} (hS : Sent B0 w a) :
    Calls Tryd.prog 3 #[v] w fun e w' => e = .returned (.bool true) ∧ Nw w w' := by
  obtain ⟨ad, c, rfl⟩ := hsA.form
  exact all10_any A hA32 ad c hAl w hsA hL hT hS
end Go.Proofs.YtkjonddlmiedcaaDoor
