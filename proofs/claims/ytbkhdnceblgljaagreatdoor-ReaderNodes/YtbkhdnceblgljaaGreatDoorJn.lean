/- ReaderNodes: the walk. -/
import Derived.Test.YtbkhdnceblgljaaGreatDoorJm
import Derived.Test.YtbkhdnceblgljaaGreatDoorLv
import Derived.Deep.DeepCutAuto
namespace Go.Proofs.YtbkhdnceblgljaaGreatDoor
open Go.RowKit
set_option linter.unusedVariables false
set_option linter.unusedSimpArgs false
set_option maxRecDepth 100000 in
set_option maxHeartbeats 4000000 in
theorem nodes_core (x y : Int) (hx : -9223372036854775808 ≤ x ∧ x ≤ 9223372036854775807) (hy : -9223372036854775808 ≤ y ∧ y ≤ 9223372036854775807) (p : Option Addr) (zs : List Int) (c : Nat) (pt : Option Addr) (Q : List (Nat × Nat)) (ct : Nat) (w : World) (hz : Iz w p zs) (hzb : ∀ j, -9223372036854775808 ≤ zs.getD j 0 ∧ zs.getD j 0 ≤ 9223372036854775807) (hzl : zs.length ≤ 17592186044416) (hq : Cds w pt Q) (hqb : ∀ x ∈ Q, x.1 ≤ 255 ∧ x.2 < 18446744073709551616) (hql : Q.length ≤ 17592186044416) {a : Nat → Addr} (hG : Gd w.heap.size a w) :
    Calls Tryz.prog 3 #[.int .i64 x, .int .i64 y, .slice p zs.length c, .slice pt Q.length ct] w fun e w' => e = .returned (.bool true) ∧ Nw w w' := by
  have GD : Hid (Gd w.heap.size a w) := hG
  have HZ : Hid (Iz w p zs ∧ ∀ j, -9223372036854775808 ≤ zs.getD j 0 ∧ zs.getD j 0 ≤ 9223372036854775807) := ⟨hz, hzb⟩
  have HQ : Hid (Cds w pt Q ∧ ∀ x ∈ Q, x.1 ≤ 255 ∧ x.2 < 18446744073709551616) := ⟨hq, hqb⟩
  obtain ⟨zl, hzl2⟩ : ∃ q, q = zs.length := ⟨_, rfl⟩
  have HZL : Hid (zl = zs.length) := hzl2
  obtain ⟨ql, hql2⟩ : ∃ q, q = Q.length := ⟨_, rfl⟩
  have HQL : Hid (ql = Q.length) := hql2
  rw [← hzl2] at hzl ⊢
  rw [← hql2] at hql ⊢
  have q1 := round14 x 601 hx.1 hx.2 (by omega) (by omega)
  obtain ⟨n, hn⟩ : ∃ n : Nat, x % 601 = (n : Int) := ⟨(x % 601).toNat, by have := Int.emod_nonneg x (show (601 : Int) ≠ 0 by decide); omega⟩
  have hnb : n < 601 := by have := Int.emod_lt_of_pos x (show (0 : Int) < 601 by decide); omega
  rw [hn] at q1
  have L32 : Hid (∀ x ∈ lh n, x.length = 32) := lh_32 n
  have LL : Hid ((lh n).length = n) := lh_len n
  have HY : Hid (-9223372036854775808 ≤ y ∧ y ≤ 9223372036854775807) := hy
  clear hn hx hy hz hzb hzl2 hG hq hqb hql2
  go_enter Tryz.func3, Tryz.ntmps3
  go_wp2_with fail
  refine (q1 _).mono ?_
  rintro e w0 ⟨rfl, rfl⟩
  go_wp2_with fail
  have q3 := hashes14_z n (by omega) w0 GD.out.l
  refine q3.mono ?_
  rintro e w1 ⟨va, vc, rfl, o1, n1, hz1⟩
  have N1 : Hid (Nw w0 w1) := n1
  have O1 : Hid (w1.ownsRow w0.heap.size 42 32 (.slice va n vc) n (hsc (lh n))) := o1
  have q4 := laid14 (n := n) (by omega) o1 hz1 (GD.out.nw n1) n1.size
  clear q3 o1 n1 hz1 q1
  go_wp2_with fail
  refine q4.mono ?_
  rintro e w2 ⟨b, bm, g, T, M, rfl, lt2, hld, hon, hT, n2⟩
  have N2 : Hid (Nw w0 w2) := N1.out.tr n2
  have LT2 : Hid (Lt w1 w2 b bm g T M ∧ HldA (lh n) M) := ⟨lt2, hld⟩
  have HS12 : Hid (w1.heap.size ≤ w2.heap.size) := n2.size
  have O2 : Hid (w2.ownsRow w0.heap.size 42 32 (.slice va n vc) n (hsc (lh n))) := ownsRow_keep O1.out (fun k hk => n2.block k (O1.out.lt k hk).2 (fun f => f))
  have OLT : Hid (∀ k, (Value.slice va n vc).ownBlock = some k → k < w1.heap.size) := fun k hk => (O1.out.lt k hk).2
  clear q4 lt2 hld hon hT n2
  -- the store is restarted
  cases hok : okR 0 zs with
  | false =>
    have HOK : Hid (okR 0 zs = false) := hok
    clear hok
    have QR : Hid (∀ V, Nw w2 V → Calls Tryz.prog 9 #[.pointer (some ⟨b, 0, none⟩), .agg #[.slice p zl c, .int .i64 0]] V fun e w' => e = .returned (sen (a 1)) ∧ Nw V w') := fun V nV => by
      have q := srestart_bad (LT2.out.1.nw nV).2.2.2.blk p c zs 0 (HZ.out.1.nw (N2.out.tr nV)) (by rw [← HZL.out]; exact hzl) HOK.out (GD.out.nw (N2.out.tr nV)).s
      rw [← HZL.out] at q
      exact q
    go_wp2_with fail
    refine (QR.out _ (by repeat first | with_reducible exact Fr.refl _ w2 | with_reducible refine Fr.alloc ?_ _ | with_reducible refine Fr.drew ?_ | (with_reducible refine Fr.setCell ?_ _ _ (fun h => ?_); rotate_left; focus (simp only at h; omega)))).mono ?_
    rintro e w3 ⟨rfl, n3⟩
    have N3 : Hid (Nw w0 w3) := Nw.tr (by repeat first | with_reducible exact N2.out | with_reducible refine Fr.alloc ?_ _ | with_reducible refine Fr.drew ?_ | (with_reducible refine Fr.setCell ?_ _ _ (fun h => ?_); rotate_left; focus (simp only at h; omega))) n3
    have q9 := lives14_any (GD.out.nw N3.out)
    clear n3
    go_wp2_with fail
    refine q9.mono ?_
    rintro e w4 ⟨rfl, n4⟩
    have N4 : Hid (Nw w0 w4) := N3.out.tr n4
    clear n4 q9
    go_wp2
    go_ret
    exact ⟨rfl, N4.out⟩
  | true =>
    have HOK : Hid (okR 0 zs = true) := hok
    clear hok
    have QR : Hid (∀ V, Nw w2 V → Calls Tryz.prog 9 #[.pointer (some ⟨b, 0, none⟩), .agg #[.slice p zl c, .int .i64 0]] V fun e w' => ∃ g', e = .returned .nilIface ∧ V.heap.size ≤ g' ∧ g' < w'.heap.size ∧ Sr w' b bm T M (some ⟨g', 0, none⟩) zl zs 0 0 0 false ∧ Fr (fun k => k = b) V w') := fun V nV => by
      have q := (LT2.out.1.nw nV).restart p c zs (HZ.out.1.nw (N2.out.tr nV)) (by rw [← HZL.out]; exact hzl) HOK.out
      rw [← HZL.out] at q
      exact q
    go_wp2_with fail
    refine (QR.out _ (by repeat first | with_reducible exact Fr.refl _ w2 | with_reducible refine Fr.alloc ?_ _ | with_reducible refine Fr.drew ?_ | (with_reducible refine Fr.setCell ?_ _ _ (fun h => ?_); rotate_left; focus (simp only at h; omega)))).mono ?_
    rintro e w3 ⟨g', rfl, hg1, hg2, s3, f3⟩
    have hs1 := N1.out.size
    have hs2 := N2.out.size
    have LB : Hid (w1.heap.size ≤ b ∧ w1.heap.size ≤ bm ∧ w2.heap.size ≤ g' ∧ g' < w3.heap.size) := ⟨LT2.out.1.1, LT2.out.1.2.1, by simp at hg1; omega, hg2⟩
    have S3 : Hid (Sr w3 b bm T M (some ⟨g', 0, none⟩) zl zs 0 0 0 false) := s3
    have F23 : Hid (Fr (fun k => k = b) w2 w3) := Fr.trans (S' := fun k => k = b) (Fr.mono (S := fun _ => False) (by repeat first | with_reducible exact Fr.refl _ w2 | with_reducible refine Fr.alloc ?_ _ | with_reducible refine Fr.drew ?_ | (with_reducible refine Fr.setCell ?_ _ _ (fun h => ?_); rotate_left; focus (simp only at h; omega))) (fun _ _ f => f.elim)) f3 (fun _ _ q => q)
    have N3 : Hid (Nw w0 w3) := N2.out.trans F23.out (fun k hk q => by have := LB.out; omega)
    have O3 : Hid (w3.ownsRow w0.heap.size 42 32 (.slice va n vc) n (hsc (lh n))) := ownsRow_keep O2.out (fun k hk => F23.out.block k (O2.out.lt k hk).2 (fun q => by have := OLT.out k hk; have := LB.out; omega))
    clear hg1 hg2 s3 f3
    by_cases hcap : y < 0 ∨ 1024 < y
    · have q5 := rnew_arg S3.out.blk y hcap (GD.out.nw N3.out).s
      go_wp2_with fail
      refine q5.mono ?_
      rintro e w4 ⟨rfl, n4⟩
      have N4 : Hid (Nw w0 w4) := N3.out.tr n4
      have q6 := is_senJ (GD.out.nw N4.out).s 1 (by decide) (c := 2) (by decide)
      clear n4 q5
      go_wp2_with fail
      refine q6.mono ?_
      rintro e w5 ⟨rfl, n5⟩
      have N5 : Hid (Nw w0 w5) := N4.out.tr n5
      have q7 := lives14_any (GD.out.nw N5.out)
      clear n5 q6
      rcases hcap with hc | hc
      · have a1 : decide (y < 0) = true := decide_eq_true hc
        go_wp2_with fail
        refine q7.mono ?_
        rintro e w6 ⟨rfl, n6⟩
        have N6 : Hid (Nw w0 w6) := N5.out.tr n6
        clear n6 q7
        go_wp2
        go_ret
        exact ⟨rfl, N6.out⟩
      · have a1 : decide (y < 0) = false := decide_eq_false (by omega)
        have a2 : decide (1024 < y) = true := decide_eq_true hc
        go_wp2_with fail
        refine q7.mono ?_
        rintro e w6 ⟨rfl, n6⟩
        have N6 : Hid (Nw w0 w6) := N5.out.tr n6
        clear n6 q7
        go_wp2
        go_ret
        exact ⟨rfl, N6.out⟩
    · obtain ⟨cp, rfl⟩ : ∃ cp : Nat, y = (cp : Int) := ⟨y.toNat, by omega⟩
      have hcpb : cp ≤ 1024 := by omega
      have q6 := RS.made (K := 0) (B := w0.heap.size) S3.out LT2.out.2 L32.out LB.out.2.2.2 ⟨by have := LB.out; omega, by have := LB.out; omega, by have := LB.out; omega⟩ HOK.out (by rw [← HZL.out]; exact hzl) ⟨Int.le_refl _, Int.le_refl _⟩ cp hcpb (GD.out.nw N3.out).s
      clear hcap
      go_wp2_with fail
      refine q6.mono ?_
      rintro e w5 ⟨s, rfl, A5, hsb, hbm, hzs, hcap, hrn, hx, hy, hM, hL, htg, n5⟩
      have HA5 : Hid (s.At (lh n) w0.heap.size 0 w5) := A5
      have HF5 : Hid (s.sb = b ∧ s.zs = zs) := ⟨hsb, hzs⟩
      have N5 : Hid (Nw w0 w5) := N3.out.tr n5
      have O5 : Hid (w5.ownsRow w0.heap.size 42 32 (.slice va n vc) n (hsc (lh n))) := ownsRow_keep O3.out (fun k hk => n5.block k (O3.out.lt k hk).2 (fun f => f))
      have TG5 : Hid (∀ k, (Value.slice va n vc).ownBlock = some k → s.tg k = 9) := fun k hk => by
        have h1 := O3.out.lt k hk
        have h2 := LB.out
        have h3 := OLT.out k hk
        exact htg k h1.2 (by omega) (by omega) (by have := HS12.out; omega)
      obtain ⟨rb, hrb⟩ : ∃ x, x = s.rb := ⟨_, rfl⟩
      have HRB : Hid (s.rb = rb) := hrb.symm
      rw [← hrb]
      clear q6 hsb hbm hzs hcap hrn hx hy hM hL htg n5 A5 hrb
      go_wp2_with fail
      go_loopw [15] (fun v wr => ∃ (i : Nat) (s' : RS), i ≤ 40 ∧ v = .int .i64 i ∧ s'.At (lh n) w0.heap.size i wr ∧ s'.rb = rb ∧ s'.sb = b ∧ s'.zs = zs ∧ (∀ k, (Value.slice va n vc).ownBlock = some k → s'.tg k = 9) ∧ wr.ownsRow w0.heap.size 42 32 (.slice va n vc) n (hsc (lh n)) ∧ Nw w0 wr) (fun v _ => 41 - (intOf v).toNat)
      case atStart => exact ⟨0, s, by omega, rfl, HA5.out, HRB.out, HF5.out.1, HF5.out.2, TG5.out, O5.out, N5.out⟩
      case round =>
        clear HA5 HF5 TG5 O5 N5 HRB
        obtain ⟨i, s', hi, rfl, hA, h1, h2, h3, h10, ho, hnw⟩ := hrel
        have HA : Hid (s'.At (lh n) w0.heap.size i wr) := hA
        have HF : Hid (s'.rb = rb ∧ s'.sb = b ∧ s'.zs = zs) := ⟨h1, h2, h3⟩
        have HT : Hid (∀ k, (Value.slice va n vc).ownBlock = some k → s'.tg k = 9) := h10
        have HO : Hid (wr.ownsRow w0.heap.size 42 32 (.slice va n vc) n (hsc (lh n))) := ho
        have HN : Hid (Nw w0 wr) := hnw
        clear hA h1 h2 h3 h10 ho hnw
        obtain ⟨cb, hcb⟩ : ∃ cb, cb = decide (i < ql ∧ i < 40) := ⟨_, rfl⟩
        have HCB : Hid (cb = decide (i < ql ∧ i < 40)) := hcb
        clear hcb
        go_upto_region 13 with fail
        go_cut [69] (fun v wx => v = .bool cb ∧ wr = wx)
        case first =>
          by_cases h1 : i < ql
          · have a1 : decide ((i : Int) < (ql : Int)) = true := decide_eq_true (by omega)
            by_cases h2 : i < 40
            · have a2 : decide ((i : Int) < 40) = true := decide_eq_true (by omega)
              have e : cb = true := by rw [HCB.out]; exact decide_eq_true ⟨h1, h2⟩
              go_wp2
              go_meet
              exact ⟨by rw [e], rfl⟩
            · have a2 : decide ((i : Int) < 40) = false := decide_eq_false (by omega)
              have e : cb = false := by rw [HCB.out]; exact decide_eq_false (by omega)
              go_wp2
              go_meet
              exact ⟨by rw [e], rfl⟩
          · have a1 : decide ((i : Int) < (ql : Int)) = false := decide_eq_false (by omega)
            have e : cb = false := by rw [HCB.out]; exact decide_eq_false (by omega)
            go_wp2
            go_meet
            exact ⟨by rw [e], rfl⟩
        case rest =>
        obtain ⟨rfl, rfl⟩ := hcut
        cases cb with
        | false =>
          have q9 := lives14_any (GD.out.nw HN.out)
          go_wp2_with fail
          refine q9.mono ?_
          rintro e w6 ⟨rfl, n6⟩
          have N6 : Hid (Nw w0 w6) := HN.out.tr n6
          clear n6 q9
          go_wp2
          go_ret
          exact ⟨rfl, N6.out⟩
        | true =>
          obtain ⟨hiq, hi40⟩ := of_decide_eq_true HCB.out.symm
          obtain ⟨gt, ot, hpt, t0, t1⟩ := HQ.out.1 i (by rw [← HQL.out]; exact hiq)
          have hQb := HQ.out.2 (Q.getD i (0, 0)) (by
            rw [List.getD_eq_getElem?_getD, List.getElem?_eq_getElem (by rw [← HQL.out]; exact hiq)]
            exact List.getElem_mem _)
          obtain ⟨L, hLe⟩ : ∃ L, L = (Q.getD i (0, 0)).1 := ⟨_, rfl⟩
          obtain ⟨I, hIe⟩ : ∃ I, I = (Q.getD i (0, 0)).2 := ⟨_, rfl⟩
          rw [← hLe] at t0 hQb
          rw [← hIe] at t1 hQb
          obtain ⟨hL, hI⟩ := hQb
          have HC : Hid (∀ V, Nw w0 V → V.cell? ⟨gt, ot + i * 2, none⟩ = some (.int .u8 (L : Int)) ∧ V.cell? ⟨gt, ot + i * 2 + 1, none⟩ = some (.int .u64 (I : Int)) ∧ gt < V.heap.size) := fun V nV => ⟨nV.cellOf t0, nV.cellOf t1, World.block_lt_of_cell? V _ (nV.cellOf t0)⟩
          subst hpt
          have hiqi : (i : Int) < (ql : Int) := by omega
          obtain ⟨rn, hrn⟩ : ∃ x, x = s'.rn := ⟨_, rfl⟩
          have HRN : Hid (s'.rn = rn) := hrn.symm
          have hrnb : 0 ≤ rn ∧ rn ≤ 40 := by have := HA.out.rn0; omega
          have qs := scounts_any HA.out.rm.st.blk
          rw [HF.out.2.1, ← hrn] at qs
          clear t0 t1 hLe hIe hrn
          go_wp2_with fail
          refine qs.mono ?_
          rintro e w6 ⟨rfl, n6⟩
          have A6 : Hid (s'.At (lh n) w0.heap.size i w6) := HA.out.nw n6
          have N6 : Hid (Nw w0 w6) := HN.out.tr n6
          have O6 : Hid (w6.ownsRow w0.heap.size 42 32 (.slice va n vc) n (hsc (lh n))) := ownsRow_keep HO.out (fun k hk => n6.block k (HO.out.lt k hk).2 (fun f => f))
          obtain ⟨c0, c1, lgt⟩ := HC.out w6 N6.out
          clear qs n6
          by_cases hin : inLog L I n
          · have HIN : Hid (inLog L I n) := hin
            obtain ⟨fl, rn', hr, qn⟩ := RS.node_in A6.out (L := L) (I := I) (by rw [LL.out]; omega) (by rw [LL.out]; exact hin) (by omega) (GD.out.fr N6.out (fun _ q => q.elim))
            rw [HF.out.1, LL.out] at qn
            rw [HRN.out, HF.out.2.2] at hr
            have HR : Hid (rn' = rn ∧ fl = false ∨ rn' = rn + 1 ∧ fl = decide (rn + 1 ∈ zs)) := hr
            have hrb : rn ≤ rn' ∧ rn' ≤ rn + 1 := by omega
            have HFQ : Hid (fq zs rn rn' zs.length = fl) := fq_all hr
            have qsp := fun V => span_yes L I hin.1 V
            have h10 := inLog_ten hin (by omega)
            have hpos : 0 < 2 ^ L := Nat.pow_pos (by decide)
            obtain ⟨D0, hD0⟩ : ∃ E, E = 2 ^ L := ⟨_, rfl⟩
            obtain ⟨E0, hE0⟩ : ∃ E, E = (I + 1) * 2 ^ L := ⟨_, rfl⟩
            obtain ⟨B0, hB0⟩ : ∃ E, E = I * 2 ^ L := ⟨_, rfl⟩
            have hsum : E0 = B0 + D0 := by rw [hE0, hB0, hD0, Nat.succ_mul]
            have HED : Hid (E0 = (I + 1) * 2 ^ L ∧ B0 = I * 2 ^ L ∧ D0 = 2 ^ L ∧ E0 = B0 + D0 ∧ 0 < D0) := ⟨hE0, hB0, hD0, hsum, by rw [hD0]; exact hpos⟩
            have hend : ¬ n < E0 := by rw [hE0]; have := hin.2; omega
            rw [← hE0, ← hB0] at qsp
            obtain ⟨R, hR⟩ : ∃ R, R = ovr L (((lh n).drop (I * 2 ^ L)).take (2 ^ L)) := ⟨_, rfl⟩
            rw [← hR] at qn
            have HRR : Hid (R = ovr L (((lh n).drop (I * 2 ^ L)).take (2 ^ L)) ∧ R.length = 32) := ⟨hR, by rw [hR]; exact ovr_32 _ _ (fun x hx => L32.out x (List.mem_of_mem_drop (List.mem_of_mem_take hx)))⟩
            clear hin hr hpos hD0 hE0 hB0 hsum hR
            cases fl with
            | false =>
              simp only [Bool.false_eq_true, if_false] at qn
              have hHs : (hbs R).size = 32 := by rw [hbs_size]; exact HRR.out.2
              have hH32 : R.length = 32 := HRR.out.2
              go_wp2_with fail
              refine qn.mono ?_
              rintro e w7 ⟨s2, rfl, a7, le7, r7, f7⟩
              have A7 : Hid (s2.At (lh n) w0.heap.size (i + 1) w7) := a7
              have R7 : Hid (s2.rb = rb ∧ s2.sb = b ∧ s2.zs = zs ∧ s2.rn = rn') := ⟨le7.rb.trans HF.out.1, le7.sb.trans HF.out.2.1, le7.zs.trans HF.out.2.2, r7⟩
              have T7 : Hid (∀ k, (Value.slice va n vc).ownBlock = some k → s2.tg k = 9) := fun j hj => (le7.tg j (O6.out.lt j hj).2).trans (HT.out j hj)
              have O7 : Hid (w7.ownsRow w0.heap.size 42 32 (.slice va n vc) n (hsc (lh n))) := ownsRow_keep O6.out (fun j hj => f7.block j (O6.out.lt j hj).2 (fun q => by have := HT.out j hj; unfold RS.Ff at q; omega))
              have N7 : Hid (Nw w0 w7) := N6.out.trans f7 (fun j hj q => by have := A6.out.bt j q; omega)
              clear qn a7 le7 r7 f7 c0 c1
              go_wp2_with (refine wp_store_agg rfl (.tmp 18) (.tmp 86) 42 32 rfl Tryz.sizeOf42 w7.heap.size 0 rfl _ 42 (heap_new _ _) (hbs R) rfl hHs (hbs_one _) (by decide) (hbs R) (by simp) ?_; intro w8 j8 f8 zz; clear zz; have N78 : Hid (Nw w7 w8) := (Fr.alloc (Fr.refl _ w7) _).trans f8 (fun k hk q => by omega); have J8 : Hid (w8.heap[w7.heap.size]? = some (.cells (hbs R) 42 (0, 0))) := j8; clear j8 f8)
              obtain ⟨hb, hhb⟩ : ∃ x, x = w7.heap.size := ⟨_, rfl⟩
              rw [← hhb] at J8 ⊢
              clear hhb
              have A8 : Hid (s2.At (lh n) w0.heap.size (i + 1) w8) := A7.out.nw N78.out
              have qs2 := scounts_any A8.out.rm.st.blk
              rw [R7.out.2.1, R7.out.2.2.2] at qs2
              refine qs2.mono ?_
              rintro e w9 ⟨rfl, n9⟩
              have N9 : Hid (Nw w7 w9) := N78.out.tr n9
              have J9 : Hid (w9.heap[hb]? = some (.cells (hbs R) 42 (0, 0))) := (n9.block _ (heap_lt J8.out) (fun f => f)).trans J8.out
              obtain ⟨c0, c1, lgt9⟩ := HC.out w9 (N7.out.tr N9.out)
              clear qs2 n9
              go_wp2_with fail
              refine (qsp _).mono ?_
              rintro e wa ⟨rfl, na⟩
              have NA : Hid (Nw w7 wa) := N9.out.tr na
              have JA : Hid (wa.heap[hb]? = some (.cells (hbs R) 42 (0, 0))) := (na.block _ (heap_lt J9.out) (fun f => f)).trans J9.out
              have NWA : Hid (Nw w0 wa) := N7.out.tr NA.out
              clear na c0 c1 qsp
              go_wp2_with fail
              refine gen_w (fun V => Nw wa V ∧ V.heap[wa.heap.size]? = some (.cells #[.int .u64 (B0 : Int), .int .u64 (E0 : Int)] 49)) ⟨(by repeat first | with_reducible exact Fr.refl _ wa | with_reducible refine Fr.alloc ?_ _ | with_reducible refine Fr.drew ?_ | (with_reducible refine Fr.setCell ?_ _ _ (fun h => ?_); rotate_left; focus (simp only at h; omega))), heap_new _ _⟩ ?_
              rintro wv ⟨nv, bv⟩
              have NV : Hid (Nw wa wv) := nv
              have BV : Hid (wv.heap[wa.heap.size]? = some (.cells #[.int .u64 (B0 : Int), .int .u64 (E0 : Int)] 49)) := bv
              obtain ⟨sb, hsb⟩ : ∃ x, x = wa.heap.size := ⟨_, rfl⟩
              rw [← hsb] at BV ⊢
              have JV : Hid (wv.heap[hb]? = some (.cells (hbs R) 42 (0, 0))) := (nv.block _ (heap_lt JA.out) (fun f => f)).trans JA.out
              have NWV : Hid (Nw w7 wv) := NA.out.tr nv
              have HZV : Hid (Iz wv p zs) := HZ.out.1.nw (N7.out.tr NWV.out)
              clear nv bv hsb
              go_loopw [24, 25] (fun u v wr => ∃ k : Nat, k ≤ zl ∧ v = .int .i64 k ∧ u = .bool (fq zs rn rn' k) ∧ wr = wv) (fun _ v _ => zl - (intOf v).toNat)
              case atStart => exact ⟨0, by omega, rfl, by rw [fq_zero], rfl⟩
              case round =>
                obtain ⟨k, hk, rfl, rfl, rfl⟩ := hrel
                by_cases hkz : k < zl
                · have hki : (k : Int) < (zl : Int) := by omega
                  have FS : Hid (fq zs rn rn' (k + 1) = (fq zs rn rn' k || (decide (rn < zs.getD k 0) && decide (zs.getD k 0 ≤ rn')))) := fq_succ zs rn rn' k (by rw [← HZL.out]; exact hkz)
                  obtain ⟨gz, oz, hpz, cz⟩ := HZV.out k (by rw [← HZL.out]; exact hkz)
                  subst hpz
                  obtain ⟨z, hz⟩ : ∃ z, z = zs.getD k 0 := ⟨_, rfl⟩
                  rw [← hz] at FS cz
                  have lgz := World.block_lt_of_cell? _ _ cz
                  have hzb := HZ.out.2 k
                  rw [← hz] at hzb
                  clear hz
                  obtain ⟨fb, hfb⟩ : ∃ fb, fb = fq zs rn rn' k := ⟨_, rfl⟩
                  rw [← hfb] at FS ⊢
                  clear hfb
                  cases fb with
                  | true =>
                    go_wp2
                    exact ⟨⟨k + 1, by omega, by go_num, by rw [FS.out]; simp, by first | rfl | trivial⟩, by simp [intOf]; omega⟩
                  | false =>
                    by_cases z1 : rn < z
                    · have a1 : decide (rn < z) = true := decide_eq_true z1
                      by_cases z2 : z ≤ rn'
                      · have a2 : decide (z ≤ rn') = true := decide_eq_true z2
                        go_wp2
                        exact ⟨⟨k + 1, by omega, by go_num, by rw [FS.out, a1, a2]; rfl, by first | rfl | trivial⟩, by simp [intOf]; omega⟩
                      · have a2 : decide (z ≤ rn') = false := decide_eq_false z2
                        go_wp2
                        exact ⟨⟨k + 1, by omega, by go_num, by rw [FS.out, a1, a2]; rfl, by first | rfl | trivial⟩, by simp [intOf]; omega⟩
                    · have a1 : decide (rn < z) = false := decide_eq_false z1
                      go_wp2
                      exact ⟨⟨k + 1, by omega, by go_num, by rw [FS.out, a1]; rfl, by first | rfl | trivial⟩, by simp [intOf]; omega⟩
                · obtain rfl : k = zl := by omega
                  have hki : ¬ (k : Int) < (k : Int) := by omega
                  have efl : fq zs rn rn' k = false := by rw [HZL.out]; exact HFQ.out
                  rw [efl]
                  clear efl
                  have hwr : IntKind.i64.wrap (rn + 1) = rn + 1 := by rw [IntKind.wrap_i64]; omega
                  have hcmp : decide (rn + 1 < rn') = false := decide_eq_false (by omega)
                  have OV := ownsRow_keep O7.out (fun j hj => NWV.out.block j (O7.out.lt j hj).2 (fun f => f))
                  obtain ⟨g0, capv, hva, hcap, hcm⟩ := own_some OV (by have := HED.out; omega)
                  simp only [Value.slice.injEq, true_and] at hva
                  obtain ⟨rfl, rfl⟩ := hva
                  have hn0 : n ≤ vc := hcap
                  have hcut := fun V => cut_hlhU g0 0 n vc B0 E0 (by have := HED.out; omega) (by omega) V
                  rw [Nat.zero_add, show E0 - B0 = D0 by have := HED.out; omega] at hcut
                  have QTR : Hid (∀ V, Nw wr V → Calls Tryz.prog 16 #[.slice (some ⟨g0, B0 * 32, none⟩) D0 (vc - B0)] V fun e w' => e = .returned (.agg (hbs R)) ∧ Nw V w') := fun V nV => by
                    have q := tree_cut L32.out LL.out (ownsRow_keep OV (fun j hj => nV.block j (OV.lt j hj).2 (fun f => f))) hn0 h10 HIN.out.2 (GD.out.nw (N7.out.tr (NWV.out.tr nV))).l
                    rw [← HRR.out.1, ← HED.out.2.1, ← HED.out.2.2.1] at q
                    exact q
                  have k0 : wr.cell? ⟨sb, 0, none⟩ = some (.int .u64 (B0 : Int)) := (cell_of BV.out 0).trans rfl
                  have k1 : wr.cell? ⟨sb, 1, none⟩ = some (.int .u64 (E0 : Int)) := (cell_of BV.out 1).trans rfl
                  have HCU := show Hid _ from hcut
                  clear OV hcap hcm hcut
                  go_wp2_with fail
                  (refine wp_region_grown (by kernel_rfl) (by kernel_rfl) ?_; (repeat (first | go_big_quiet_skip | (go_big_quiet_want; first | (refine quiet_load (.tmp 18) rfl hb 0 rfl R hH32 (hash_cells JV.out) ?_; ((try simp only [Act.put, List.setIfInBounds_toArray, List.set_cons_zero, List.set_cons_succ]); go_big_quiet_on)) | (refine quiet_cellJ (.tmp 171) rfl sb 0 rfl Tryz.isAgg45 (.int .u64 (B0 : Int)) k0 ?_; ((try simp only [Act.put, List.setIfInBounds_toArray, List.set_cons_zero, List.set_cons_succ]); go_big_quiet_on)) | (refine quiet_cellJ (.tmp 173) rfl sb 1 rfl Tryz.isAgg45 (.int .u64 (E0 : Int)) k1 ?_; ((try simp only [Act.put, List.setIfInBounds_toArray, List.set_cons_zero, List.set_cons_succ]); go_big_quiet_on)) | (refine quiet_cutJ (.tmp 170) (.tmp 172) (.tmp 174) rfl _ _ _ (.slice (some ⟨g0, B0 * 32, none⟩) D0 (vc - B0)) rfl rfl rfl HCU.out ?_; ((try simp only [Act.put, List.setIfInBounds_toArray, List.set_cons_zero, List.set_cons_succ]); go_big_quiet_on)) | (refine quiet_neq (.tmp 169) (.tmp 176) rfl R hH32 rfl rfl ?_; ((try simp only [Act.put, List.setIfInBounds_toArray, List.set_cons_zero, List.set_cons_succ]); go_big_quiet_on)) | (go_big_quiet_op; first | go_big_quiet_on | go_big_quiet_call (first | rfl | with_reducible exact grw_call QTR.out (Fr.refl _ wr) _))))); refine wpQuiet_nil ?_; rintro W ⟨⟨_, nW⟩, rfl⟩)
                  have OW : Hid (W.ownsRow w0.heap.size 42 32 _ n (hsc (lh n))) := ownsRow_keep O7.out (fun j hj => (NWV.out.tr nW).block j (O7.out.lt j hj).2 (fun f => f))
                  have AW : Hid (s2.At (lh n) w0.heap.size (i + 1) W) := A7.out.nw (NWV.out.tr nW)
                  have NWW : Hid (Nw w0 W) := N7.out.tr (NWV.out.tr nW)
                  clear nW
                  go_wp2
                  exact ⟨⟨i + 1, s2, by omega, by go_num, AW.out, R7.out.1, R7.out.2.1, R7.out.2.2.1, T7.out, OW.out, NWW.out⟩, by simp [intOf]; omega⟩
            | true =>
              simp only [if_true] at qn
              have hHs : (hbs zh).size = 32 := by rw [hbs_size]; exact rfl
              have hH32 : zh.length = 32 := rfl
              go_wp2_with fail
              refine qn.mono ?_
              rintro e w7 ⟨s2, rfl, a7, le7, r7, f7⟩
              have A7 : Hid (s2.At (lh n) w0.heap.size (i + 1) w7) := a7
              have R7 : Hid (s2.rb = rb ∧ s2.sb = b ∧ s2.zs = zs ∧ s2.rn = rn') := ⟨le7.rb.trans HF.out.1, le7.sb.trans HF.out.2.1, le7.zs.trans HF.out.2.2, r7⟩
              have T7 : Hid (∀ k, (Value.slice va n vc).ownBlock = some k → s2.tg k = 9) := fun j hj => (le7.tg j (O6.out.lt j hj).2).trans (HT.out j hj)
              have O7 : Hid (w7.ownsRow w0.heap.size 42 32 (.slice va n vc) n (hsc (lh n))) := ownsRow_keep O6.out (fun j hj => f7.block j (O6.out.lt j hj).2 (fun q => by have := HT.out j hj; unfold RS.Ff at q; omega))
              have N7 : Hid (Nw w0 w7) := N6.out.trans f7 (fun j hj q => by have := A6.out.bt j q; omega)
              clear qn a7 le7 r7 f7 c0 c1
              go_wp2_with (refine wp_store_agg rfl (.tmp 18) (.tmp 86) 42 32 rfl Tryz.sizeOf42 w7.heap.size 0 rfl _ 42 (heap_new _ _) (hbs zh) rfl hHs (hbs_one _) (by decide) (hbs zh) (by simp) ?_; intro w8 j8 f8 zz; clear zz; have N78 : Hid (Nw w7 w8) := (Fr.alloc (Fr.refl _ w7) _).trans f8 (fun k hk q => by omega); have J8 : Hid (w8.heap[w7.heap.size]? = some (.cells (hbs zh) 42 (0, 0))) := j8; clear j8 f8)
              obtain ⟨hb, hhb⟩ : ∃ x, x = w7.heap.size := ⟨_, rfl⟩
              rw [← hhb] at J8 ⊢
              clear hhb
              have A8 : Hid (s2.At (lh n) w0.heap.size (i + 1) w8) := A7.out.nw N78.out
              have qs2 := scounts_any A8.out.rm.st.blk
              rw [R7.out.2.1, R7.out.2.2.2] at qs2
              refine qs2.mono ?_
              rintro e w9 ⟨rfl, n9⟩
              have N9 : Hid (Nw w7 w9) := N78.out.tr n9
              have J9 : Hid (w9.heap[hb]? = some (.cells (hbs zh) 42 (0, 0))) := (n9.block _ (heap_lt J8.out) (fun f => f)).trans J8.out
              obtain ⟨c0, c1, lgt9⟩ := HC.out w9 (N7.out.tr N9.out)
              clear qs2 n9
              go_wp2_with fail
              refine (qsp _).mono ?_
              rintro e wa ⟨rfl, na⟩
              have NA : Hid (Nw w7 wa) := N9.out.tr na
              have JA : Hid (wa.heap[hb]? = some (.cells (hbs zh) 42 (0, 0))) := (na.block _ (heap_lt J9.out) (fun f => f)).trans J9.out
              have NWA : Hid (Nw w0 wa) := N7.out.tr NA.out
              clear na c0 c1 qsp
              go_wp2_with fail
              refine gen_w (fun V => Nw wa V ∧ V.heap[wa.heap.size]? = some (.cells #[.int .u64 (B0 : Int), .int .u64 (E0 : Int)] 49)) ⟨(by repeat first | with_reducible exact Fr.refl _ wa | with_reducible refine Fr.alloc ?_ _ | with_reducible refine Fr.drew ?_ | (with_reducible refine Fr.setCell ?_ _ _ (fun h => ?_); rotate_left; focus (simp only at h; omega))), heap_new _ _⟩ ?_
              rintro wv ⟨nv, bv⟩
              have NV : Hid (Nw wa wv) := nv
              have BV : Hid (wv.heap[wa.heap.size]? = some (.cells #[.int .u64 (B0 : Int), .int .u64 (E0 : Int)] 49)) := bv
              obtain ⟨sb, hsb⟩ : ∃ x, x = wa.heap.size := ⟨_, rfl⟩
              rw [← hsb] at BV ⊢
              have JV : Hid (wv.heap[hb]? = some (.cells (hbs zh) 42 (0, 0))) := (nv.block _ (heap_lt JA.out) (fun f => f)).trans JA.out
              have NWV : Hid (Nw w7 wv) := NA.out.tr nv
              have HZV : Hid (Iz wv p zs) := HZ.out.1.nw (N7.out.tr NWV.out)
              clear nv bv hsb
              go_loopw [24, 25] (fun u v wr => ∃ k : Nat, k ≤ zl ∧ v = .int .i64 k ∧ u = .bool (fq zs rn rn' k) ∧ wr = wv) (fun _ v _ => zl - (intOf v).toNat)
              case atStart => exact ⟨0, by omega, rfl, by rw [fq_zero], rfl⟩
              case round =>
                obtain ⟨k, hk, rfl, rfl, rfl⟩ := hrel
                by_cases hkz : k < zl
                · have hki : (k : Int) < (zl : Int) := by omega
                  have FS : Hid (fq zs rn rn' (k + 1) = (fq zs rn rn' k || (decide (rn < zs.getD k 0) && decide (zs.getD k 0 ≤ rn')))) := fq_succ zs rn rn' k (by rw [← HZL.out]; exact hkz)
                  obtain ⟨gz, oz, hpz, cz⟩ := HZV.out k (by rw [← HZL.out]; exact hkz)
                  subst hpz
                  obtain ⟨z, hz⟩ : ∃ z, z = zs.getD k 0 := ⟨_, rfl⟩
                  rw [← hz] at FS cz
                  have lgz := World.block_lt_of_cell? _ _ cz
                  have hzb := HZ.out.2 k
                  rw [← hz] at hzb
                  clear hz
                  obtain ⟨fb, hfb⟩ : ∃ fb, fb = fq zs rn rn' k := ⟨_, rfl⟩
                  rw [← hfb] at FS ⊢
                  clear hfb
                  cases fb with
                  | true =>
                    go_wp2
                    exact ⟨⟨k + 1, by omega, by go_num, by rw [FS.out]; simp, by first | rfl | trivial⟩, by simp [intOf]; omega⟩
                  | false =>
                    by_cases z1 : rn < z
                    · have a1 : decide (rn < z) = true := decide_eq_true z1
                      by_cases z2 : z ≤ rn'
                      · have a2 : decide (z ≤ rn') = true := decide_eq_true z2
                        go_wp2
                        exact ⟨⟨k + 1, by omega, by go_num, by rw [FS.out, a1, a2]; rfl, by first | rfl | trivial⟩, by simp [intOf]; omega⟩
                      · have a2 : decide (z ≤ rn') = false := decide_eq_false z2
                        go_wp2
                        exact ⟨⟨k + 1, by omega, by go_num, by rw [FS.out, a1, a2]; rfl, by first | rfl | trivial⟩, by simp [intOf]; omega⟩
                    · have a1 : decide (rn < z) = false := decide_eq_false z1
                      go_wp2
                      exact ⟨⟨k + 1, by omega, by go_num, by rw [FS.out, a1]; rfl, by first | rfl | trivial⟩, by simp [intOf]; omega⟩
                · obtain rfl : k = zl := by omega
                  have hki : ¬ (k : Int) < (k : Int) := by omega
                  have efl : fq zs rn rn' k = true := by rw [HZL.out]; exact HFQ.out
                  rw [efl]
                  clear efl
                  have hwr : IntKind.i64.wrap (rn + 1) = rn + 1 := by rw [IntKind.wrap_i64]; omega
                  have hcmp : decide (rn + 1 < rn') = false := decide_eq_false (by omega)
                  have QI : Hid (∀ V, Nw wr V → Calls Tryz.prog 12 #[sen (a 6), .int .i64 7] V fun e w' => e = .returned (.bool true) ∧ Nw V w') := fun V nV => is_senJ (GD.out.nw (N7.out.tr (NWV.out.tr nV))).s 6 (by decide) (by decide)
                  go_wp2_with fail
                  (refine wp_region_grown (by kernel_rfl) (by kernel_rfl) ?_; (repeat (first | go_big_quiet_skip | (go_big_quiet_want; first | (go_big_quiet_op; first | go_big_quiet_on | go_big_quiet_call (first | rfl | with_reducible exact grw_call QI.out (Fr.refl _ wr) _))))); refine wpQuiet_nil ?_; rintro W ⟨⟨_, nW⟩, rfl⟩)
                  have OW : Hid (W.ownsRow w0.heap.size 42 32 _ n (hsc (lh n))) := ownsRow_keep O7.out (fun j hj => (NWV.out.tr nW).block j (O7.out.lt j hj).2 (fun f => f))
                  have AW : Hid (s2.At (lh n) w0.heap.size (i + 1) W) := A7.out.nw (NWV.out.tr nW)
                  have NWW : Hid (Nw w0 W) := N7.out.tr (NWV.out.tr nW)
                  clear nW
                  go_wp2
                  exact ⟨⟨i + 1, s2, by omega, by go_num, AW.out, R7.out.1, R7.out.2.1, R7.out.2.2.1, T7.out, OW.out, NWW.out⟩, by simp [intOf]; omega⟩
          · have HIN : Hid (¬ inLog L I n) := hin
            have qn := RS.node_out A6.out hL hI (by rw [LL.out]; omega) (by rw [LL.out]; exact hin) (GD.out.nw N6.out).s
            rw [HF.out.1, LL.out] at qn
            clear hin
            go_wp2_with fail
            refine qn.mono ?_
            rintro e w7 ⟨rfl, n7⟩
            have A7 : Hid (s'.At (lh n) w0.heap.size i w7) := A6.out.nw n7
            have N7 : Hid (Nw w6 w7) := n7
            have hzs0 : (hbs zh).size = 32 := by rw [hbs_size]; rfl
            clear qn n7 c0 c1
            go_wp2_with (refine wp_store_agg rfl (.tmp 18) (.tmp 86) 42 32 rfl Tryz.sizeOf42 w7.heap.size 0 rfl _ 42 (heap_new _ _) (hbs zh) rfl hzs0 (hbs_one _) (by decide) (hbs zh) (by simp) ?_; intro w8 j8 f8 zz; clear zz; have N78 : Hid (Nw w7 w8) := (Fr.alloc (Fr.refl _ w7) _).trans f8 (fun k hk q => by omega); have J8 : Hid (w8.heap[w7.heap.size]? = some (.cells (hbs zh) 42 (0, 0))) := j8; clear j8 f8)
            obtain ⟨hb, hhb⟩ : ∃ x, x = w7.heap.size := ⟨_, rfl⟩
            rw [← hhb] at J8 ⊢
            clear hhb
            have A8 : Hid (s'.At (lh n) w0.heap.size i w8) := A7.out.nw N78.out
            have N8 : Hid (Nw w6 w8) := N7.out.tr N78.out
            have qs2 := scounts_any A8.out.rm.st.blk
            rw [HF.out.2.1, HRN.out] at qs2
            refine qs2.mono ?_
            rintro e w9 ⟨rfl, n9⟩
            have N9 : Hid (Nw w6 w9) := N8.out.tr n9
            have A9 : Hid (s'.At (lh n) w0.heap.size i w9) := A8.out.nw n9
            have J9 : Hid (w9.heap[hb]? = some (.cells (hbs zh) 42 (0, 0))) := (n9.block _ (heap_lt J8.out) (fun f => f)).trans J8.out
            obtain ⟨c0, c1, lgt9⟩ := HC.out w9 (N6.out.tr N9.out)
            clear qs2 n9
            have hzh32 : zh.length = 32 := rfl
            by_cases hm : may L I
            · have hend : n < (I + 1) * 2 ^ L := by
                rcases Nat.lt_or_ge n ((I + 1) * 2 ^ L) with q | q
                · exact q
                · exact absurd ⟨hm, q⟩ HIN.out
              have qsp := span_yes L I hm
              obtain ⟨E0, hE0⟩ : ∃ E, E = (I + 1) * 2 ^ L := ⟨_, rfl⟩
              obtain ⟨B0, hB0⟩ : ∃ E, E = I * 2 ^ L := ⟨_, rfl⟩
              rw [← hE0] at hend qsp
              rw [← hB0] at qsp
              have hendi : decide ((n : Int) < (E0 : Int)) = true := decide_eq_true (by omega)
              clear hE0 hB0
              go_wp2_with fail
              refine (qsp _).mono ?_
              rintro e wa ⟨rfl, na⟩
              have NA : Hid (Nw w6 wa) := N9.out.tr na
              have AA : Hid (s'.At (lh n) w0.heap.size i wa) := A9.out.nw na
              have JA : Hid (wa.heap[hb]? = some (.cells (hbs zh) 42 (0, 0))) := (na.block _ (heap_lt J9.out) (fun f => f)).trans J9.out
              clear na c0 c1
              have QI : Hid (∀ V, Nw wa V → Calls Tryz.prog 12 #[sen (a 4), .int .i64 5] V fun e w' => e = .returned (.bool true) ∧ Nw V w') := fun V nV => is_senJ (GD.out.nw (N6.out.tr (NA.out.tr nV))).s 4 (by decide) (by decide)
              go_wp2_with fail
              refine (QI.out _ (by repeat first | with_reducible exact Fr.refl _ wa | with_reducible refine Fr.alloc ?_ _ | with_reducible refine Fr.drew ?_ | (with_reducible refine Fr.setCell ?_ _ _ (fun h => ?_); rotate_left; focus (simp only at h; omega)))).mono ?_
              rintro e wb ⟨rfl, nb⟩
              have NB : Hid (Nw wa wb) := Nw.tr (by repeat first | with_reducible exact Fr.refl _ wa | with_reducible refine Fr.alloc ?_ _ | with_reducible refine Fr.drew ?_ | (with_reducible refine Fr.setCell ?_ _ _ (fun h => ?_); rotate_left; focus (simp only at h; omega))) nb
              have AB : Hid (s'.At (lh n) w0.heap.size i wb) := AA.out.nw NB.out
              have JB : Hid (wb.heap[hb]? = some (.cells (hbs zh) 42 (0, 0))) := (NB.out.block _ (heap_lt JA.out) (fun f => f)).trans JA.out
              have NWB : Hid (Nw w6 wb) := NA.out.tr NB.out
              have OB : Hid (wb.ownsRow w0.heap.size 42 32 (.slice va n vc) n (hsc (lh n))) := ownsRow_keep O6.out (fun k hk => NWB.out.block k (O6.out.lt k hk).2 (fun f => f))
              clear nb qsp
              go_wp2_with (first
                | refine wpl_load (by rfl) (.tmp 18) rfl hb 0 rfl zh hzh32 (hash_cells JB.out) ?_
                | refine wpl_zero (by rfl) rfl ?_
                | refine wpl_neqJ (by rfl) (.tmp 119) (.tmp 120) rfl zh hzh32 rfl rfl ?_)
              exact ⟨⟨i + 1, s', by omega, by go_num, AB.out.more (by omega), HF.out.1, HF.out.2.1, HF.out.2.2, HT.out, OB.out, N6.out.tr NWB.out⟩, by simp [intOf]; omega⟩
            · have qsp := span_no L I hm hL hI
              go_wp2_with fail
              refine (qsp _).mono ?_
              rintro e wa ⟨rfl, na⟩
              have NA : Hid (Nw w6 wa) := N9.out.tr na
              have AA : Hid (s'.At (lh n) w0.heap.size i wa) := A9.out.nw na
              have JA : Hid (wa.heap[hb]? = some (.cells (hbs zh) 42 (0, 0))) := (na.block _ (heap_lt J9.out) (fun f => f)).trans J9.out
              clear na c0 c1
              have QI : Hid (∀ V, Nw wa V → Calls Tryz.prog 12 #[sen (a 4), .int .i64 5] V fun e w' => e = .returned (.bool true) ∧ Nw V w') := fun V nV => is_senJ (GD.out.nw (N6.out.tr (NA.out.tr nV))).s 4 (by decide) (by decide)
              go_wp2_with fail
              refine (QI.out _ (by repeat first | with_reducible exact Fr.refl _ wa | with_reducible refine Fr.alloc ?_ _ | with_reducible refine Fr.drew ?_ | (with_reducible refine Fr.setCell ?_ _ _ (fun h => ?_); rotate_left; focus (simp only at h; omega)))).mono ?_
              rintro e wb ⟨rfl, nb⟩
              have NB : Hid (Nw wa wb) := Nw.tr (by repeat first | with_reducible exact Fr.refl _ wa | with_reducible refine Fr.alloc ?_ _ | with_reducible refine Fr.drew ?_ | (with_reducible refine Fr.setCell ?_ _ _ (fun h => ?_); rotate_left; focus (simp only at h; omega))) nb
              have AB : Hid (s'.At (lh n) w0.heap.size i wb) := AA.out.nw NB.out
              have JB : Hid (wb.heap[hb]? = some (.cells (hbs zh) 42 (0, 0))) := (NB.out.block _ (heap_lt JA.out) (fun f => f)).trans JA.out
              have NWB : Hid (Nw w6 wb) := NA.out.tr NB.out
              have OB : Hid (wb.ownsRow w0.heap.size 42 32 (.slice va n vc) n (hsc (lh n))) := ownsRow_keep O6.out (fun k hk => NWB.out.block k (O6.out.lt k hk).2 (fun f => f))
              clear nb qsp
              go_wp2_with (first
                | refine wpl_load (by rfl) (.tmp 18) rfl hb 0 rfl zh hzh32 (hash_cells JB.out) ?_
                | refine wpl_zero (by rfl) rfl ?_
                | refine wpl_neqJ (by rfl) (.tmp 119) (.tmp 120) rfl zh hzh32 rfl rfl ?_)
              exact ⟨⟨i + 1, s', by omega, by go_num, AB.out.more (by omega), HF.out.1, HF.out.2.1, HF.out.2.2, HT.out, OB.out, N6.out.tr NWB.out⟩, by simp [intOf]; omega⟩
end Go.Proofs.YtbkhdnceblgljaaGreatDoor
