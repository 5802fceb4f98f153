/- law15: folded. -/
import Derived.Test.YtlaiomgebkeldaaDoorYx
import Derived.Test.YtlaiomgebkeldaaDoorYn
namespace Go.Proofs.YtlaiomgebkeldaaDoor
open Go.RowKit
set_option linter.unusedVariables false
set_option linter.unusedSimpArgs false
theorem cut_hlu (g o n cap x y : Nat) (hk : x < y) (hn : y ≤ cap) (w : World) : (Instr.sliceAt 22 (.slice (some ⟨g, o, none⟩) n cap) (some (.int .u64 (x : Int))) (some (.int .u64 (y : Int))) none).run Tryd.prog w = .ok (.slice (some ⟨g, o + x * 32, none⟩) (y - x) (cap - x)) w := by
  rw [run_sliceAt_slice w _ _ _ _ _ undHu, run_slice_lh w _ (some ⟨g, o, none⟩) n cap undHu .u64 .u64 x y (by omega) (by omega) (by omega), elemHu, Tryd.sizeOf26 w]
  have : ¬ cap = x := by omega
  simp [sliced, this, Addr.add]
theorem hsc_snoc (l : List (List UInt8)) (x : List UInt8) : hsc (l ++ [x]) = hsc l ++ (hbs x).toList := by rw [hsc_app, hsc_one]
set_option maxRecDepth 100000 in
set_option maxHeartbeats 4000000 in
theorem folded15_any (x : Value) (s : Nat × Nat) (L : List (List UInt8)) (h32 : ∀ y ∈ L, y.length = 32) (hL : L.length ≤ 1000) (p : Option Addr) (cap : Nat) (hcap : L.length ≤ cap) (w : World) (hx : Crd w x (cvr s)) (ha : Aln s) (hs : s.2 ≤ L.length) (hp : Hrs w p L) (hLd : Laid w) :
    Calls Tryd.prog 15 #[.agg #[x], .slice p L.length cap] w fun e w' => e = .returned (.tuple #[.agg (hbs (hshp L s)), .bool true]) ∧ Nw w w' := by
  have HF : Hid (fdp ((cvr s).map (trH L)) = hshp L s) := fold_aln L s ha hs
  have hcl : (cvr s).length ≤ 128 := cov_len _ _ (by rw [p63]; omega)
  have hne : 0 < (cvr s).length := by have := cov_two ha.1; exact List.length_pos_iff.2 this
  have HGD : Hid (∀ c ∈ cvr s, gdT L.length c) := cov_gd _ s.1 s.2 L.length (Nat.le_refl _) hs (by omega)
  obtain ⟨y0, hy0⟩ : ∃ y, L[0]? = some y := ⟨_, List.getElem?_eq_getElem (by have := ha.1; omega)⟩
  obtain ⟨g, o, hpe, _⟩ := hp 0 y0 hy0
  subst hpe
  obtain ⟨bd, cb, rfl, hc⟩ := hx
  have HC : Hid (∀ k t, (cvr s)[k]? = some t → ∃ g off, bd = some ⟨g, off, none⟩ ∧ g < w.heap.size ∧ w.cell? ⟨g, off + k * 2, none⟩ = some (.int .u8 (t.1 : Int)) ∧ w.cell? ⟨g, off + k * 2 + 1, none⟩ = some (.int .u64 (t.2 : Int))) := hc
  have H32 : Hid (∀ y ∈ L, y.length = 32) := h32
  have HP : Hid (Hrs w (some ⟨g, o, none⟩) L) := hp
  have HLD : Hid (Laid w) := hLd
  have HT32 : Hid (∀ c, (trH L c).length = 32) := fun c => hshp_len L h32 _
  clear hy0 hc h32 hp hLd hs ha
  obtain ⟨cs, hcs⟩ : ∃ q, q = cvr s := ⟨_, rfl⟩
  rw [← hcs] at HF hcl hne HGD HC ⊢
  clear hcs
  obtain ⟨m, hm⟩ : ∃ m, m = cs.length := ⟨_, rfl⟩
  have HM : Hid (m = cs.length) := hm
  obtain ⟨n, hn⟩ : ∃ n, n = L.length := ⟨_, rfl⟩
  have HN : Hid (n = L.length) := hn
  obtain ⟨R, hR⟩ : ∃ R, R = hshp L s := ⟨_, rfl⟩
  have HR : Hid (R = hshp L s) := hR
  have R32 : Hid (R.length = 32) := by show _ = _; rw [hR]; exact hshp_len L H32.out _
  have hRs : (hbs R).size = 32 := by rw [hbs_size, R32.out]
  rw [← hm] at hcl hne ⊢
  rw [← hn] at hL hcap HGD ⊢
  rw [← hR] at HF ⊢
  clear hm hn hR
  obtain ⟨i0, hi, hz0, hz1, hz2⟩ := info_parts infoHs
  have hnk : decide ((n : Int) < 0) = false := by simp
  go_enter Tryd.func15, Tryd.ntmps15
  go_upto_region 1 with fail
  rw [z32_h]
  refine gen_wq (fun V => Nw w V ∧ V.heap[w.heap.size]? = some (.cells #[.slice bd m cb] 43) ∧ V.heap[w.heap.size + 1]? = some (.cells z32 26)) ⟨(by repeat first | with_reducible exact nwr w | with_reducible refine Fr.alloc ?_ _ | with_reducible refine Fr.drew ?_ | (with_reducible refine Fr.setCell ?_ _ _ (fun h => ?_); rotate_left; focus (simp only at h; omega))), by (repeat first | with_reducible exact heap_new _ _ | with_reducible exact heap_new _ _ | with_reducible exact heap_next _ _ _ | with_reducible exact heap_third _ _ _ _ | with_reducible refine hp_dr ?_ | (with_reducible refine hp_ne ?_ ?_; focus omega) | (with_reducible refine hp_al ?_ ?_; focus (first | omega | (simp <;> omega))) | with_reducible apply hp_set) <;> rfl, by (repeat first | with_reducible exact heap_next _ _ _ | with_reducible exact heap_new _ _ | with_reducible exact heap_next _ _ _ | with_reducible exact heap_third _ _ _ _ | with_reducible refine hp_dr ?_ | (with_reducible refine hp_ne ?_ ?_; focus omega) | (with_reducible refine hp_al ?_ ?_; focus (first | omega | (simp <;> omega))) | with_reducible apply hp_set) <;> rfl⟩ ?_
  rintro w0 ⟨n0, b0, b1⟩
  obtain ⟨q, hq⟩ : ∃ q, q = w.heap.size := ⟨_, rfl⟩
  have HQ : Hid (q = w.heap.size) := hq
  rw [← hq] at b0 b1 ⊢
  clear hq
  have N0 : Hid (Nw w w0) := n0
  have B0 : Hid (w0.heap[q]? = some (.cells #[.slice bd m cb] 43)) := b0
  have B1 : Hid (w0.heap[q + 1]? = some (.cells z32 26)) := b1
  clear n0 b0 b1
  go_wp2
  go_loopw [6, 7] (fun v i wr => ∃ k : Nat, k ≤ m ∧ i = .int .i64 k ∧ wr.ownsRow w0.heap.size 26 32 v k (hsc ((cs.take k).map (trH L))) ∧ Nw w0 wr) (fun _ i _ => m - (intOf i).toNat)
  case atStart => exact ⟨0, by omega, rfl, World.ownsRow_nil _ _ _ _, nwr w0⟩
  case round =>
    obtain ⟨k, hk, rfl, hown, hnw⟩ := hrel
    have HW : Hid (Nw w0 wr) := hnw
    have HO : Hid (wr.ownsRow w0.heap.size 26 32 u6 k (hsc ((cs.take k).map (trH L)))) := hown
    have bq := (hnw.block _ (heap_lt B0.out) (fun f => f)).trans B0.out
    have cq := cell1 bq
    have lq := heap_lt bq
    clear hown hnw bq
    by_cases hlt : k < m
    · obtain ⟨c, ht⟩ : ∃ t, cs[k]? = some t := ⟨_, List.getElem?_eq_getElem (by rw [← HM.out]; exact hlt)⟩
      obtain ⟨gc, of2, rfl, q1, q2, q3⟩ := HC.out k c ht
      have hgd := HGD.out c (List.mem_of_getElem? ht)
      have HX : Hid ((cs.take (k + 1)).map (trH L) = (cs.take k).map (trH L) ++ [trH L c]) := by show _ = _; rw [List.take_add_one, ht]; simp
      obtain ⟨M, I⟩ := c
      have q2' := (N0.out.tr HW.out).cellOf q2
      have q3' := (N0.out.tr HW.out).cellOf q3
      have qs := fun V => span_yes M I hgd.1 V
      have hp2 := Nat.two_pow_pos M
      obtain ⟨X, hX⟩ : ∃ X, X = I * 2 ^ M := ⟨_, rfl⟩
      obtain ⟨Y, hY⟩ : ∃ Y, Y = (I + 1) * 2 ^ M := ⟨_, rfl⟩
      have hXY : X < Y := by rw [hX, hY, Nat.add_mul]; omega
      have hYn : Y ≤ n := by rw [hY]; exact hgd.2
      rw [← hX, ← hY] at qs
      have HQS : Hid (∀ V, Calls Tryd.prog 42 #[cd M I] V fun e w' => e = .returned (.tuple #[sp X Y, .bool true]) ∧ Nw V w') := qs
      obtain ⟨A, hA⟩ : ∃ A, A = trH L (M, I) := ⟨_, rfl⟩
      have HA : Hid (A = trH L (M, I)) := hA
      have hA2 : A = mhh (sbh L X Y) := by rw [hA, hX, hY]; rfl
      have hA32 : (hbs A).size = 32 := by rw [hbs_size, hA, HT32.out]
      have hlen : (sbh L X Y).length = Y - X := by rw [sbh_len, ← HN.out]; omega
      have HQM : Hid (∀ V, Nw w0 V → Calls Tryd.prog 16 #[.slice (some ⟨g, o + X * 32, none⟩) (Y - X) (cap - X)] V fun e w' => e = .returned (.agg (hbs A)) ∧ Nw V w') := fun V nV => by
        have hpv := HP.out.nw H32.out (N0.out.tr nV)
        have h2 := ((hpv.halves Y).1.halves X).2
        have := mth15_any (sbh L X Y).length (sbh L X Y) (some ⟨g, o + X * 32, none⟩) (cap - X) V (Nat.le_refl _) (by omega) (fun z hz => H32.out z (sbh_mem hz)) (by omega) h2 (HLD.out.nw (N0.out.tr nV))
        rw [hlen, ← hA2] at this
        exact this
      have hki : (k : Int) < (m : Int) := by omega
      have hyi : ¬ (n : Int) < (Y : Int) := by omega
      have hyd : decide ((n : Int) < (Y : Int)) = false := by simp; omega
      have hcut := fun V => cut_hlu g o n cap X Y hXY (by omega) V
      have HCUT : Hid (∀ V, (Instr.sliceAt 22 (.slice (some ⟨g, o, none⟩) n cap) (some (.int .u64 (X : Int))) (some (.int .u64 (Y : Int))) none).run Tryd.prog V = .ok (.slice (some ⟨g, o + X * 32, none⟩) (Y - X) (cap - X)) V) := hcut
      clear q2 q3 ht hgd qs hX hY hA hA2 hlen hcut hp2
      go_wp2_with fail
      refine (HQS.out _).mono ?_
      rintro e w1 ⟨rfl, n1⟩
      have N1 : Hid (Nw wr w1) := n1
      clear n1 q2' q3' cq
      go_upto_region 8 with fail
      refine gen_wq (fun V => Nw wr V ∧ V.heap[w1.heap.size]? = some (.cells #[.int .u64 (X : Int), .int .u64 (Y : Int)] 90)) ⟨(by repeat first | with_reducible exact N1.out | with_reducible refine Fr.alloc ?_ _ | with_reducible refine Fr.drew ?_ | (with_reducible refine Fr.setCell ?_ _ _ (fun h => ?_); rotate_left; focus (simp only at h; omega))), by (repeat first | with_reducible exact heap_new _ _ | with_reducible exact heap_new _ _ | with_reducible exact heap_next _ _ _ | with_reducible exact heap_third _ _ _ _ | with_reducible refine hp_dr ?_ | (with_reducible refine hp_ne ?_ ?_; focus omega) | (with_reducible refine hp_al ?_ ?_; focus (first | omega | (simp <;> omega))) | with_reducible apply hp_set) <;> rfl⟩ ?_
      rintro w2 ⟨n2, b2⟩
      obtain ⟨bs, hbs9⟩ : ∃ b, b = w1.heap.size := ⟨_, rfl⟩
      rw [← hbs9] at b2 ⊢
      clear hbs9
      have c0 := cell2a b2
      have c1 := cell2b b2
      have lb := heap_lt b2
      have N2 : Hid (Nw wr w2) := n2
      have hcut := HCUT.out w2
      clear n2 b2
      go_wp2_with fail
      refine (HQM.out _ (HW.out.tr N2.out)).mono ?_
      rintro e w3 ⟨rfl, n3⟩
      have N3 : Hid (Nw wr w3) := N2.out.tr n3
      have O3 : Hid ((w3.alloc (.cells (hbs A) 26)).ownsRow w0.heap.size 26 32 u6 k (hsc ((cs.take k).map (trH L)))) := (ownsRow_keep HO.out (fun g hg => N3.out.block g (HO.out.lt g hg).2 (fun f => f))).alloc _
      have HNew : Hid (∀ j u, (hbs A).toList[j]? = some u → (w3.alloc (.cells (hbs A) 26)).cell? ((⟨w3.heap.size, 0, none⟩ : Addr).add j) = some u) := hash_new _ _ _
      have hbase : w0.heap.size ≤ (w3.alloc (.cells (hbs A) 26)).heap.size := by have := (HW.out.tr N3.out).size; simp; omega
      clear n3 hcut c0 c1 lb
      go_wp2_with first
        | refine wp_build1 rfl (.tmp 46) rfl (hbs A) rfl hA32 ?_
        | (at_builtin; refine wpList_two _ rfl (.tmp 39) (.tmp 47) 22 rfl w0.heap.size 26 i0 (.agg z32) 32 32 Tryd.underlying22 hi hz0 hz1 hz2 z32_size (by decide) u6 k (hsc ((cs.take k).map (trH L))) rfl O3.out ⟨w3.heap.size, 0, none⟩ 1 1 (hbs A).toList rfl (by simp [hA32]) HNew.out (hbs_one _) (by unfold maxLen; omega) (by omega) hbase ?_; intro v' w5 hown' htwo)
      have N5 : Hid (Nw w0 w5) := ((HW.out.tr N3.out).alloc _).trans htwo.fr (fun j hj q => by have := (HO.out.lt j q).1; omega)
      have HO5 : Hid (w5.ownsRow w0.heap.size 26 32 v' (k + 1) (hsc ((cs.take (k + 1)).map (trH L)))) := by rw [HX.out, hsc_snoc, ← HA.out]; exact hown'
      clear hown' htwo
      go_wp2
      exact ⟨⟨k + 1, by omega, by go_num, HO5.out, N5.out⟩, by simp [intOf]; omega⟩
    · obtain rfl : k = m := by omega
      have hTk : cs.take k = cs := List.take_of_length_le (by rw [HM.out]; exact Nat.le_refl _)
      rw [hTk] at HO
      have hall : ∀ y ∈ cs.map (trH L), y.length = 32 := fun y hy => by obtain ⟨c, _, rfl⟩ := List.mem_map.1 hy; exact HT32.out c
      rcases HO.out.2 with ⟨_, h0⟩ | ⟨gt, ct, cur, hv, _, _, hcc, _⟩
      · omega
      · subst hv
        have hrw : Hrw wr gt (cs.map (trH L)) := Hrw.of (n := k) (c := ct) (by rw [List.length_map, ← HM.out]; exact HO.out) hall
        have qf := pfold_some (n := k - 1) (c := ct) hrw (by rw [List.length_map, ← HM.out]; omega) (by omega) (by omega) (HLD.out.nw (N0.out.tr HW.out)) (HLD.out.nw (N0.out.tr HW.out)).lt
        rw [HF.out] at qf
        have e1 : k - 1 + 1 = k := by omega
        rw [e1] at qf
        have BR : Hid (wr.heap[q + 1]? = some (.cells z32 26)) := (HW.out.block _ (heap_lt B1.out) (fun f => f)).trans B1.out
        clear hTk hall hrw e1 hcc
        go_wp2_with fail
        refine qf.mono ?_
        rintro e w1 ⟨rfl, n1⟩
        have N1 : Hid (Nw wr w1) := n1
        clear n1 qf
        go_wp2_with (refine wp_store_agg rfl (.tmp 10) (.tmp 52) 26 32 rfl Tryd.sizeOf26 w1.heap.size 0 rfl z32 26 (by rw [← z32_h]; exact heap_new _ _) (hbs R) rfl hRs (hbs_one _) (by decide) (hbs R) (by rw [dropA z32_size]; simp) ?_; intro w4 j4 f4 z4; clear z4; have N4 : Hid (Nw wr w4) := (N1.out.alloc _).trans f4 (fun q hq e => by have := N1.out.size; omega); have J4 : Hid (w4.heap[w1.heap.size]? = some (.cells (hbs R) 26)) := j4; clear f4 j4)
        obtain ⟨bx, hbx⟩ : ∃ b, b = w1.heap.size := ⟨_, rfl⟩
        have HBX : Hid (wr.heap.size ≤ bx) := by show _ ≤ _; have := N1.out.size; omega
        rw [← hbx] at J4 ⊢
        clear hbx
        have nb : Nw w4 w4.drew := (Fr.refl _ _).drew
        have HS : Hid (∀ V, Nw w4 V → ∀ j, j < 32 → V.cell? ⟨bx, 0 + j, none⟩ = (hbs R)[j]?) := fun V nV => hash_cells ((nV.block _ (heap_lt J4.out) (fun f => f)).trans J4.out)
        refine wp_region_held_drew (S := fun V => ∀ j, j < 32 → V.cell? ⟨bx, 0 + j, none⟩ = (hbs R)[j]?) (by kernel_rfl) (HS.out _ nb) ?_
        intro hS0
        refine wpAnyH_take (i := 0) (v := .agg (hbs R)) rfl (by kernel_rfl) (by kernel_rfl) (by kernel_rfl) (fun _ _ _ h => h) (yields_load_h (by rfl) (.tmp 10) 26 32 rfl Tryd.isAgg26 Tryd.sizeOf26 bx 0 rfl (hbs R) hRs (fun W hW => hW)) hS0 ?_
        try simp only [Act.put, List.setIfInBounds_toArray, List.set_cons_zero, List.set_cons_succ]
        refine wpAnyH_take (i := 1) (v := .nilIface) rfl (by kernel_rfl) (by kernel_rfl) (by kernel_rfl) (fun _ _ _ h => h) (Or.inl ⟨by rfl, by intro w hw; go_simp⟩) hS0 ?_
        try simp only [Act.put, List.setIfInBounds_toArray, List.set_cons_zero, List.set_cons_succ]
        refine wpAnyH_take (i := 2) (v := .bool true) rfl (by kernel_rfl) (by kernel_rfl) (by kernel_rfl) (fun _ _ _ h => h) (Or.inl ⟨by rfl, by intro w hw; go_simp⟩) hS0 ?_
        try simp only [Act.put, List.setIfInBounds_toArray, List.set_cons_zero, List.set_cons_succ]
        refine wpAnyH_ready (rs := [3]) (by kernel_rfl) (by simp) ?_
        have B4 : w4.drew.heap[q + 1]? = some (.cells z32 26) := ((N4.out.tr nb).block _ (heap_lt BR.out) (fun f => f)).trans BR.out
        have hqx : bx ≠ q + 1 := by have := HBX.out; have := heap_lt BR.out; omega
        refine ready_storeP rfl rfl (.tmp 4) (.tmp 54) 26 32 rfl Tryd.sizeOf26 (q + 1) (by kernel_rfl) z32 26 B4 (hbs R) (by kernel_rfl) hRs (hbs_one _) z32_size ?_ AllReadyH.nil
        intro w5 j5 f5
        refine ⟨fun j hj => (f5.cell (p := ⟨bx, _, none⟩) (by have := heap_lt J4.out; show bx < _; simpa using this) (fun e => hqx e)).trans (hS0 j hj), fun hS0 => ?_⟩
        try simp only [Act.put, List.setIfInBounds_toArray, List.set_cons_zero, List.set_cons_succ]
        refine wpAnyH_ready (rs := [4]) (by kernel_rfl) (by simp) ?_
        refine AllReadyH.cons rfl (fun K' hK => ?_) AllReadyH.nil
        go_simp
        refine hK.out _ _ hS0 (fun hS0 => ?_)
        try simp only [Act.put, List.setIfInBounds_toArray, List.set_cons_zero, List.set_cons_succ]
        refine wpAnyH_done (by kernel_rfl) ?_ _
        try go_wp2_with fail
        have NF : Nw w w5 := (((N0.out.tr HW.out).tr N4.out).tr nb).trans f5 (fun k hk e => by have := HQ.out; omega)
        exact bodyPost_ret (results_cell_slot Tryd.results15 Tryd.isAgg26 Tryd.sizeOf26 rfl _ rfl j5 hRs) rfl ⟨rfl, NF⟩
end Go.Proofs.YtlaiomgebkeldaaDoor
