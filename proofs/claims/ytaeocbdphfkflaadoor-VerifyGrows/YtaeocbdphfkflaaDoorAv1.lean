/- law18: climbs walked. -/
import Derived.Test.YtaeocbdphfkflaaDoorAv0
import Derived.Deep.DeepCutAuto
namespace Go.Proofs.YtaeocbdphfkflaaDoor
open Go.RowKit
set_option linter.unusedVariables false
set_option linter.unusedSimpArgs false
/-- Truth values in memory. -/
def Bls (w : World) (ad : Option Addr) (s : List Bool) : Prop := ∀ k b, s[k]? = some b → ∃ g off, ad = some ⟨g, off, none⟩ ∧ w.cell? ⟨g, off + k, none⟩ = some (.bool b)
theorem Bls.nw {w w' : World} {ad : Option Addr} {s : List Bool} (h : Bls w ad s) (n : Nw w w') : Bls w' ad s := fun k b hk => by
  obtain ⟨g, off, e, hc⟩ := h k b hk
  exact ⟨g, off, e, n.cellOf hc⟩
theorem Bls.of {w : World} {base n : Nat} {a : Option Addr} {c : Nat} {s : List Bool} (h : w.ownsRow base 4 1 (.slice a n c) n (bsc s)) : Bls w a s := fun k b hk => by
  have hl := ownB_len h
  have hk1 := (List.getElem?_eq_some_iff.1 hk).1
  obtain ⟨g, cap, hv, _⟩ := ownB_form h (by omega)
  cases hv
  refine ⟨g, 0, rfl, ?_⟩
  have := ownB_cell h hk
  rwa [Nat.zero_add]
theorem ownP_at {w : World} {base : Nat} {v : Value} {n : Nat} {xs : List Value} (h : w.ownsRow base 60 64 v n xs) : ∃ a c, v = .slice a n c := by
  rcases h.2 with ⟨rfl, rfl⟩ | ⟨g, cap, cur, rfl, _⟩
  · exact ⟨none, 0, rfl⟩
  · exact ⟨_, _, rfl⟩
theorem pr_new (w : World) (V : Array Value) (t : TypeId) : ∀ j u, V.toList[j]? = some u → (w.alloc (.cells V t)).cell? ((⟨w.heap.size, 0, none⟩ : Addr).add j) = some u := hash_new w V t
set_option maxRecDepth 100000 in
set_option maxHeartbeats 8000000 in
theorem climbs_any (x : List UInt8) (hx : x.length = 32) (L : List (List UInt8)) (hL32 : ∀ y ∈ L, y.length = 32) (s : List Bool) (hls : L.length = s.length) (hl : L.length ≤ 100) (ad : Option Addr) (lc : Nat) (sa : Option Addr) (sc : Nat) (w : World) (hs : Hss w (.slice ad L.length lc) L) (hb : Bls w sa s) (hLd : Laid w) :
    Calls Tryd.prog 24 #[.agg (hbs x), .slice ad L.length lc, .slice sa s.length sc] w fun e w' => ∃ v, e = .returned v ∧ w'.ownsRow w.heap.size 60 64 v L.length (psc (prs x L s)) ∧ Nw w w' := by
  obtain ⟨i0, hi0, hz0, hz1, hz2⟩ := info_partsPr
  have HI0 : Hid (Tryd.prog.info? 60 = some i0 ∧ i0.zero = some (.agg (z32 ++ z32)) ∧ i0.size = 64 ∧ i0.bytes = 64) := ⟨hi0, hz0, hz1, hz2⟩
  have QN : Hid (∀ V A B, Nw w V → A.length = 32 → B.length = 32 → Calls Tryd.prog 25 #[.agg (hbs A), .agg (hbs B)] V fun e w' => e = .returned (.agg (hbs (ndp A B))) ∧ Nw V w') := fun V A B hV hA hB => node_any A B hA hB V (hLd.nw hV)
  rw [← hls]
  obtain ⟨n, hn⟩ : ∃ q, q = L.length := ⟨_, rfl⟩
  have HNL := hid_of hn
  have HNS : Hid (n = s.length) := by show n = _; rw [hn, hls]
  have HSS : Hid (Hss w (.slice ad n lc) L) := by rw [hn]; exact hs
  have HBL : Hid (Bls w sa s) := hb
  have HL32 : Hid (∀ y ∈ L, y.length = 32) := hL32
  have HX32 := hid_of hx
  have hxs : (hbs x).size = 32 := by rw [hbs_size, hx]
  rw [← hn] at hl ⊢
  clear hi0 hz0 hz1 hz2 hn hls hs hb hLd hL32 hx
  go_enter Tryd.func24, Tryd.ntmps24
  go_upto_region 2 with fail
  have b0 := heap_new w (.cells (hbs x) 24)
  have nA := nwa w (.cells (hbs x) 24)
  obtain ⟨w1, hw1⟩ : ∃ q, w.alloc (.cells (hbs x) 24) = q := ⟨_, rfl⟩
  rw [hw1] at b0 nA ⊢
  clear hw1
  have HB0 := hid_of b0
  go_upto_region 3 with first
    | refine wple_load_at rfl (.tmp 3) 24 32 rfl Tryd.isAgg24 Tryd.sizeOf24 w.heap.size 0 rfl (hbs x) hxs (hash_cells HB0.out) ?_
    | (refine wp_store_agg rfl (.tmp 8) (.tmp 11) 24 32 rfl Tryd.sizeOf24 w1.heap.size 0 rfl z32 24 (by rw [← z32_h]; exact heap_new _ _) (hbs x) rfl hxs (hbs_one _) (by decide) (hbs x) (by rw [dropA z32_size]; simp) ?_; intro w2 j2 f2 y2; clear y2)
  obtain ⟨cb, hcb⟩ : ∃ q, q = w1.heap.size := ⟨_, rfl⟩
  rw [← hcb] at j2 ⊢
  have N2 : Hid (Nw w w2) := nA.tr ((nwa w1 _).trans f2 (fun k hk q => by omega))
  have J2 := hid_of j2
  have HCB : Hid (w.heap.size ≤ cb) := by show _ ≤ cb; rw [hcb]; exact nA.size
  clear b0 nA HB0 hcb j2 f2
  go_wp2
  go_loopw [7, 9] (fun u iv wr => ∃ (j : Nat) (oa : Option Addr) (oc : Nat), j ≤ n ∧ u = .slice oa j oc ∧ iv = .int .i64 j ∧ wr.ownsRow w.heap.size 60 64 (.slice oa j oc) j (psc ((prs x L s).take j)) ∧ wr.heap[cb]? = some (.cells (hbs (clm x (L.take j) (s.take j))) 24 (0, 0)) ∧ ((Value.slice oa j oc).ownBlock ≠ some cb) ∧ Nw w wr) (fun _ iv _ => n - (intOf iv).toNat)
  case atStart => exact ⟨0, none, 0, by omega, rfl, rfl, by rw [List.take_zero]; exact World.ownsRow_nil _ _ _ _, by rw [List.take_zero, List.take_zero, clm]; exact J2.out; all_goals simp, by simp [Value.ownBlock], N2.out⟩
  case round =>
    obtain ⟨j, oa, oc, hj, rfl, rfl, ho, hcb, hne, hnw⟩ := hrel
    have HO := hid_of ho
    have HNE := hid_of hne
    have HNW := hid_of hnw
    obtain ⟨r, hr⟩ : ∃ r, r = clm x (L.take j) (s.take j) := ⟨_, rfl⟩
    have HR := hid_of hr
    rw [← hr] at hcb
    have HC := hid_of hcb
    have R32 : Hid (r.length = 32) := by show r.length = 32; rw [hr]; exact clm_len _ _ _ HX32.out
    have hrs : (hbs r).size = 32 := by rw [hbs_size, R32.out]
    clear ho hne hnw hr hcb
    by_cases hlt : j < n
    · obtain ⟨y, hy⟩ : ∃ y, L[j]? = some y := ⟨_, List.getElem?_eq_getElem (by rw [← HNL.out]; exact hlt)⟩
      obtain ⟨b, hb⟩ : ∃ b, s[j]? = some b := ⟨_, List.getElem?_eq_getElem (by rw [← HNS.out]; exact hlt)⟩
      have HY := hid_of hy
      have HB := hid_of hb
      have Y32 : Hid (y.length = 32) := HL32.out y (List.mem_of_getElem? hy)
      have hys : (hbs y).size = 32 := by rw [hbs_size, Y32.out]
      obtain ⟨lg, lo, rfl, hc⟩ := (HSS.out.nw HL32.out HNW.out).atT hy
      obtain ⟨sg, so, rfl, hsc⟩ := (HBL.out.nw HNW.out) j b hb
      have HCR : Hid (∀ V, Nw wr V → ∀ k, k < 32 → V.cell? ⟨cb, 0 + k, none⟩ = (hbs r)[k]?) := fun V hV => hash_cells ((hV.block _ (heap_lt HC.out) (fun f => f)).trans HC.out)
      have HYC : Hid (∀ V, Nw wr V → ∀ k, k < 32 → V.cell? ⟨lg, lo + j * 32 + k, none⟩ = (hbs y)[k]?) := fun V hV k hk => by
        have h5 : (hbs y)[k]? = some (hbs y)[k] := Array.getElem?_eq_getElem (by omega)
        have h6 := hc k hk
        rw [h5] at h6 ⊢
        exact hV.cellOf h6
      have HLGc : Hid (∀ k, k < 32 → ∃ u, w.cell? ⟨lg, lo + j * 32 + k, none⟩ = some u) := fun k hk => by
        obtain ⟨g', o', e', h6⟩ := HSS.out.atT hy
        cases e'
        exact ⟨(hbs y)[k], by rw [h6 k hk]; exact Array.getElem?_eq_getElem (by omega)⟩
      have HLG : Hid (lg < w.heap.size) := by
        obtain ⟨u, hu⟩ := HLGc.out 0 (by decide)
        have := World.block_lt_of_cell? w _ hu
        exact this
      have HSC := hid_of hsc
      have hji : (j : Int) < (n : Int) := by omega
      clear hy hb hc hsc
      go_upto_region 6 with fail
      go_cut [10] (fun v wx => ∃ pb, v = .pointer (some ⟨pb, 0, none⟩) ∧ wr.heap.size ≤ pb ∧ wx.heap[pb]? = some (.cells (h2c r y) 60) ∧ Nw wr wx)
      case first =>
        have nb : Nw wr wr.drew := (Fr.refl _ _).drew
        refine wp_region_held_drew (S := (fun V => Nw wr V)) (by kernel_rfl) (nb) ?_
        intro hS0
        refine wpAnyH_take (i := 0) (oi := ({ dst := some 24, op := Op.load 24 (Operand.tmp 8), type := 24, pos := "outright.go:121", after := #[], guard := none } : Oper)) (v := .agg (hbs r)) rfl (by kernel_rfl) (by kernel_rfl) (by kernel_rfl) (fun _ _ _ h => h) (yields_loadV (by kernel_rfl) (.tmp 8) 24 32 rfl Tryd.isAgg24 Tryd.sizeOf24 cb (0) rfl (hbs r) hrs (fun w hw => HCR.out w hw)) hS0 ?_
        try simp only [Act.put, List.setIfInBounds_toArray, List.set_cons_zero, List.set_cons_succ]
        refine wpAnyH_take (i := 1) (oi := ({ dst := some 25, op := Op.move (Operand.tmp 1), type := 25, pos := "outright.go:121", after := #[], guard := none } : Oper)) (v := .slice (some ⟨lg, lo, none⟩) n lc) rfl (by kernel_rfl) (by kernel_rfl) (by kernel_rfl) (fun _ _ _ h => h) (Or.inl ⟨by rfl, by intro w hw; go_simp⟩) hS0 ?_
        try simp only [Act.put, List.setIfInBounds_toArray, List.set_cons_zero, List.set_cons_succ]
        refine wpAnyH_take (i := 2) (oi := ({ dst := some 26, op := Op.move (Operand.tmp 9), type := 3, pos := "outright.go:121", after := #[], guard := none } : Oper)) (v := .int .i64 (j : Int)) rfl (by kernel_rfl) (by kernel_rfl) (by kernel_rfl) (fun _ _ _ h => h) (Or.inl ⟨by rfl, by intro w hw; go_simp⟩) hS0 ?_
        try simp only [Act.put, List.setIfInBounds_toArray, List.set_cons_zero, List.set_cons_succ]
        refine wpAnyH_take (i := 3) (oi := ({ dst := some 27, op := Op.indexAddr 25 (Operand.tmp 25) (Operand.tmp 26), type := 0, pos := "outright.go:121", after := #[{ on := 1, ground := Ground.data }, { on := 2, ground := Ground.data }], guard := none } : Oper)) (v := .pointer (some ⟨lg, lo + j * 32, none⟩)) rfl (by kernel_rfl) (by kernel_rfl) (by kernel_rfl) (fun _ _ _ h => h) (Or.inl ⟨by kernel_rfl, by intro w hw; go_simp; try (intro hq; omega)⟩) hS0 ?_
        try simp only [Act.put, List.setIfInBounds_toArray, List.set_cons_zero, List.set_cons_succ]
        refine wpAnyH_take (i := 4) (oi := ({ dst := some 28, op := Op.load 24 (Operand.tmp 27), type := 24, pos := "outright.go:121", after := #[{ on := 3, ground := Ground.data }], guard := none } : Oper)) (v := .agg (hbs y)) rfl (by kernel_rfl) (by kernel_rfl) (by kernel_rfl) (fun _ _ _ h => h) (yields_loadV (by kernel_rfl) (.tmp 27) 24 32 rfl Tryd.isAgg24 Tryd.sizeOf24 lg (lo + j * 32) rfl (hbs y) hys (fun w hw => HYC.out w hw)) hS0 ?_
        try simp only [Act.put, List.setIfInBounds_toArray, List.set_cons_zero, List.set_cons_succ]
        refine wpAnyH_take (i := 5) (oi := ({ dst := some 29, op := Op.build 60 #[(0, Operand.tmp 24), (1, Operand.tmp 28)], type := 60, pos := "outright.go:121", after := #[{ on := 0, ground := Ground.data }, { on := 4, ground := Ground.data }], guard := none } : Oper)) (v := .agg (h2c r y)) rfl (by kernel_rfl) (by kernel_rfl) (by kernel_rfl) (fun _ _ _ h => h) (yields_prbuild (by kernel_rfl) (.tmp 24) (.tmp 28) rfl r y R32.out Y32.out rfl rfl) hS0 ?_
        try simp only [Act.put, List.setIfInBounds_toArray, List.set_cons_zero, List.set_cons_succ]
        refine wpAnyH_ready (rs := [6]) (by kernel_rfl) (by simp) ?_
        refine (AllReadyH.cons (o := ({ dst := some 10, op := Op.alloc 60, type := 0, pos := "outright.go:121", after := #[], guard := none } : Oper)) rfl (fun K' hK => ?_) AllReadyH.nil)
        refine step_allocPr rfl rfl ?_
        have BA := heap_new (wr.drew) (.cells (z32 ++ z32) 60)
        have na := nwa (wr.drew) (.cells (z32 ++ z32) 60)
        obtain ⟨wa, hwa⟩ : ∃ q, (wr.drew).alloc (.cells (z32 ++ z32) 60) = q := ⟨_, rfl⟩
        rw [hwa] at BA na ⊢
        obtain ⟨pb, hpb⟩ : ∃ q, q = (wr.drew).heap.size := ⟨_, rfl⟩
        rw [← hpb] at BA ⊢
        have LP : wr.heap.size ≤ pb := by rw [hpb]; exact nb.size
        have nb : Nw wr wa := nb.tr na
        clear hwa hpb na
        refine hK.out _ _ (nb) (fun hS0 => ?_)
        try simp only [Act.put, List.setIfInBounds_toArray, List.set_cons_zero, List.set_cons_succ]
        refine wpAnyH_ready (rs := [7]) (by kernel_rfl) (by simp) ?_
        refine (AllReadyH.cons (o := ({ dst := none, op := Op.store 60 (Operand.tmp 10) (Operand.tmp 29), type := 0, pos := "outright.go:121", after := #[{ on := 6, ground := Ground.data }, { on := 5, ground := Ground.data }, { on := 0, ground := Ground.phase }, { on := 1, ground := Ground.phase }, { on := 2, ground := Ground.phase }, { on := 3, ground := Ground.phase }, { on := 4, ground := Ground.phase }, { on := 5, ground := Ground.phase }, { on := 6, ground := Ground.phase }], guard := none } : Oper)) rfl (fun K' hK => ?_) AllReadyH.nil)
        refine step_store_agg rfl (.tmp 10) (.tmp 29) 60 64 rfl Tryd.sizeOf60 pb 0 rfl (z32 ++ z32) 60 BA (h2c r y) rfl (h2c_size R32.out Y32.out) (h2c_one _ _) (by decide) (h2c r y) (by rw [dropA z64_size]; simp) ?_
        intro w9 j9 f9 z9
        clear z9
        have nb : Nw wr w9 := nb.trans f9 (fun k hk q => by omega)
        refine hK.out _ _ (nb) (fun hS0 => ?_)
        try simp only [Act.put, List.setIfInBounds_toArray, List.set_cons_zero, List.set_cons_succ]
        refine wpAnyH_done (by kernel_rfl) ?_ _
        go_wp2_with fail
        go_meet
        exact ⟨pb, rfl, LP, j9, nb⟩
      case rest =>
      obtain ⟨pb, rfl, lp, jp, n7⟩ := hcut
      obtain ⟨w7, hw7⟩ : ∃ q, q = wc := ⟨_, rfl⟩
      rw [← hw7] at jp n7 ⊢
      have LP7 := hid_of lp
      have HP7 := hid_of jp
      have N7 := hid_of n7
      have HCR7 : Hid (∀ V, Fr (fun k => k = pb) w7 V → ∀ k, k < 32 → V.cell? ⟨cb, 0 + k, none⟩ = (hbs r)[k]?) := fun V hV => hash_cells ((hV.block _ (Nat.lt_of_lt_of_le (heap_lt HC.out) N7.out.size) (fun q => by have := heap_lt HC.out; have := LP7.out; omega)).trans ((N7.out.block _ (heap_lt HC.out) (fun f => f)).trans HC.out))
      have HYC7 : Hid (∀ V, Fr (fun k => k = pb) w7 V → ∀ k, k < 32 → V.cell? ⟨lg, lo + j * 32 + k, none⟩ = (hbs y)[k]?) := fun V hV k hk => by
        have h6 := HYC.out w7 N7.out k hk
        rw [← h6]
        exact hV.cell (p := ⟨lg, lo + j * 32 + k, none⟩) (by have := HLG.out; have := HNW.out.size; have := N7.out.size; show lg < _; omega) (fun q => by have := HLG.out; have := HNW.out.size; have := LP7.out; simp only at q; omega)
      have hc7 := N7.out.cellOf HSC.out
      clear hw7 lp jp n7
      go_upto_if 33 with fail
      go_cut [10] (fun v wx => v = .pointer (some ⟨pb, 0, none⟩) ∧ ∃ p1 p2 : List UInt8, wx.heap[pb]? = some (.cells (h2c p1 p2) 60) ∧ p1.length = 32 ∧ p2.length = 32 ∧ p1 = (if b then y else r) ∧ p2 = (if b then r else y) ∧ Nw wr wx)
      case first =>
        cases b
        · go_wp2
          go_meet
          exact ⟨rfl, r, y, HP7.out, R32.out, Y32.out, rfl, rfl, N7.out⟩
        · go_upto_region 8 with fail
          have nb : Nw w7 w7.drew := (Fr.refl _ _).drew
          refine wp_region_held_drew (S := (fun V => Fr (fun k => k = pb) w7 V)) (by kernel_rfl) (by first | exact nb.mono (fun _ _ f => f.elim) | exact nb) ?_
          intro hS0
          refine wpAnyH_take (i := 0) (oi := ({ dst := some 34, op := Op.move (Operand.tmp 1), type := 25, pos := "outright.go:123", after := #[], guard := none } : Oper)) (v := .slice (some ⟨lg, lo, none⟩) n lc) rfl (by kernel_rfl) (by kernel_rfl) (by kernel_rfl) (fun _ _ _ h => h) (Or.inl ⟨by rfl, by intro w hw; go_simp⟩) hS0 ?_
          try simp only [Act.put, List.setIfInBounds_toArray, List.set_cons_zero, List.set_cons_succ]
          refine wpAnyH_take (i := 1) (oi := ({ dst := some 35, op := Op.move (Operand.tmp 9), type := 3, pos := "outright.go:123", after := #[], guard := none } : Oper)) (v := .int .i64 (j : Int)) rfl (by kernel_rfl) (by kernel_rfl) (by kernel_rfl) (fun _ _ _ h => h) (Or.inl ⟨by rfl, by intro w hw; go_simp⟩) hS0 ?_
          try simp only [Act.put, List.setIfInBounds_toArray, List.set_cons_zero, List.set_cons_succ]
          refine wpAnyH_take (i := 2) (oi := ({ dst := some 36, op := Op.indexAddr 25 (Operand.tmp 34) (Operand.tmp 35), type := 0, pos := "outright.go:123", after := #[{ on := 0, ground := Ground.data }, { on := 1, ground := Ground.data }], guard := none } : Oper)) (v := .pointer (some ⟨lg, lo + j * 32, none⟩)) rfl (by kernel_rfl) (by kernel_rfl) (by kernel_rfl) (fun _ _ _ h => h) (Or.inl ⟨by kernel_rfl, by intro w hw; go_simp; try (intro hq; omega)⟩) hS0 ?_
          try simp only [Act.put, List.setIfInBounds_toArray, List.set_cons_zero, List.set_cons_succ]
          refine wpAnyH_take (i := 3) (oi := ({ dst := some 37, op := Op.load 24 (Operand.tmp 36), type := 24, pos := "outright.go:123", after := #[{ on := 2, ground := Ground.data }], guard := none } : Oper)) (v := .agg (hbs y)) rfl (by kernel_rfl) (by kernel_rfl) (by kernel_rfl) (fun _ _ _ h => h) (yields_loadV (by kernel_rfl) (.tmp 36) 24 32 rfl Tryd.isAgg24 Tryd.sizeOf24 lg (lo + j * 32) rfl (hbs y) hys (fun w hw => HYC7.out w hw)) hS0 ?_
          try simp only [Act.put, List.setIfInBounds_toArray, List.set_cons_zero, List.set_cons_succ]
          refine wpAnyH_take (i := 4) (oi := ({ dst := some 38, op := Op.load 24 (Operand.tmp 8), type := 24, pos := "outright.go:123", after := #[], guard := none } : Oper)) (v := .agg (hbs r)) rfl (by kernel_rfl) (by kernel_rfl) (by kernel_rfl) (fun _ _ _ h => h) (yields_loadV (by kernel_rfl) (.tmp 8) 24 32 rfl Tryd.isAgg24 Tryd.sizeOf24 cb (0) rfl (hbs r) hrs (fun w hw => HCR7.out w hw)) hS0 ?_
          try simp only [Act.put, List.setIfInBounds_toArray, List.set_cons_zero, List.set_cons_succ]
          refine wpAnyH_take (i := 5) (oi := ({ dst := some 39, op := Op.build 60 #[(0, Operand.tmp 37), (1, Operand.tmp 38)], type := 60, pos := "outright.go:123", after := #[{ on := 3, ground := Ground.data }, { on := 4, ground := Ground.data }], guard := none } : Oper)) (v := .agg (h2c y r)) rfl (by kernel_rfl) (by kernel_rfl) (by kernel_rfl) (fun _ _ _ h => h) (yields_prbuild (by kernel_rfl) (.tmp 37) (.tmp 38) rfl y r Y32.out R32.out rfl rfl) hS0 ?_
          try simp only [Act.put, List.setIfInBounds_toArray, List.set_cons_zero, List.set_cons_succ]
          refine wpAnyH_ready (rs := [6]) (by kernel_rfl) (by simp) ?_
          refine (AllReadyH.cons (o := ({ dst := none, op := Op.store 60 (Operand.tmp 10) (Operand.tmp 39), type := 0, pos := "outright.go:123", after := #[{ on := 5, ground := Ground.data }, { on := 0, ground := Ground.phase }, { on := 1, ground := Ground.phase }, { on := 2, ground := Ground.phase }, { on := 3, ground := Ground.phase }, { on := 4, ground := Ground.phase }, { on := 5, ground := Ground.phase }], guard := none } : Oper)) rfl (fun K' hK => ?_) AllReadyH.nil)
          have jz := (nb.block _ (heap_lt HP7.out) (fun f => f)).trans HP7.out
          refine step_store_agg rfl (.tmp 10) (.tmp 39) 60 64 rfl Tryd.sizeOf60 pb 0 rfl (h2c r y) 60 jz (h2c y r) rfl (h2c_size Y32.out R32.out) (h2c_one _ _) (by rw [h2c_size R32.out Y32.out]; decide) (h2c y r) (by rw [dropA (h2c_size R32.out Y32.out)]; simp) ?_
          intro w9 j9 f9 z9
          clear z9
          have nf : Fr (fun k => k = pb) w7 w9 := (nb.mono (fun _ _ f => f.elim)).trans f9 (fun j _ h => h)
          have nb := nf
          refine hK.out _ _ (by first | exact nb.mono (fun _ _ f => f.elim) | exact nb) (fun hS0 => ?_)
          try simp only [Act.put, List.setIfInBounds_toArray, List.set_cons_zero, List.set_cons_succ]
          refine wpAnyH_done (by kernel_rfl) ?_ _
          go_wp2_with fail
          go_meet
          exact ⟨rfl, y, r, j9, Y32.out, R32.out, rfl, rfl, N7.out.trans nb (fun k hk q => by have := LP7.out; omega)⟩
      case rest =>
      obtain ⟨rfl, p1, p2, jp, h1, h2, e1, e2, n8⟩ := hcut
      obtain ⟨w8, hw8⟩ : ∃ q, q = wc := ⟨_, rfl⟩
      rw [← hw8] at jp n8 ⊢
      have P132 := hid_of h1
      have P232 := hid_of h2
      have HP8 := hid_of jp
      have N8 := hid_of n8
      have HPR : Hid ((prs x L s).take (j + 1) = (prs x L s).take j ++ [(p1, p2)]) := by
        show _ = _
        rw [List.take_add_one, prs_get x L s j y b HY.out HB.out, ← HR.out]
        cases b
        · rw [e1, e2]; rfl
        · rw [e1, e2]; rfl
      have HCL : Hid (clm x (L.take (j + 1)) (s.take (j + 1)) = ndp p1 p2) := by
        show _ = _
        rw [clm_step x L s j y b HY.out HB.out, ← HR.out]
        cases b
        · rw [e1, e2]; rfl
        · rw [e1, e2]; rfl
      have hps : (h2c p1 p2).size = 64 := h2c_size h1 h2
      have hp1s : (hbs p1).size = 32 := by rw [hbs_size, h1]
      have hp2s : (hbs p2).size = 32 := by rw [hbs_size, h2]
      have HPC := hid_of (h2_cells jp h1)
      have HO8 : Hid (w8.ownsRow w.heap.size 60 64 (.slice oa j oc) j (psc ((prs x L s).take j))) := ownsRow_keep HO.out (fun q hq => N8.out.block q (HO.out.lt q hq).2 (fun f => f))
      have HOA : Hid ((w8.alloc (.cells (h2c p1 p2) 60)).ownsRow w.heap.size 60 64 (.slice oa j oc) j (psc ((prs x L s).take j))) := HO8.out.alloc _
      have HNA : Hid (Nw wr (w8.alloc (.cells (h2c p1 p2) 60))) := N8.out.alloc _
      have HNew := hid_of (hash_new w8 (h2c p1 p2) 60)
      have HSZ : Hid (w.heap.size ≤ (w8.alloc (.cells (h2c p1 p2) 60)).heap.size) := (HNW.out.tr HNA.out).size
      have HSB : Hid (pb < w8.heap.size ∧ cb < wr.heap.size ∧ wr.heap.size ≤ w8.heap.size) := ⟨heap_lt jp, heap_lt HC.out, N8.out.size⟩
      clear hw8 jp n8 h1 h2 e1 e2 hc7
      go_wp2_with first
        | refine wple_load_at rfl (.tmp 10) 60 64 rfl Tryd.isAgg60 Tryd.sizeOf60 pb 0 rfl (h2c p1 p2) hps HPC.out.2.2 ?_
        | refine wp_build1Pr rfl (.tmp 41) rfl (h2c p1 p2) rfl hps ?_
        | (at_builtin; refine wpList_two _ rfl (.tmp 40) (.tmp 42) 56 rfl w.heap.size 60 i0 (.agg (z32 ++ z32)) 64 64 Tryd.underlying56 HI0.out.1 HI0.out.2.1 HI0.out.2.2.1 HI0.out.2.2.2 rfl (by decide) (.slice oa j oc) j (psc ((prs x L s).take j)) rfl HOA.out ⟨w8.heap.size, 0, none⟩ 1 1 (h2c p1 p2).toList rfl (by simp [hps]) HNew.out (h2c_one _ _) (by unfold maxLen; omega) (by omega) HSZ.out ?_; intro v' wk ok tk; have TK := hid_of tk; have OK := hid_of ok; obtain ⟨ya, yc, rfl⟩ := ownP_at ok; have HPk : Hid (wk.heap[pb]? = some (.cells (h2c p1 p2) 60)) := (tk.fr.block _ (by have := HSB.out; simp; omega) (fun e => by have := (HO.out.lt pb e).2; have := LP7.out; omega)).trans (((nwa w8 _).block _ (heap_lt HP8.out) (fun f => f)).trans HP8.out); have HPCk := hid_of (h2_cells HPk.out P132.out); clear ok tk)
        | refine wple_load_at rfl (.tmp 44) 24 32 rfl Tryd.isAgg24 Tryd.sizeOf24 pb 0 rfl (hbs p1) hp1s HPCk.out.1 ?_
        | refine wple_load_at rfl (.tmp 46) 24 32 rfl Tryd.isAgg24 Tryd.sizeOf24 pb 32 rfl (hbs p2) hp2s HPCk.out.2.1 ?_
      have Nk : Nw w wk := (HNW.out.tr HNA.out).trans TK.out.fr (fun q hq e => by have := (HO.out.lt q e).1; omega)
      have Ck : wk.heap[cb]? = some (.cells (hbs r) 24) := (TK.out.fr.block _ (by have := HSB.out; simp; omega) (fun e => HNE.out e)).trans ((HNA.out.block _ (heap_lt HC.out) (fun f => f)).trans HC.out)
      refine (QN.out _ p1 p2 Nk P132.out P232.out).mono ?_
      rintro e wm ⟨rfl, nm⟩
      have Cm := (nm.block _ (heap_lt Ck) (fun f => f)).trans Ck
      have HCm := hid_of Cm
      have hns : (hbs (ndp p1 p2)).size = 32 := by rw [hbs_size, ndp_len]
      have Om : Hid (wm.ownsRow w.heap.size 60 64 (.slice ya (j + 1) yc) (j + 1) (psc ((prs x L s).take j) ++ (h2c p1 p2).toList)) := ownsRow_keep OK.out (fun q hq => nm.block q (OK.out.lt q hq).2 (fun f => f))
      have Nm := hid_of (Nk.tr nm)
      obtain ⟨z, hz⟩ : ∃ z, z = ndp p1 p2 := ⟨_, rfl⟩
      rw [← hz] at hns HCL ⊢
      have HNEk : Hid ((Value.slice ya (j + 1) yc).ownBlock ≠ some cb) := by
        show _ ≠ _
        rcases TK.out.stays (by omega) with h | ⟨g', h, hg'⟩
        · rw [h]; exact HNE.out
        · rw [h]
          intro e
          have : g' = cb := Option.some.inj e
          have := HSB.out
          simp at hg'
          omega
      clear Nk Ck nm Cm hz
      go_wp2_with (refine wp_store_agg rfl (.tmp 8) (.tmp 48) 24 32 rfl Tryd.sizeOf24 cb 0 rfl (hbs r) 24 HCm.out (hbs z) rfl hns (hbs_one _) (by rw [hrs]; decide) (hbs z) (by rw [dropA hrs]; simp) ?_; intro wn jn fn zn; clear zn)
      refine ⟨⟨j + 1, ya, yc, by omega, rfl, by go_num, ?_, by rw [HCL.out]; exact jn, HNEk.out, Nm.out.trans fn (fun k hk q => by have := HCB.out; omega)⟩, by simp [intOf]; omega⟩
      rw [HPR.out, psc_app, psc_one]
      exact ownsRow_keep Om.out (fun q hq => fn.block q (Om.out.lt q hq).2 (fun e => HNEk.out (hq.trans (by rw [e]))))
    · obtain rfl : j = n := by omega
      have hki : ¬ (j : Int) < (j : Int) := by omega
      have HPL : Hid ((prs x L s).take j = prs x L s) := List.take_of_length_le (by rw [prs_len x L s (by rw [← HNL.out, ← HNS.out]), ← HNL.out]; exact Nat.le_refl _)
      go_wp2
      go_ret
      refine ⟨_, rfl, ?_, HNW.out⟩
      have := HO.out
      rw [HPL.out] at this
      exact this
end Go.Proofs.YtaeocbdphfkflaaDoor
