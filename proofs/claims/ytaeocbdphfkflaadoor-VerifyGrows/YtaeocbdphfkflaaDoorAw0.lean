/- law18: grown. -/
import Derived.Test.YtaeocbdphfkflaaDoorAv3
import Derived.Test.YtaeocbdphfkflaaDoorAo
import Derived.Deep.DeepCutAuto
namespace Go.Proofs.YtaeocbdphfkflaaDoor
open Go.RowKit
set_option linter.unusedVariables false
set_option linter.unusedSimpArgs false
theorem results_scs {P : Program} {w : World} {fn : Func} {i j s : Nat} {t : TypeId} {n g : Nat} {tmps : Array Value} {V : Array Value} {ty : TypeId} {f : Nat × Nat} (hr : fn.results = #[.tmp s, .cell i t, .tmp j]) (hagg : ∀ W : World, (isAgg t).run P W = .ok true W) (hsz : ∀ W : World, (sizeOf t).run P W = .ok n W)
    (hx : tmps.getD i undef = .pointer (some ⟨g, 0, none⟩)) (u v : Value) (hs : tmps.getD s undef = u) (hj : tmps.getD j undef = v) (hg : w.heap[g]? = some (.cells V ty f)) (hV : V.size = n) : (results fn tmps).run P w = .ok (.tuple #[u, .agg V, v]) w := by
  have hl : (loadCells ⟨g, 0, none⟩ n).run P w = .ok V w := by
    have := run_loadCells_list (P := P) w ⟨g, 0, none⟩ V.toList (fun j v hv => by
      rw [addZ, cell_of hg]
      simpa using hv)
    simpa [hV] using this
  have ha : ∀ W : World, (asAddr (.pointer (some ⟨g, 0, none⟩))).run P W = .ok ⟨g, 0, none⟩ W := fun W => by simp [asAddr]
  have hx2 : tmps[i]?.getD undef = .pointer (some ⟨g, 0, none⟩) := by rw [← hx]; simp [Array.getD]; split <;> simp_all
  have hj2 : tmps[j]?.getD undef = v := by rw [← hj]; simp [Array.getD]; split <;> simp_all
  have hs2 : tmps[s]?.getD undef = u := by rw [← hs]; simp [Array.getD]; split <;> simp_all
  simp [results, hr, hx2, hj2, hs2, ha, loadVar, hagg, hsz, hl]
theorem Hss.tail {w : World} {g o m cap : Nat} {ad2 : Option Addr} {y : List UInt8} {R : List (List UInt8)} (hm : m = R.length) (ha : 0 < m → ad2 = some ⟨g, o + 32, none⟩) (h : Hss w (.slice (some ⟨g, o, none⟩) (m + 1) cap) (y :: R)) : Hss w (.slice ad2 m (cap - 1)) R := by
  refine ⟨ad2, cap - 1, by rw [hm], fun k x hk => ?_⟩
  have hk1 := (List.getElem?_eq_some_iff.1 hk).1
  obtain ⟨p, off, e, hc⟩ := h.atT (k := k + 1) (x := x) (by simpa using hk)
  cases e
  refine ⟨g, o + 32, ha (by omega), fun j hj => ?_⟩
  rw [← hc j hj]
  congr 2
  omega
theorem Hss.fr {w w' : World} {g o m cap b : Nat} {ad2 : Option Addr} {R : List (List UInt8)} (h32 : ∀ x ∈ R, x.length = 32) (hm : R.length = m) (ha : 0 < m → ad2 = some ⟨g, o, none⟩) (hg : g ≠ b) (h : Hss w (.slice ad2 m cap) R) (f : Fr (fun k => k = b) w w') : Hss w' (.slice ad2 m cap) R := by
  refine ⟨ad2, cap, by rw [hm], fun k x hk => ?_⟩
  have hk1 := (List.getElem?_eq_some_iff.1 hk).1
  obtain ⟨p, off, e, hc⟩ := h.atT hk
  have e2 := ha (by omega)
  rw [e] at e2
  cases e2
  refine ⟨g, o, e, fun j hj => ?_⟩
  have hx := h32 x (List.mem_of_getElem? hk)
  have h6 := hc j hj
  obtain ⟨u, h5⟩ : ∃ u, (hbs x)[j]? = some u := ⟨_, Array.getElem?_eq_getElem (by rw [hbs_size, hx]; exact hj)⟩
  rw [h5] at h6
  rw [← hc j hj]
  exact f.cell (p := ⟨g, o + k * 32 + j, none⟩) (World.block_lt_of_cell? w _ h6) hg
theorem knb_dn (o n : Nat) (dn : List Bool) (h : gds o n = dn.reverse) : knb o n true = !decide (true ∈ dn) := by
  unfold knb
  rw [h]
  simp
set_option maxRecDepth 100000 in
set_option maxHeartbeats 16000000 in
theorem grown_any (o n : Nat) (ho : 1 ≤ o) (hon : o < n) (hn : n ≤ 9223372036854775808) (A C : List UInt8) (hA : A.length = 32) (hC : C.length = 32) (L : List (List UInt8)) (hL32 : ∀ y ∈ L, y.length = 32) (ad : Option Addr) (cap : Nat) (hcap : L.length ≤ cap) (hll : L.length = (gds o n).length + (if knb o n true then 0 else 1)) (v : World) (hs : Hss v (.slice ad L.length cap) L) (hLd : Laid v) :
    Calls Tryd.prog 28 #[.agg (pcs o n A C (.slice ad L.length cap))] v fun e w' => ∃ pa pc, e = .returned (.tuple #[.slice pa (gds o n).length pc, .agg (hbs (pkb (knb o n true) A L).1), .bool true]) ∧ Pm w' pa (prs (pkb (knb o n true) A L).1 (pkb (knb o n true) A L).2 (gds o n)) ∧ Nw v w' := by
  obtain ⟨i0, hi0, hie⟩ := Option.map_eq_some_iff.1 infoB
  simp only [Prod.mk.injEq] at hie
  have HI0 : Hid (Tryd.prog.info? 4 = some i0 ∧ i0.zero = some (.bool false) ∧ i0.size = 1 ∧ i0.bytes = 1) := ⟨hi0, hie.1, hie.2.1, hie.2.2⟩
  have HIN : Hid (1 ≤ o ∧ o < n ∧ n ≤ 9223372036854775808) := ⟨ho, hon, hn⟩
  have hS63 := gds_len 63 n o (Nat.le_trans hn (by decide))
  have HA := hid_of hA
  have HC := hid_of hC
  have hAs : (hbs A).size = 32 := by rw [hbs_size, hA]
  have HL32 : Hid (∀ y ∈ L, y.length = 32) := hL32
  have HLD : Hid (Laid v) := hLd
  have hkn : knb o n true = !decide (true ∈ gds o n) := by unfold knb; simp
  obtain ⟨S, hS⟩ : ∃ S, S = gds o n := ⟨_, rfl⟩
  obtain ⟨b, hb⟩ : ∃ b, b = knb o n true := ⟨_, rfl⟩
  have HS := hid_of hS
  rw [← hS, ← hb] at hll hkn
  rw [← hS] at hS63
  rw [← hS, ← hb]
  obtain ⟨F, R, hFR⟩ : ∃ F R, pkb b A L = (F, R) := ⟨_, _, rfl⟩
  have HFR := hid_of hFR
  rw [hFR]
  show Calls _ _ _ _ fun e w' => ∃ pa pc, e = .returned (.tuple #[.slice pa S.length pc, .agg (hbs F), .bool true]) ∧ Pm w' pa (prs F R S) ∧ Nw v w'
  clear hFR
  have HS63 := hid_of hS63
  have HKN := hid_of hkn
  have HLL := hid_of hll
  obtain ⟨ln, hln⟩ : ∃ q, q = L.length := ⟨_, rfl⟩
  have HLE : Hid (ln = L.length) := hln
  have HCAP : Hid (ln ≤ cap) := by show ln ≤ cap; rw [hln]; exact hcap
  have HSS : Hid (Hss v (.slice ad ln cap) L) := by rw [hln]; exact hs
  rw [← hln]
  obtain ⟨pv, hpv⟩ : ∃ p, p = pcs o n A C (.slice ad ln cap) := ⟨_, rfl⟩
  have HPV := hid_of hpv
  rw [← hpv]
  clear hi0 hie ho hon hn hA hC hL32 hcap hll hs hLd hS63 hkn hS hb hln hpv
  go_enter Tryd.func28, Tryd.ntmps28
  go_upto_region 1 with fail
  have b1 := heap_next v (.cells pv 45) (.cells z32 24)
  have b0 : ((v.alloc (.cells pv 45)).alloc (.cells z32 24)).heap[v.heap.size]? = some (.cells pv 45) := ((nwa (v.alloc (.cells pv 45)) _).block _ (heap_lt (heap_new _ _)) (fun f => f)).trans (heap_new _ _)
  have nA : Nw v ((v.alloc (.cells pv 45)).alloc (.cells z32 24)) := (nwa v _).alloc _
  have hsz : ((v.alloc (.cells pv 45)).alloc (.cells z32 24)).heap.size = v.heap.size + 2 := by simp
  try rw [z32_h]
  obtain ⟨w, hw1⟩ : ∃ q, (v.alloc (.cells pv 45)).alloc (.cells z32 24) = q := ⟨_, rfl⟩
  rw [hw1] at b0 b1 nA hsz ⊢
  clear hw1
  obtain ⟨xb, hxb⟩ : ∃ q, q = v.heap.size := ⟨_, rfl⟩
  rw [← hxb] at b0 b1 hsz ⊢
  obtain ⟨rb, hrb⟩ : ∃ q, q = xb + 1 := ⟨_, rfl⟩
  rw [← hrb] at b1 ⊢
  have HXB : Hid (w.heap[xb]? = some (.cells (pcs o n A C (.slice ad ln cap)) 45)) := by rw [← HPV.out]; exact b0
  have HRB : Hid (w.heap[rb]? = some (.cells z32 24)) := b1
  have HRS : Hid (w.heap.size = rb + 1 ∧ v.heap.size = xb ∧ rb = xb + 1) := ⟨by omega, hxb.symm, hrb⟩
  have N1 : Hid (Nw v w) := nA
  have HPC : Hid (∀ V, Nw w V → V.cell? ⟨xb, 0, none⟩ = some (.int .u64 (o : Int)) ∧ V.cell? ⟨xb, 1, none⟩ = some (.int .u64 (n : Int)) ∧ (∀ j, j < 32 → V.cell? ⟨xb, 2 + j, none⟩ = (hbs A)[j]?) ∧ (∀ j, j < 32 → V.cell? ⟨xb, 34 + j, none⟩ = (hbs C)[j]?) ∧ V.cell? ⟨xb, 66, none⟩ = some (.slice ad ln cap)) := fun V hV => pcs_cells HA.out HC.out ((hV.block _ (heap_lt HXB.out) (fun f => f)).trans HXB.out)
  clear hxb hrb hsz b0 b1 nA
  have c0 := (HPC.out w (nwr w)).1
  have c1 := (HPC.out w (nwr w)).2.1
  go_wp2_with fail
  clear c0 c1
  go_loopw [5, 6, 7, 8] (fun x y u z wr => ∃ (o' n' : Nat) (dn : List Bool) (va : Option Addr) (vc : Nat), x = .int .u64 (o' : Int) ∧ y = .int .u64 (n' : Int) ∧ u = .slice va dn.length vc ∧ z = .bool (!decide (true ∈ dn)) ∧ 1 ≤ o' ∧ o' ≤ n' ∧ n' ≤ 9223372036854775808 ∧ S = gds o' n' ++ dn.reverse ∧ wr.ownsRow w.heap.size 4 1 (.slice va dn.length vc) dn.length (bsc dn) ∧ Nw w wr) (fun _ y _ _ _ => (intOf y).toNat)
  case atStart => exact ⟨o, n, [], none, 0, rfl, rfl, rfl, rfl, HIN.out.1, by have := HIN.out.2.1; omega, HIN.out.2.2, by rw [HS.out]; simp, World.ownsRow_nil _ _ _ _, nwr w⟩
  case round =>
    obtain ⟨p, q, dn, va, vc, rfl, rfl, rfl, rfl, hp1, hpq, hq, hs, ho, hnw⟩ := hrel
    have HDS : Hid (S = gds p q ++ dn.reverse) := hs
    have HO : Hid (wr.ownsRow w.heap.size 4 1 (.slice va dn.length vc) dn.length (bsc dn)) := ho
    have HNW := hid_of hnw
    have hd63 : dn.length ≤ 63 := by
      have := HS63.out
      rw [hs] at this
      simp at this
      omega
    obtain ⟨dl, hdl⟩ : ∃ d, d = dn.length := ⟨_, rfl⟩
    have HDL := hid_of hdl
    rw [← hdl] at HO hd63 ⊢
    obtain ⟨wh, hwh⟩ : ∃ z, z = !decide (true ∈ dn) := ⟨_, rfl⟩
    have HWH := hid_of hwh
    rw [← hwh]
    clear hs ho hnw hdl hwh
    by_cases hlt : p < q
    · have h2 : 2 ≤ q := by omega
      have hq1 : (p : Int) < (q : Int) := by omega
      have hkl := spl_lt h2
      have hkp := spl_pos q
      obtain ⟨kk, hkk, hk3, hk4⟩ := spl_ex h2
      have HKK : Hid (spl q = 2 ^ kk ∧ 2 ^ kk < q ∧ q ≤ 2 * 2 ^ kk) := ⟨hkk, hk3, hk4⟩
      have HL : Hid (p ≤ spl q → gds p q = gds p (spl q) ++ [false]) := fun h => gds_left hlt h2 h
      have HR : Hid (¬ p ≤ spl q → gds p q = gds (p - spl q) (q - spl q) ++ [true]) := fun h => gds_right hlt h2 h
      obtain ⟨k, hk⟩ : ∃ k, k = spl q := ⟨_, rfl⟩
      have HK := hid_of hk
      rw [← hk] at hkl hkp HL HR
      clear hk h2 hkk hk3 hk4
      obtain ⟨wy, hwy⟩ : ∃ q, q = wr := ⟨_, rfl⟩
      rw [← hwy] at HO HNW ⊢
      have HWY := hid_of hwy
      clear hwy
      go_wp2
      go_loopw [9] (fun z wx => wx = wy ∧ ∃ c j : Nat, c = 2 ^ j ∧ z = .int .u64 (c : Int) ∧ c < q ∧ c ≤ k) (fun z _ => q - (intOf z).toNat)
      case atStart => exact ⟨rfl, 1, 0, rfl, rfl, by omega, by omega⟩
      case round =>
        obtain ⟨rfl, c, j, hc, rfl, hlt, hck⟩ := hrel
        have HC2 : Hid (c = 2 ^ j) := hc
        have hc0 : 0 < c := by rw [hc]; exact Nat.two_pow_pos j
        clear hc
        obtain ⟨D, hD⟩ : ∃ D : Nat, (q : Int) - (c : Int) = (D : Int) := ⟨q - c, by omega⟩
        by_cases hcc : 2 * c < q
        · have hc1 : (c : Int) < (D : Int) := by omega
          have HCK : Hid (2 * c ≤ k) := by
            show 2 * c ≤ k
            rw [HK.out, HKK.out.1]
            have h6 : 2 ^ (j + 1) < 2 * 2 ^ kk := by rw [Nat.pow_succ', ← HC2.out]; have := HKK.out.2.2; omega
            have h7 : j + 1 < kk + 1 := by
              rw [← Nat.pow_succ'] at h6
              exact (Nat.pow_lt_pow_iff_right (by decide)).1 h6
            rw [show 2 * c = 2 ^ (j + 1) by rw [Nat.pow_succ', ← HC2.out]]
            exact Nat.pow_le_pow_right (by decide) (by omega)
          go_wp2_with fail
          exact ⟨⟨trivial, 2 * c, j + 1, by rw [HC2.out, Nat.pow_succ'], by go_num, hcc, HCK.out⟩, by simp [intOf]; omega⟩
        · have hc1 : ¬ (c : Int) < (D : Int) := by omega
          have hkc : k = c := by rw [HK.out, HC2.out]; exact spl_of (by rw [← HC2.out]; exact hlt) (by rw [← HC2.out]; omega)
          subst hkc
          clear hcc hck
          have OWN : Hid ((wr.alloc (.cells #[.bool (decide (k < p))] 4)).ownsRow w.heap.size 4 1 (.slice va dl vc) dl (bsc dn)) := HO.out.alloc _
          have HNB : Hid (Nw w (wr.alloc (.cells #[.bool (decide (k < p))] 4))) := HNW.out.alloc _
          have HNew := hid_of (one_newB wr (.bool (decide (k < p))) 4)
          have HSZ : Hid (w.heap.size ≤ (wr.alloc (.cells #[.bool (decide (k < p))] 4)).heap.size) := HNB.out.size
          by_cases hp : p ≤ k
          · skip
            have hpi : (p : Int) ≤ (k : Int) := by omega
            have HB : Hid (decide (k < p) = false) := decide_eq_false (by omega)
            have HL1 := hid_of (HL.out hp)
            go_wp2_with (at_builtin; refine wpList_append_own _ rfl (.tmp 28) (.tmp 32) 54 rfl w.heap.size 4 i0 (.bool false) 1 1 Tryd.underlying54 HI0.out.1 HI0.out.2.1 HI0.out.2.2.1 HI0.out.2.2.2 rfl (by decide) (.slice va dl vc) dl (bsc dn) rfl OWN.out ⟨wr.heap.size, 0, none⟩ 1 1 [.bool (decide (k < p))] rfl rfl HNew.out (by simp [Value.oneCell']) (by unfold maxLen; omega) (by omega) HSZ.out ?_; intro v' w6 o6 g6 x6; clear x6; have N6 : Hid (Nw w w6) := HNB.out.grown g6 (fun t ht hlt => by have := (OWN.out.lt t ht).1; omega); have O6 := hid_of o6; obtain ⟨ya, yc, rfl⟩ := ownB_at o6)
            refine ⟨⟨p, k, dn ++ [false], ya, yc, rfl, rfl, by simp [HDL.out], by rw [HWH.out]; simp, hp1, hp, by omega, by rw [HDS.out, HL1.out]; simp, ?_, N6.out⟩, by simp [intOf]; omega⟩
            rw [bsc_app, List.length_append, ← HDL.out]
            have := O6.out
            rw [HB.out] at this
            exact this
          · skip
            have hpi : ¬ (p : Int) ≤ (k : Int) := by omega
            have HB : Hid (decide (k < p) = true) := decide_eq_true (by omega)
            have HR1 := hid_of (HR.out hp)
            obtain ⟨p', hp'⟩ : ∃ p', p = k + p' := ⟨p - k, by omega⟩
            obtain ⟨q', hq'⟩ : ∃ q', q = k + q' := ⟨q - k, by omega⟩
            have hs1 : IntKind.u64.wrap ((p : Int) - (k : Int)) = (p' : Int) := by rw [IntKind.wrap_u64]; omega
            have hs2 : IntKind.u64.wrap ((q : Int) - (k : Int)) = (q' : Int) := by rw [IntKind.wrap_u64]; omega
            have HPP := hid_of hp'
            have HQQ := hid_of hq'
            clear hp' hq'
            go_wp2_with (at_builtin; refine wpList_append_own _ rfl (.tmp 28) (.tmp 32) 54 rfl w.heap.size 4 i0 (.bool false) 1 1 Tryd.underlying54 HI0.out.1 HI0.out.2.1 HI0.out.2.2.1 HI0.out.2.2.2 rfl (by decide) (.slice va dl vc) dl (bsc dn) rfl OWN.out ⟨wr.heap.size, 0, none⟩ 1 1 [.bool (decide (k < p))] rfl rfl HNew.out (by simp [Value.oneCell']) (by unfold maxLen; omega) (by omega) HSZ.out ?_; intro v' w6 o6 g6 x6; clear x6; have N6 : Hid (Nw w w6) := HNB.out.grown g6 (fun t ht hlt => by have := (OWN.out.lt t ht).1; omega); have O6 := hid_of o6; obtain ⟨ya, yc, rfl⟩ := ownB_at o6)
            have e1 := HPP.out
            have e2 := HQQ.out
            refine ⟨⟨p', q', dn ++ [true], ya, yc, by go_num, by go_num, by simp [HDL.out], by simp, by omega, by omega, by omega, by rw [HDS.out, HR1.out, show p - k = p' by omega, show q - k = q' by omega]; simp, ?_, N6.out⟩, by simp [intOf]; omega⟩
            rw [bsc_app, List.length_append, ← HDL.out]
            have := O6.out
            rw [HB.out] at this
            exact this
    · obtain rfl : p = q := by omega
      have hq1 : ¬ (p : Int) < (p : Int) := by omega
      have HSD : Hid (S = dn.reverse) := by show S = _; rw [HDS.out, gds_same]; rfl
      have HBW : Hid (b = wh) := by show b = _; rw [HKN.out, HWH.out, HSD.out]; simp
      have hbw : b = wh := HBW.out
      subst hbw
      clear hlt hpq hq hp1
      obtain ⟨wq, hwq⟩ : ∃ q, q = wr := ⟨_, rfl⟩
      rw [← hwq] at HO HNW ⊢
      have HWQ := hid_of hwq
      clear hwq
      have c6 := (HPC.out wq HNW.out).2.2.2.2
      have FA := hid_of (HPC.out wq HNW.out).2.2.1
      go_upto_if 49 with first
        | refine wpl_loadN (by kernel_rfl) (.tmp 46) 24 32 rfl Tryd.isAgg24 Tryd.sizeOf24 xb 2 rfl (hbs A) hAs FA.out ?_
        | (refine wp_store_agg rfl (.tmp 11) (.tmp 47) 24 32 rfl Tryd.sizeOf24 wq.heap.size 0 rfl z32 24 (by rw [← z32_h]; exact heap_new _ _) (hbs A) rfl hAs (hbs_one _) (by decide) (hbs A) (by rw [dropA z32_size]; simp) ?_; intro w5 j5 f5 y5; clear y5)
      have n5 : Nw wq w5 := (nwa wq _).trans f5 (fun k hk q => by omega)
      obtain ⟨fb, hfb⟩ : ∃ q, q = wq.heap.size := ⟨_, rfl⟩
      have HFS := hid_of hfb
      rw [← hfb] at j5 ⊢
      have HF5 : Hid (w5.heap[fb]? = some (.cells (hbs A) 24)) := j5
      have HO5 : Hid (w5.ownsRow w.heap.size 4 1 (.slice va dl vc) dl (bsc dn)) := ownsRow_keep HO.out (fun q hq => n5.block q (HO.out.lt q hq).2 (fun f => f))
      have HDF : Hid ((Value.slice va dl vc).ownBlock ≠ some fb) := by
        show _ ≠ _
        intro e
        have := (HO.out.lt fb e).2
        have := HFS.out
        omega
      have N5 : Hid (Nw w w5) := HNW.out.tr n5
      have HFW : Hid (w.heap.size ≤ fb) := by show _ ≤ fb; rw [hfb]; exact HNW.out.size
      have HDS2 : Hid (dl = S.length) := by show dl = _; rw [HSD.out, List.length_reverse]; exact HDL.out
      have HLS5 : Hid (Hss w5 (.slice ad ln cap) L) := HSS.out.nw HL32.out (N1.out.tr N5.out)
      have HPK : Hid (∀ F R, pkb b A L = (F, R) → F.length = 32 ∧ (∀ y ∈ R, y.length = 32) ∧ R.length = dl) := fun F R e => by
        have hll := HLL.out
        rw [← HDS2.out] at hll
        cases hb : b
        · rw [hb] at e hll
          cases hL : L with
          | nil => rw [hL] at hll; simp at hll
          | cons y R' =>
            rw [hL] at e hll
            obtain ⟨rfl, rfl⟩ := Prod.mk.inj e
            exact ⟨HL32.out _ (by rw [hL]; simp), fun z hz => HL32.out z (by rw [hL]; simp [hz]), by simpa using hll⟩
        · rw [hb] at e hll
          obtain ⟨rfl, rfl⟩ := Prod.mk.inj e
          exact ⟨HA.out, HL32.out, by simpa using hll⟩
      have F32 : Hid (F.length = 32) := (HPK.out F R HFR.out).1
      have R32 : Hid (∀ y ∈ R, y.length = 32) := (HPK.out F R HFR.out).2.1
      have HRL : Hid (R.length = dl) := (HPK.out F R HFR.out).2.2
      have hFs : (hbs F).size = 32 := by rw [hbs_size, F32.out]
      obtain ⟨w5', hw5⟩ : ∃ q, q = w5 := ⟨_, rfl⟩
      rw [← hw5] at HF5 HO5 N5 HLS5 ⊢
      clear c6 FA hfb j5 f5 n5 hw5 HPK
      go_cut [10] (fun u wx => ∃ ra rc, u = .slice ra dl rc ∧ wx.heap[fb]? = some (.cells (hbs F) 24) ∧ Hss wx (.slice ra dl rc) R ∧ Fr (fun k => k = fb) w5' wx)
      case first =>
        cases b
        · obtain ⟨y, R', hL⟩ : ∃ y R', L = y :: R' := by
            have := HLL.out
            cases hL : L with
            | nil => rw [hL] at this; simp at this
            | cons y R' => exact ⟨y, R', rfl⟩
          have hpk := HFR.out
          rw [hL] at hpk
          obtain ⟨rfl, rfl⟩ := Prod.mk.inj hpk
          have hln : ln = dl + 1 := by rw [HLE.out, hL, List.length_cons, HRL.out]
          subst hln
          obtain ⟨g, off, rfl, hcl⟩ := HLS5.out.atT (k := 0) (x := y) (by rw [hL]; rfl)
          obtain ⟨ad2, had2, hcut⟩ := cut_one g off dl cap HCAP.out
          have HTL : Hid (Hss w5' (.slice ad2 dl (cap - 1)) R') := by
            have h9 := HLS5.out
            rw [hL] at h9
            exact Hss.tail HRL.out.symm had2 h9
          have HCL := hid_of hcl
          have HGF : Hid (g ≠ fb) := by
            show g ≠ fb
            obtain ⟨g', off', e', h6⟩ := HSS.out.atT (k := 0) (x := y) (by rw [hL]; rfl)
            cases e'
            have h7 := h6 0 (by decide)
            obtain ⟨u, h5⟩ : ∃ u, (hbs y)[0]? = some u := ⟨_, Array.getElem?_eq_getElem (by rw [hFs]; decide)⟩
            rw [h5] at h7
            have h8 : g < v.heap.size := World.block_lt_of_cell? v _ h7
            have := HFW.out
            have := HRS.out
            omega
          have HAD2 := hid_of had2
          have hl0 : (((dl + 1 : Nat) : Int) == 0) = false := by rw [beq_eq_false_iff_ne]; omega
          have hl1 : ((dl : Int) + 1 == 0) = false := by rw [beq_eq_false_iff_ne]; omega
          have hl2 : (0 : Int) < (dl : Int) + 1 := by omega
          clear hL hcl had2 hpk
          go_wp2_with first
            | refine wpl_loadN (by kernel_rfl) (.tmp 55) 24 32 rfl Tryd.isAgg24 Tryd.sizeOf24 g (off + 0 * 32) rfl (hbs y) hFs HCL.out ?_
            | refine wpl_loadN (by kernel_rfl) (.tmp 55) 24 32 rfl Tryd.isAgg24 Tryd.sizeOf24 g off rfl (hbs y) hFs (by simpa using HCL.out) ?_
            | (refine wp_store_agg rfl (.tmp 11) (.tmp 56) 24 32 rfl Tryd.sizeOf24 fb 0 rfl (hbs A) 24 HF5.out (hbs y) rfl hFs (hbs_one _) (by rw [hAs]; decide) (hbs y) (by rw [dropA hAs]; simp) ?_; intro w6 j6 f6 y6; clear y6)
          go_meet
          exact ⟨ad2, cap - 1, rfl, j6, Hss.fr R32.out HRL.out HAD2.out HGF.out HTL.out f6, f6⟩
        · obtain ⟨rfl, rfl⟩ := Prod.mk.inj HFR.out
          have hln : ln = dl := by rw [HLE.out]; exact HRL.out
          subst hln
          go_wp2
          go_meet
          exact ⟨ad, cap, rfl, HF5.out, HLS5.out, Fr.refl _ _⟩
      case rest =>
      obtain ⟨ra, rc, rfl, jf, hlr, f6⟩ := hcut
      obtain ⟨wy, hwy⟩ : ∃ q, q = wc := ⟨_, rfl⟩
      rw [← hwy] at jf hlr f6 ⊢
      have HWY := hid_of hwy
      have HFY : Hid (wy.heap[fb]? = some (.cells (hbs F) 24)) := jf
      have HLY : Hid (Hss wy (.slice ra dl rc) R) := hlr
      have HOY : Hid (wy.ownsRow w.heap.size 4 1 (.slice va dl vc) dl (bsc dn)) := ownsRow_keep HO5.out (fun q hq => f6.block q (HO5.out.lt q hq).2 (fun e => HDF.out (hq.trans (by rw [e]))))
      have NY : Hid (Nw w wy) := N5.out.trans f6 (fun k hk q => by have := HFW.out; omega)
      have hdl63 : dl ≤ 63 := hd63
      clear hwy jf hlr f6 HF5 HO5 N5 HLS5
      go_wp2
      go_loopw [12, 13] (fun u x wx => ∃ (t : Nat) (z : Int) (ua : Option Addr) (uc : Nat), t ≤ dl ∧ u = .slice ua t uc ∧ x = .int .i64 z ∧ z = (dl : Int) - 1 - (t : Int) ∧ wx.ownsRow wy.heap.size 4 1 (.slice ua t uc) t (bsc (dn.reverse.take t)) ∧ wx.ownsRow w.heap.size 4 1 (.slice va dl vc) dl (bsc dn) ∧ ((Value.slice ua t uc).ownBlock = none ∨ (Value.slice ua t uc).ownBlock ≠ (Value.slice va dl vc).ownBlock) ∧ Nw wy wx) (fun _ x _ => (intOf x + 1).toNat)
      case atStart => exact ⟨0, _, none, 0, by omega, rfl, rfl, by omega, by rw [List.take_zero]; exact World.ownsRow_nil _ _ _ _, HOY.out, .inl rfl, nwr wy⟩
      case round =>
        obtain ⟨t, z, ua, uc, ht, rfl, rfl, hz, hu, hd, hne, hnw⟩ := hrel
        have HU := hid_of hu
        have HD := hid_of hd
        have HNE := hid_of hne
        have HNX := hid_of hnw
        clear hu hd hne hnw
        by_cases htd : t < dl
        · obtain ⟨c, hc⟩ : ∃ c : Nat, c + t + 1 = dl := ⟨dl - 1 - t, by omega⟩
          obtain rfl : z = (c : Int) := by omega
          obtain ⟨b', hb'⟩ : ∃ b, dn[c]? = some b := ⟨_, List.getElem?_eq_getElem (by have := HDL.out; omega)⟩
          obtain ⟨g, cap', hv, hcap'⟩ := ownB_form HD.out (by omega)
          cases hv
          have hcell := ownB_cell HD.out hb'
          have HTK : Hid (dn.reverse.take (t + 1) = dn.reverse.take t ++ [b']) := by
            show _ = _
            have h1 : dn.reverse[t]? = some b' := by
              rw [List.getElem?_reverse (by have := HDL.out; omega)]
              rw [show dn.length - 1 - t = c by have := HDL.out; omega]
              exact hb'
            rw [List.take_add_one, h1]
            rfl
          have HCC := hid_of hc
          have hcd : (c : Int) < (dl : Int) := by omega
          have hc0 : (0 : Int) ≤ (c : Int) := by omega
          have OWN : Hid ((wr.alloc (.cells #[.bool b'] 4)).ownsRow wy.heap.size 4 1 (.slice ua t uc) t (bsc (dn.reverse.take t))) := HU.out.alloc _
          have HNB : Hid (Nw wy (wr.alloc (.cells #[.bool b'] 4))) := HNX.out.alloc _
          have HNew := hid_of (one_newB wr (.bool b') 4)
          have HSZ : Hid (wy.heap.size ≤ (wr.alloc (.cells #[.bool b'] 4)).heap.size) := HNB.out.size
          clear hb' hc hz
          go_wp2_with (at_builtin; refine wpList_two _ rfl (.tmp 72) (.tmp 77) 54 rfl wy.heap.size 4 i0 (.bool false) 1 1 Tryd.underlying54 HI0.out.1 HI0.out.2.1 HI0.out.2.2.1 HI0.out.2.2.2 rfl (by decide) (.slice ua t uc) t (bsc (dn.reverse.take t)) rfl OWN.out ⟨wr.heap.size, 0, none⟩ 1 1 [.bool b'] rfl rfl HNew.out (by simp [Value.oneCell']) (by unfold maxLen; omega) (by omega) HSZ.out ?_; intro v' w6 o6 t6; have T6 := hid_of t6; have O6 := hid_of o6; obtain ⟨ya, yc, rfl⟩ := ownB_at o6; clear o6 t6)
          have NL : Nw wy w6 := HNB.out.trans T6.out.fr (fun q hq hlt => by have := (OWN.out.lt q hlt).1; omega)
          have hgd : g < wr.heap.size := (HD.out.lt g rfl).2
          have DK : w6.ownsRow w.heap.size 4 1 (.slice (some ⟨g, 0, none⟩) dl vc) dl (bsc dn) := ownsRow_keep (HD.out.alloc _) (fun q hq => T6.out.fr.block q ((HD.out.alloc (.cells #[.bool b'] 4)).lt q hq).2 (fun e => by
            rcases HNE.out with h | h
            · rw [h] at e; cases e
            · exact h (e.trans hq.symm)))
          refine ⟨⟨t + 1, _, ya, yc, by omega, rfl, rfl, by have := HCC.out; omega, by rw [HTK.out, bsc_app]; exact O6.out, DK, ?_, NL⟩, by simp [intOf]⟩
          rcases T6.out.stays (by omega) with h | ⟨g', h, hg'⟩
          · rcases HNE.out with h3 | h3
            · exact .inl (h.trans h3)
            · exact .inr (fun e => h3 (h.symm.trans e))
          · refine .inr (fun e => ?_)
            rw [h] at e
            have : g' = g := Option.some.inj e
            simp at hg'
            omega
        · obtain rfl : t = dl := by omega
          obtain rfl : z = -1 := by omega
          have HRV : Hid (S = dn.reverse.take t) := by show S = _; rw [HSD.out, List.take_of_length_le (by rw [List.length_reverse, ← HDL.out]; exact Nat.le_refl _)]
          have HBS : Hid (Bls wr ua S) := by show Bls wr ua S; rw [HRV.out]; exact Bls.of HU.out
          obtain ⟨wz, hwz⟩ : ∃ q, q = wr := ⟨_, rfl⟩
          rw [← hwz] at HNX HBS ⊢
          have HWZ := hid_of hwz
          clear hwz HU HD
          have NZ : Hid (Nw w wz) := NY.out.tr HNX.out
          have HFZ : Hid (wz.heap[fb]? = some (.cells (hbs F) 24)) := (HNX.out.block _ (heap_lt HFY.out) (fun f => f)).trans HFY.out
          have HRZ : Hid (wz.heap[rb]? = some (.cells z32 24)) := (NZ.out.block _ (heap_lt HRB.out) (fun f => f)).trans HRB.out
          have QCL : Hid (∀ V, Nw wz V → Calls Tryd.prog 24 #[.agg (hbs F), .slice ra t rc, .slice ua t uc] V fun e w' => ∃ pa pc, e = .returned (.slice pa t pc) ∧ w'.ownsRow w.heap.size 60 64 (.slice pa t pc) t (psc (prs F R S)) ∧ Nw V w') := fun V hV => by
            have := climbs_any F F32.out R R32.out S (by rw [HRL.out]; exact HDS2.out) (by rw [HRL.out]; omega) ra rc ua uc V (by rw [HRL.out]; exact HLY.out.nw R32.out (HNX.out.tr hV)) (HBS.out.nw hV) (HLD.out.nw ((N1.out.tr NZ.out).tr hV))
            rw [HRL.out, ← HDS2.out] at this
            refine this.mono ?_
            rintro e w' ⟨u, rfl, hu, hn⟩
            obtain ⟨pa, pc, rfl⟩ := ownP_at hu
            exact ⟨pa, pc, rfl, ownsRow_base hu (NZ.out.tr hV).size, hn⟩
          have HFC : Hid (∀ V, Fr (fun k => k = rb) wz V → ∀ j, j < 32 → V.cell? ⟨fb, 0 + j, none⟩ = (hbs F)[j]?) := fun V hV => hash_cells ((hV.block _ (heap_lt HFZ.out) (fun q => by have := HFW.out; have := HRS.out; omega)).trans HFZ.out)
          have HP32 : Hid (∀ p ∈ prs F R S, p.1.length = 32 ∧ p.2.length = 32) := prs_32 F R S F32.out R32.out
          have HPL : Hid ((prs F R S).length = t) := (prs_len F R S (by rw [HRL.out]; exact HDS2.out)).trans HRL.out
          go_upto_region 29 with fail
          have nb : Nw wz wz.drew := (Fr.refl _ _).drew
          refine wp_region_held_drew (S := (fun V => Fr (fun k => k = rb) wz V)) (by kernel_rfl) (by first | exact nb.mono (fun _ _ f => f.elim) | exact nb) ?_
          intro hS0
          refine wpAnyH_take (i := 0) (oi := ({ dst := some 79, op := Op.load 24 (Operand.tmp 11), type := 24, pos := "outright.go:202", after := #[], guard := none } : Oper)) (v := .agg (hbs F)) rfl (by kernel_rfl) (by kernel_rfl) (by kernel_rfl) (fun _ _ _ h => h) (yields_loadV (by kernel_rfl) (.tmp 11) 24 32 rfl Tryd.isAgg24 Tryd.sizeOf24 fb (0) rfl (hbs F) hFs (fun w hw => HFC.out w hw)) hS0 ?_
          try simp only [Act.put, List.setIfInBounds_toArray, List.set_cons_zero, List.set_cons_succ]
          refine wpAnyH_take (i := 1) (oi := ({ dst := some 80, op := Op.move (Operand.tmp 10), type := 25, pos := "outright.go:202", after := #[], guard := none } : Oper)) (v := .slice ra t rc) rfl (by kernel_rfl) (by kernel_rfl) (by kernel_rfl) (fun _ _ _ h => h) (Or.inl ⟨by rfl, by intro w hw; go_simp⟩) hS0 ?_
          try simp only [Act.put, List.setIfInBounds_toArray, List.set_cons_zero, List.set_cons_succ]
          refine wpAnyH_take (i := 2) (oi := ({ dst := some 81, op := Op.move (Operand.tmp 12), type := 54, pos := "outright.go:202", after := #[], guard := none } : Oper)) (v := .slice ua t uc) rfl (by kernel_rfl) (by kernel_rfl) (by kernel_rfl) (fun _ _ _ h => h) (Or.inl ⟨by rfl, by intro w hw; go_simp⟩) hS0 ?_
          try simp only [Act.put, List.setIfInBounds_toArray, List.set_cons_zero, List.set_cons_succ]
          refine wpAnyH_take (i := 4) (oi := ({ dst := some 83, op := Op.load 24 (Operand.tmp 11), type := 24, pos := "outright.go:202", after := #[{ on := 5, ground := Ground.gcOnly Departure.lateStores }], guard := none } : Oper)) (v := .agg (hbs F)) rfl (by kernel_rfl) (by kernel_rfl) (by kernel_rfl) (fun _ _ _ h => h) (yields_loadV (by kernel_rfl) (.tmp 11) 24 32 rfl Tryd.isAgg24 Tryd.sizeOf24 fb (0) rfl (hbs F) hFs (fun w hw => HFC.out w hw)) hS0 ?_
          try simp only [Act.put, List.setIfInBounds_toArray, List.set_cons_zero, List.set_cons_succ]
          refine wpAnyH_ready (rs := [3]) (by kernel_rfl) (by simp) ?_
          refine (AllReadyH.cons (o := ({ dst := some 82, op := Op.call { callee := Callee.value (Operand.func 24), args := #[Operand.tmp 79, Operand.tmp 80, Operand.tmp 81], argTypes := #[24, 25, 54] }, type := 56, pos := "outright.go:202", after := #[{ on := 0, ground := Ground.data }, { on := 1, ground := Ground.data }, { on := 2, ground := Ground.data }], guard := none } : Oper)) rfl (fun K' hK => ?_) AllReadyH.nil)
          go_simp
          go_wp2_with (go_at_call 24; refine (QCL.out _ nb).mono ?_; rintro ex w101 ⟨pa, pc, rfl, ov, nw101⟩)
          have nb := nb.tr nw101
          refine hK.out _ _ (by first | exact nb.mono (fun _ _ f => f.elim) | exact nb) (fun hS0 => ?_)
          try simp only [Act.put, List.setIfInBounds_toArray, List.set_cons_zero, List.set_cons_succ]
          refine wpAnyH_ready (rs := [5]) (by kernel_rfl) (by simp) ?_
          refine (AllReadyH.cons (o := ({ dst := some 2, op := Op.assign (Operand.tmp 82), type := 56, pos := "outright.go:202", after := #[{ on := 3, ground := Ground.data }, { on := 3, ground := Ground.chain }, { on := 0, ground := Ground.phase }, { on := 1, ground := Ground.phase }, { on := 2, ground := Ground.phase }, { on := 3, ground := Ground.phase }, { on := 4, ground := Ground.textOnly Departure.lateStores }], guard := none } : Oper)) rfl (fun K' hK => ?_) AllReadyH.nil)
          go_simp
          refine hK.out _ _ (by first | exact nb.mono (fun _ _ f => f.elim) | exact nb) (fun hS0 => ?_)
          try simp only [Act.put, List.setIfInBounds_toArray, List.set_cons_zero, List.set_cons_succ]
          refine wpAnyH_ready (rs := [6]) (by kernel_rfl) (by simp) ?_
          refine (AllReadyH.cons (o := ({ dst := none, op := Op.store 24 (Operand.tmp 3) (Operand.tmp 83), type := 0, pos := "outright.go:202", after := #[{ on := 4, ground := Ground.data }, { on := 5, ground := Ground.chain }, { on := 0, ground := Ground.phase }, { on := 1, ground := Ground.phase }, { on := 2, ground := Ground.phase }, { on := 3, ground := Ground.phase }, { on := 4, ground := Ground.phase }, { on := 5, ground := Ground.phase }], guard := none } : Oper)) rfl (fun K' hK => ?_) AllReadyH.nil)
          have jz : w101.heap[rb]? = some (.cells z32 24) := (nb.block _ (heap_lt HRZ.out) (fun f => f)).trans HRZ.out
          refine step_store_agg rfl (.tmp 3) (.tmp 83) 24 32 rfl Tryd.sizeOf24 rb 0 rfl z32 24 jz (hbs F) rfl hFs (hbs_one _) (by decide) (hbs F) (by rw [dropA z32_size]; simp) ?_
          intro w9 j9 f9 z9
          clear z9
          have o9 := ownsRow_keep ov (fun q hq => f9.block q (ov.lt q hq).2 (fun e => by have := (ov.lt q hq).1; have := HRS.out; omega))
          have n9 := (N1.out.tr (NZ.out.tr nb)).trans f9 (fun k hk q => by have := HRS.out; omega)
          have nf : Fr (fun k => k = rb) wz w9 := (nb.mono (fun _ _ f => f.elim)).trans f9 (fun j _ h => h)
          have nb := nf
          refine hK.out _ _ (by first | exact nb.mono (fun _ _ f => f.elim) | exact nb) (fun hS0 => ?_)
          try simp only [Act.put, List.setIfInBounds_toArray, List.set_cons_zero, List.set_cons_succ]
          refine wpAnyH_ready (rs := [7]) (by kernel_rfl) (by simp) ?_
          refine (AllReadyH.cons (o := ({ dst := some 4, op := Op.assign (Operand.const (Value.bool true)), type := 4, pos := "outright.go:202", after := #[{ on := 6, ground := Ground.chain }, { on := 0, ground := Ground.phase }, { on := 1, ground := Ground.phase }, { on := 2, ground := Ground.phase }, { on := 3, ground := Ground.phase }, { on := 4, ground := Ground.phase }, { on := 5, ground := Ground.phase }, { on := 6, ground := Ground.phase }], guard := none } : Oper)) rfl (fun K' hK => ?_) AllReadyH.nil)
          go_simp
          refine hK.out _ _ (by first | exact nb.mono (fun _ _ f => f.elim) | exact nb) (fun hS0 => ?_)
          try simp only [Act.put, List.setIfInBounds_toArray, List.set_cons_zero, List.set_cons_succ]
          refine wpAnyH_done (by kernel_rfl) ?_ _
          go_wp2_with fail
          refine bodyPost_ret (results_scs Tryd.results28 Tryd.isAgg24 Tryd.sizeOf24 rfl _ _ rfl rfl j9 hFs) rfl ?_
          exact ⟨pa, pc, by rw [← HDS2.out]; rfl, Pm.of HP32.out HPL.out o9, n9⟩
end Go.Proofs.YtaeocbdphfkflaaDoor
