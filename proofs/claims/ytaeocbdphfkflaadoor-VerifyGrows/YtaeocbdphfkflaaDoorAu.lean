/- law18: sides. -/
import Derived.Test.YtaeocbdphfkflaaDoorAcd
import Derived.Test.YtaeocbdphfkflaaDoorSgx
import Derived.Laws.AppendOwn
namespace Go.Proofs.YtaeocbdphfkflaaDoor
open Go.RowKit
set_option linter.unusedVariables false
set_option linter.unusedSimpArgs false
/-- Truth values as cells. -/
def bsc (l : List Bool) : List Value := l.map fun b => Value.bool b
theorem bsc_app (l : List Bool) (b : Bool) : bsc (l ++ [b]) = bsc l ++ [.bool b] := by simp [bsc]
theorem infoB : (Tryd.prog.info? 4).map (fun i => (i.zero, i.size, i.bytes)) = some (some (.bool false), 1, 1) := by kernel_rfl
theorem one_newB (w : World) (x : Value) (t : TypeId) : ∀ j u, [x][j]? = some u → (w.alloc (.cells #[x] t)).cell? ((⟨w.heap.size, 0, none⟩ : Addr).add j) = some u := by
  intro j u h
  rw [addZ, cell_of (heap_new _ _)]
  match j, h with
  | 0, h => simpa using h
theorem ownB_cell {w : World} {base g n cap : Nat} {l : List Bool} (h : w.ownsRow base 4 1 (.slice (some ⟨g, 0, none⟩) n cap) n (bsc l)) {k : Nat} {b : Bool} (hk : l[k]? = some b) : w.cell? ⟨g, k, none⟩ = some (.bool b) := by
  have := h.cells (g := g) rfl k (.bool b) (by simp [bsc, hk])
  rwa [addZ] at this
theorem ownB_form {w : World} {base n : Nat} {v : Value} {l : List Bool} (h : w.ownsRow base 4 1 v n (bsc l)) (h0 : 0 < n) : ∃ g cap, v = .slice (some ⟨g, 0, none⟩) n cap ∧ n ≤ cap := by
  rcases h.2 with ⟨_, h2⟩ | ⟨g, cap, cur, hv, _, _, h3, _⟩
  · omega
  · exact ⟨g, cap, hv, h3⟩
theorem ownB_len {w : World} {base n : Nat} {v : Value} {l : List Bool} (h : w.ownsRow base 4 1 v n (bsc l)) : l.length = n := by
  have := h.1
  simpa [bsc] using this
theorem ownB_at {w : World} {base : Nat} {v : Value} {n : Nat} {xs : List Value} (h : w.ownsRow base 4 1 v n xs) : ∃ a c, v = .slice a n c := by
  rcases h.2 with ⟨rfl, rfl⟩ | ⟨g, cap, cur, rfl, _⟩
  · exact ⟨none, 0, rfl⟩
  · exact ⟨_, _, rfl⟩
set_option maxRecDepth 100000 in
set_option maxHeartbeats 4000000 in
theorem sides_any (i n : Nat) (hi : i < n) (hn : n ≤ 9223372036854775808) (w : World) :
    Calls Tryd.prog 23 #[.int .u64 (i : Int), .int .u64 (n : Int)] w fun e w' => ∃ v, e = .returned v ∧ w'.ownsRow w.heap.size 4 1 v (sds i n).length (bsc (sds i n)) ∧ Nw w w' := by
  obtain ⟨i0, hi0, hie⟩ := Option.map_eq_some_iff.1 infoB
  simp only [Prod.mk.injEq] at hie
  have HI0 : Hid (Tryd.prog.info? 4 = some i0 ∧ i0.zero = some (.bool false) ∧ i0.size = 1 ∧ i0.bytes = 1) := ⟨hi0, hie.1, hie.2.1, hie.2.2⟩
  have HIN : Hid (i < n ∧ n ≤ 9223372036854775808) := ⟨hi, hn⟩
  have hS63 := sds_len 63 n i (Nat.le_trans hn (by decide))
  obtain ⟨S, hS⟩ : ∃ S, S = sds i n := ⟨_, rfl⟩
  have HS := hid_of hS
  rw [← hS] at hS63 ⊢
  have HS63 := hid_of hS63
  clear hi0 hie hi hn hS hS63
  go_enter Tryd.func23, Tryd.ntmps23
  go_wp2
  go_loopw [0, 1, 5] (fun x y u wr => ∃ (i' n' : Nat) (dn : List Bool) (va : Option Addr) (vc : Nat), x = .int .u64 (i' : Int) ∧ y = .int .u64 (n' : Int) ∧ u = .slice va dn.length vc ∧ i' < n' ∧ n' ≤ 9223372036854775808 ∧ S = sds i' n' ++ dn.reverse ∧ wr.ownsRow w.heap.size 4 1 (.slice va dn.length vc) dn.length (bsc dn) ∧ Nw w wr) (fun _ y _ _ => (intOf y).toNat)
  case atStart => exact ⟨i, n, [], none, 0, rfl, rfl, rfl, HIN.out.1, HIN.out.2, by rw [HS.out]; simp, World.ownsRow_nil _ _ _ _, nwr w⟩
  case round =>
    obtain ⟨p, q, dn, va, vc, rfl, rfl, rfl, hpq, hq, hs, ho, hnw⟩ := hrel
    have HDS : Hid (S = sds p q ++ dn.reverse) := hs
    have HO : Hid (wr.ownsRow w.heap.size 4 1 (.slice va dn.length vc) dn.length (bsc dn)) := ho
    have HNW := hid_of hnw
    have hd63 : dn.length ≤ 63 := by
      have := HS63.out
      rw [hs] at this
      simp at this
      omega
    obtain ⟨dl, hdl⟩ : ∃ d, d = dn.length := ⟨_, rfl⟩
    have HDL := hid_of hdl
    rw [← hdl] at HO hd63 ⊢
    clear hs ho hnw hdl
    by_cases h2 : 2 ≤ q
    · have hq1 : (1 : Int) < (q : Int) := by omega
      have hkl := spl_lt h2
      have hkp := spl_pos q
      obtain ⟨kk, hkk, hk3, hk4⟩ := spl_ex h2
      have HKK : Hid (spl q = 2 ^ kk ∧ 2 ^ kk < q ∧ q ≤ 2 * 2 ^ kk) := ⟨hkk, hk3, hk4⟩
      have HL : Hid (p < spl q → sds p q = sds p (spl q) ++ [false]) := fun h => sds_left h2 h
      have HR : Hid (¬ p < spl q → sds p q = sds (p - spl q) (q - spl q) ++ [true]) := fun h => sds_right h2 h
      obtain ⟨k, hk⟩ : ∃ k, k = spl q := ⟨_, rfl⟩
      have HK := hid_of hk
      rw [← hk] at hkl hkp HL HR
      clear hk h2 hkk hk3 hk4
      obtain ⟨wy, hwy⟩ : ∃ q, q = wr := ⟨_, rfl⟩
      rw [← hwy] at HO HNW ⊢
      have HWY := hid_of hwy
      clear hwy
      go_wp2
      go_loopw [6] (fun z wx => wx = wy ∧ ∃ c j : Nat, c = 2 ^ j ∧ z = .int .u64 (c : Int) ∧ c < q ∧ c ≤ k) (fun z _ => q - (intOf z).toNat)
      case atStart => exact ⟨rfl, 1, 0, rfl, rfl, by omega, by omega⟩
      case round =>
        obtain ⟨rfl, c, j, hc, rfl, hlt, hck⟩ := hrel
        have HC : Hid (c = 2 ^ j) := hc
        have hc0 : 0 < c := by rw [hc]; exact Nat.two_pow_pos j
        clear hc
        obtain ⟨D, hD⟩ : ∃ D : Nat, (q : Int) - (c : Int) = (D : Int) := ⟨q - c, by omega⟩
        by_cases hcc : 2 * c < q
        · have hc1 : (c : Int) < (D : Int) := by omega
          have HCK : Hid (2 * c ≤ k) := by
            show 2 * c ≤ k
            have h5 : spl q = 2 ^ (kk) := HKK.out.1
            rw [HK.out, HKK.out.1]
            have h6 : 2 ^ (j + 1) < 2 * 2 ^ kk := by rw [Nat.pow_succ', ← HC.out]; have := HKK.out.2.2; omega
            have h7 : j + 1 < kk + 1 := by
              rw [← Nat.pow_succ'] at h6
              exact (Nat.pow_lt_pow_iff_right (by decide)).1 h6
            rw [show 2 * c = 2 ^ (j + 1) by rw [Nat.pow_succ', ← HC.out]]
            exact Nat.pow_le_pow_right (by decide) (by omega)
          go_wp2_with fail
          exact ⟨⟨trivial, 2 * c, j + 1, by rw [HC.out, Nat.pow_succ'], by go_num, hcc, HCK.out⟩, by simp [intOf]; omega⟩
        · have hc1 : ¬ (c : Int) < (D : Int) := by omega
          have hkc : k = c := by rw [HK.out, HC.out]; exact spl_of (by rw [← HC.out]; exact hlt) (by rw [← HC.out]; omega)
          subst hkc
          clear hcc hck
          have OWN : Hid ((wr.alloc (.cells #[.bool (decide (k ≤ p))] 4)).ownsRow w.heap.size 4 1 (.slice va dl vc) dl (bsc dn)) := HO.out.alloc _
          have HNB : Hid (Nw w (wr.alloc (.cells #[.bool (decide (k ≤ p))] 4))) := HNW.out.alloc _
          have HNew := hid_of (one_newB wr (.bool (decide (k ≤ p))) 4)
          have HSZ : Hid (w.heap.size ≤ (wr.alloc (.cells #[.bool (decide (k ≤ p))] 4)).heap.size) := HNB.out.size
          by_cases hp : p < k
          · skip
            have hpi : (p : Int) < (k : Int) := by omega
            have HB : Hid (decide (k ≤ p) = false) := decide_eq_false (by omega)
            have HL1 := hid_of (HL.out hp)
            go_wp2_with (at_builtin; refine wpList_append_own _ rfl (.tmp 18) (.tmp 22) 54 rfl w.heap.size 4 i0 (.bool false) 1 1 Tryd.underlying54 HI0.out.1 HI0.out.2.1 HI0.out.2.2.1 HI0.out.2.2.2 rfl (by decide) (.slice va dl vc) dl (bsc dn) rfl OWN.out ⟨wr.heap.size, 0, none⟩ 1 1 [.bool (decide (k ≤ p))] rfl rfl HNew.out (by simp [Value.oneCell']) (by unfold maxLen; omega) (by omega) HSZ.out ?_; intro v' w6 o6 g6 x6; clear x6; have N6 : Hid (Nw w w6) := HNB.out.grown g6 (fun t ht hlt => by have := (OWN.out.lt t ht).1; omega); have O6 := hid_of o6; obtain ⟨ya, yc, rfl⟩ := ownB_at o6)
            refine ⟨⟨p, k, dn ++ [false], ya, yc, rfl, rfl, by simp [HDL.out], hp, by omega, by rw [HDS.out, HL1.out]; simp, ?_, N6.out⟩, by simp [intOf]; omega⟩
            rw [bsc_app, List.length_append, ← HDL.out]
            have := O6.out
            rw [HB.out] at this
            exact this
          · skip
            have hpi : ¬ (p : Int) < (k : Int) := by omega
            have HB : Hid (decide (k ≤ p) = true) := decide_eq_true (by omega)
            have HR1 := hid_of (HR.out hp)
            obtain ⟨p', hp'⟩ : ∃ p', p = k + p' := ⟨p - k, by omega⟩
            obtain ⟨q', hq'⟩ : ∃ q', q = k + q' := ⟨q - k, by omega⟩
            have hs1 : IntKind.u64.wrap ((p : Int) - (k : Int)) = (p' : Int) := by rw [IntKind.wrap_u64]; omega
            have hs2 : IntKind.u64.wrap ((q : Int) - (k : Int)) = (q' : Int) := by rw [IntKind.wrap_u64]; omega
            have HPP := hid_of hp'
            have HQQ := hid_of hq'
            clear hp' hq'
            go_wp2_with (at_builtin; refine wpList_append_own _ rfl (.tmp 18) (.tmp 22) 54 rfl w.heap.size 4 i0 (.bool false) 1 1 Tryd.underlying54 HI0.out.1 HI0.out.2.1 HI0.out.2.2.1 HI0.out.2.2.2 rfl (by decide) (.slice va dl vc) dl (bsc dn) rfl OWN.out ⟨wr.heap.size, 0, none⟩ 1 1 [.bool (decide (k ≤ p))] rfl rfl HNew.out (by simp [Value.oneCell']) (by unfold maxLen; omega) (by omega) HSZ.out ?_; intro v' w6 o6 g6 x6; clear x6; have N6 : Hid (Nw w w6) := HNB.out.grown g6 (fun t ht hlt => by have := (OWN.out.lt t ht).1; omega); have O6 := hid_of o6; obtain ⟨ya, yc, rfl⟩ := ownB_at o6)
            have e1 := HPP.out
            have e2 := HQQ.out
            refine ⟨⟨p', q', dn ++ [true], ya, yc, by go_num, by go_num, by simp [HDL.out], by omega, by omega, by rw [HDS.out, HR1.out, show p - k = p' by omega, show q - k = q' by omega]; simp, ?_, N6.out⟩, by simp [intOf]; omega⟩
            rw [bsc_app, List.length_append, ← HDL.out]
            have := O6.out
            rw [HB.out] at this
            exact this
    · have hq1 : ¬ (1 : Int) < (q : Int) := by omega
      have HSD : Hid (S = dn.reverse) := by show S = _; rw [HDS.out, sds_one p q (by omega)]; rfl
      have hdl63 : dl ≤ 63 := hd63
      have HLR : Hid (dn.reverse.length = dl) := by show _ = dl; rw [List.length_reverse]; exact HDL.out.symm
      obtain ⟨wy, hwy⟩ : ∃ q, q = wr := ⟨_, rfl⟩
      rw [← hwy] at HO HNW ⊢
      have HWY := hid_of hwy
      clear hwy
      go_wp2
      go_loopw [7, 8] (fun u x wx => ∃ (t : Nat) (z : Int) (ua : Option Addr) (uc : Nat), t ≤ dl ∧ u = .slice ua t uc ∧ x = .int .i64 z ∧ z = (dl : Int) - 1 - (t : Int) ∧ wx.ownsRow w.heap.size 4 1 (.slice ua t uc) t (bsc (dn.reverse.take t)) ∧ wx.ownsRow w.heap.size 4 1 (.slice va dl vc) dl (bsc dn) ∧ ((Value.slice ua t uc).ownBlock = none ∨ (Value.slice ua t uc).ownBlock ≠ (Value.slice va dl vc).ownBlock) ∧ Nw w wx) (fun _ x _ => (intOf x + 1).toNat)
      case atStart => exact ⟨0, _, none, 0, by omega, rfl, rfl, by omega, by rw [List.take_zero]; exact World.ownsRow_nil _ _ _ _, HO.out, .inl rfl, HNW.out⟩
      case round =>
        obtain ⟨t, z, ua, uc, ht, rfl, rfl, hz, hu, hd, hne, hnw⟩ := hrel
        have HU := hid_of hu
        have HD := hid_of hd
        have HNE := hid_of hne
        have HNX := hid_of hnw
        clear hu hd hne hnw
        by_cases htd : t < dl
        · obtain ⟨c, hc⟩ : ∃ c : Nat, c + t + 1 = dl := ⟨dl - 1 - t, by omega⟩
          obtain rfl : z = (c : Int) := by omega
          obtain ⟨b, hb⟩ : ∃ b, dn[c]? = some b := ⟨_, List.getElem?_eq_getElem (by have := HDL.out; omega)⟩
          obtain ⟨g, cap, hv, hcap⟩ := ownB_form HD.out (by omega)
          cases hv
          have hcell := ownB_cell HD.out hb
          have HTK : Hid (dn.reverse.take (t + 1) = dn.reverse.take t ++ [b]) := by
            show _ = _
            have h1 : dn.reverse[t]? = some b := by
              rw [List.getElem?_reverse (by have := HDL.out; omega)]
              rw [show dn.length - 1 - t = c by have := HDL.out; omega]
              exact hb
            rw [List.take_add_one, h1]
            rfl
          have HCC := hid_of hc
          have hcd : (c : Int) < (dl : Int) := by omega
          have hc0 : (0 : Int) ≤ (c : Int) := by omega
          have OWN : Hid ((wr.alloc (.cells #[.bool b] 4)).ownsRow w.heap.size 4 1 (.slice ua t uc) t (bsc (dn.reverse.take t))) := HU.out.alloc _
          have HNB : Hid (Nw w (wr.alloc (.cells #[.bool b] 4))) := HNX.out.alloc _
          have HNew := hid_of (one_newB wr (.bool b) 4)
          have HSZ : Hid (w.heap.size ≤ (wr.alloc (.cells #[.bool b] 4)).heap.size) := HNB.out.size
          clear hb hc hz
          go_wp2_with (at_builtin; refine wpList_two _ rfl (.tmp 41) (.tmp 46) 54 rfl w.heap.size 4 i0 (.bool false) 1 1 Tryd.underlying54 HI0.out.1 HI0.out.2.1 HI0.out.2.2.1 HI0.out.2.2.2 rfl (by decide) (.slice ua t uc) t (bsc (dn.reverse.take t)) rfl OWN.out ⟨wr.heap.size, 0, none⟩ 1 1 [.bool b] rfl rfl HNew.out (by simp [Value.oneCell']) (by unfold maxLen; omega) (by omega) HSZ.out ?_; intro v' w6 o6 t6; have T6 := hid_of t6; have O6 := hid_of o6; obtain ⟨ya, yc, rfl⟩ := ownB_at o6; clear o6 t6)
          have NL : Nw w w6 := HNB.out.trans T6.out.fr (fun q hq hlt => by have := (OWN.out.lt q hlt).1; omega)
          have hgd : g < wr.heap.size := (HD.out.lt g rfl).2
          have DK : w6.ownsRow w.heap.size 4 1 (.slice (some ⟨g, 0, none⟩) dl vc) dl (bsc dn) := ownsRow_keep (HD.out.alloc _) (fun q hq => T6.out.fr.block q ((HD.out.alloc (.cells #[.bool b] 4)).lt q hq).2 (fun e => by
            rcases HNE.out with h | h
            · rw [h] at e; cases e
            · exact h (e.trans hq.symm)))
          refine ⟨⟨t + 1, _, ya, yc, by omega, rfl, rfl, by have := HCC.out; omega, by rw [HTK.out, bsc_app]; exact O6.out, DK, ?_, NL⟩, by simp [intOf]⟩
          rcases T6.out.stays (by omega) with h | ⟨g', h, hg'⟩
          · rcases HNE.out with h3 | h3
            · exact .inl (h.trans h3)
            · exact .inr (fun e => h3 (h.symm.trans e))
          · refine .inr (fun e => ?_)
            rw [h] at e
            have : g' = g := Option.some.inj e
            simp at hg'
            omega
        · obtain rfl : t = dl := by omega
          obtain rfl : z = -1 := by omega
          have HRV : Hid (S = dn.reverse.take t) := by show S = _; rw [HSD.out, List.take_of_length_le (by rw [HLR.out]; exact Nat.le_refl _)]
          have HSL : Hid (S.length = t) := by show _ = t; rw [HSD.out, HLR.out]
          go_wp2
          go_ret
          refine ⟨_, rfl, ?_, HNX.out⟩
          rw [HSL.out, HRV.out]
          exact HU.out
end Go.Proofs.YtaeocbdphfkflaaDoor
