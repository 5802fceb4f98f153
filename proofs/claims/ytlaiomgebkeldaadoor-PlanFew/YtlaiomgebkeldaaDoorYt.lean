/- plan: few tiles. -/
import Derived.Test.YtlaiomgebkeldaaDoorYs
import Derived.Deep.DeepCutAuto
import Derived.Deep.RegionHeld3
namespace Go.Proofs.YtlaiomgebkeldaaDoor
open Go.RowKit
set_option linter.unusedVariables false
set_option linter.unusedSimpArgs false
theorem addT_mem (o : List Ti) (t x : Ti) : x ∈ addT o t ↔ x ∈ o ∨ x = t := by
  unfold addT
  split
  · rename_i h
    exact ⟨.inl, fun q => q.elim id (fun e => e ▸ h)⟩
  · simp
theorem foldT_mem (S : Nat) : ∀ (cs : List (Nat × Nat)) (o : List Ti) (x : Ti), x ∈ cs.foldl (fun o c => addT o (tiN S c)) o ↔ x ∈ o ∨ ∃ c ∈ cs, x = tiN S c
  | [], o, x => by simp
  | c :: r, o, x => by
    rw [List.foldl_cons, foldT_mem S r, addT_mem]
    constructor
    · rintro ((h | h) | ⟨d, h1, h2⟩)
      · exact .inl h
      · exact .inr ⟨c, by simp, h⟩
      · exact .inr ⟨d, by simp [h1], h2⟩
    · rintro (h | ⟨d, h1, h2⟩)
      · exact .inl (.inl h)
      · rcases List.mem_cons.1 h1 with rfl | h1
        · exact .inl (.inr h2)
        · exact .inr ⟨d, h1, h2⟩
theorem tls_mem (S : Nat) (cs : List (Nat × Nat)) (x : Ti) : x ∈ tls S cs ↔ ∃ c ∈ cs, x = tiN S c := by
  have := foldT_mem S cs [] x
  simpa [tls] using this
theorem foldT_nodup (S : Nat) : ∀ (cs : List (Nat × Nat)) (o : List Ti), o.Nodup → (cs.foldl (fun o c => addT o (tiN S c)) o).Nodup
  | [], o, h => h
  | c :: r, o, h => by
    rw [List.foldl_cons]
    refine foldT_nodup S r _ ?_
    unfold addT
    split
    · exact h
    · rename_i hn
      rw [List.nodup_append]
      exact ⟨h, List.nodup_cons.2 ⟨by simp, List.nodup_nil⟩, fun a ha b hb e => by simp at hb; subst hb; subst e; exact hn ha⟩
theorem tls_nodup (S : Nat) (cs : List (Nat × Nat)) : (tls S cs).Nodup := foldT_nodup S cs [] List.nodup_nil
set_option maxRecDepth 100000 in
set_option maxHeartbeats 8000000 in
theorem few15_any (v : Value) (ls : List (List (Nat × Nat))) (sz A c : Nat) (hc : c ≤ 63) (hn : sz ≤ 2 ^ c) (hlow : ∀ j, j < c → 2 ^ j < sz) (hA : A ≤ 9223372036854775808) (hsA : sz ≤ A) (w : World) (hv : Prt w v ls) (hg : gdA A ls.flatten) (h1 : ls.length ≤ c + 1) (h2 : ls.flatten.length ≤ 2 * (c + 1)) (hl3 : ∀ l ∈ ls, l.length ≤ 128)
    {B : Nat} {a : Nat → Addr} (hSe : Sent B w a) :
    Calls Tryd.prog 28 #[v, .int .u64 (sz : Int), .int .u64 (A : Int)] w fun e w' => e = .returned (.bool true) ∧ Nw w w' := by
  have QL := log15_any sz c hc hn hlow w
  have hb : ∀ x ∈ ls.flatten, x.1 ≤ 255 ∧ x.2 < 18446744073709551616 := fun x hx => by
    have h := (hg x hx).1
    have h3 := may_bd h
    rw [p63] at h3
    exact ⟨by have := h.1; omega, by omega⟩
  have QT := ptiles_any v ls A w hv hb hA (by omega) (by omega) (fun l hl => Nat.le_trans (hl3 l hl) (by decide)) hSe
  obtain ⟨T, hT⟩ : ∃ T, T = tls A ls.flatten := ⟨_, rfl⟩
  have HT : Hid (T = tls A ls.flatten) := hT
  have hTl : T.length ≤ 2 * (c + 1) := by rw [hT]; exact Nat.le_trans (tls_len _ _) h2
  rw [← hT] at QT
  have HG : Hid (gdA A ls.flatten) := hg
  have HPV : Hid (Prt w v ls) := hv
  have HL3 : Hid (∀ l ∈ ls, l.length ≤ 128) := hl3
  obtain ⟨ad, ca, rfl, hv⟩ := hv
  have HV : Hid (∀ k l, ls[k]? = some l → ∃ g off x, ad = some ⟨g, off, none⟩ ∧ g < w.heap.size ∧ w.cell? ⟨g, off + k, none⟩ = some x ∧ Crd w x l) := hv
  have QLD : Hid (∀ V ta tc, Nw w V → (∃ base, V.ownsRow base 87 3 (.slice ta T.length tc) T.length (tic T)) → Calls Tryd.prog 54 #[.slice ad ls.length ca, .slice ta T.length tc] V fun e w' => e = .returned (.bool true) ∧ Nw V w') := fun V ta tc nV ⟨base, ho⟩ => laid15_any _ ls A hA T ta tc base V (HPV.out.nw nV) HG.out (fun x hx => by rw [HT.out]; exact (tls_mem A _ _).2 ⟨x, hx, rfl⟩) ho (by omega) (fun l hl => Nat.le_trans (HL3.out l hl) (by decide)) (by omega)
  clear hv hg hl3 hlow hn hSe hb h2
  obtain ⟨n, hn⟩ : ∃ n, n = ls.length := ⟨_, rfl⟩
  have HN : Hid (n = ls.length) := hn
  obtain ⟨m, hm⟩ : ∃ m, m = T.length := ⟨_, rfl⟩
  have HM : Hid (m = T.length) := hm
  rw [← hn] at h1 QT QLD ⊢
  rw [← hm] at hTl QT QLD
  clear hn hm hT
  have hp1 : ¬ (c : Int) + 1 < (n : Int) := by omega
  have hp2 : ¬ 2 * ((c : Int) + 1) < (m : Int) := by omega
  go_enter Tryd.func28, Tryd.ntmps28
  go_wp2_with fail
  refine QL.mono ?_
  rintro e w1 ⟨rfl, rfl⟩
  go_wp2_with fail
  refine QT.mono ?_
  rintro e w2 ⟨q1, -⟩
  obtain ⟨vt, rfl, o2, n2⟩ := q1 HG.out
  obtain ⟨ta, tc, rfl⟩ := ownsRow_form o2
  have O2 : Hid (w2.ownsRow w1.heap.size 87 3 (.slice ta m tc) m (tic T)) := o2
  have N2 : Hid (Nw w1 w2) := n2
  have CELL : Hid (∀ V, Nw w2 V → ∀ (i : Nat) (x : Ti), T[i]? = some x → ∃ g, ta = some ⟨g, 0, none⟩ ∧ V.cell? ⟨g, i * 3, none⟩ = some (.int .u8 (x.L : Int)) ∧ V.cell? ⟨g, i * 3 + 1, none⟩ = some (.int .u64 (x.I : Int)) ∧ V.cell? ⟨g, i * 3 + 2, none⟩ = some (.int .i64 (x.W : Int))) := fun V nV i x hx => by
    have ho : w2.ownsRow w1.heap.size 87 3 (.slice ta T.length tc) T.length (tic T) := by rw [← HM.out]; exact O2.out
    obtain ⟨g, e, a0, a1, a2⟩ := tic_cellsP ho i x hx
    exact ⟨g, e, nV.cellOf a0, nV.cellOf a1, nV.cellOf a2⟩
  clear QL QT q1 o2 n2
  go_wp2
  go_loopw [10, 11] (fun u i wr => ∃ k : Nat, k ≤ m ∧ u = .int .i64 k ∧ i = .int .i64 k ∧ Nw w2 wr) (fun _ i _ => m - (intOf i).toNat)
  case atStart => exact ⟨0, by omega, rfl, rfl, nwr w2⟩
  case round =>
    obtain ⟨k, hk, rfl, rfl, hnw⟩ := hrel
    have HW : Hid (Nw w2 wr) := hnw
    clear hnw
    by_cases hlt : k < m
    · obtain ⟨t, ht⟩ : ∃ t, T[k]? = some t := ⟨_, List.getElem?_eq_getElem (by rw [← HM.out]; exact hlt)⟩
      have HK : Hid (T[k]? = some t) := ht
      obtain ⟨tree, htr, hte⟩ := (tls_mem A ls.flatten t).1 (by rw [← HT.out]; exact List.mem_of_getElem? ht)
      obtain ⟨g, hta, _⟩ := CELL.out wr HW.out k t ht
      subst hta
      have CEL : Hid (∀ V, Nw w2 V → ∀ (i : Nat) (x : Ti), T[i]? = some x → V.cell? ⟨g, i * 3, none⟩ = some (.int .u8 (x.L : Int)) ∧ V.cell? ⟨g, i * 3 + 1, none⟩ = some (.int .u64 (x.I : Int)) ∧ V.cell? ⟨g, i * 3 + 2, none⟩ = some (.int .i64 (x.W : Int))) := fun V nV i x hx => by
        obtain ⟨g', e, r⟩ := CELL.out V nV i x hx
        cases e; exact r
      have hgd := HG.out tree htr
      have HTR : Hid (tree ∈ ls.flatten ∧ t = tiN A tree) := ⟨htr, hte⟩
      have hki : (k : Int) < (m : Int) := by omega
      clear ht htr hte
      go_wp2
      go_loopw [12] (fun i wr => ∃ j : Nat, j ≤ k ∧ i = .int .i64 j ∧ Nw w2 wr) (fun i _ => k - (intOf i).toNat)
      case atStart => exact ⟨0, by omega, rfl, HW.out⟩
      case round =>
        obtain ⟨j, hj, rfl, hnw⟩ := hrel
        have HW2 : Hid (Nw w2 wr) := hnw
        clear hnw
        by_cases hlj : j < k
        · obtain ⟨s, hs⟩ : ∃ s, T[j]? = some s := ⟨_, List.getElem?_eq_getElem (by rw [← HM.out]; omega)⟩
          obtain ⟨s2, hs2, hse⟩ := (tls_mem A ls.flatten s).1 (by rw [← HT.out]; exact List.mem_of_getElem? hs)
          have hne : ¬ (t.L = s.L ∧ t.I = s.I) := fun q => by
            have e1 : t = s := by
              rw [HTR.out.2, hse] at q ⊢
              obtain ⟨q1, q2⟩ := q
              simp only [tiN] at q1 q2 ⊢
              rw [q1, q2]
            have hnd := tls_nodup A ls.flatten
            rw [← HT.out] at hnd
            have hjl : j < T.length := by rw [← HM.out]; omega
            have := (List.getElem?_inj hjl hnd).1 (hs.trans (by rw [HK.out, e1]))
            omega
          obtain ⟨a0, a1, a2⟩ := CEL.out wr HW2.out k t HK.out
          obtain ⟨d0, d1, d2⟩ := CEL.out wr HW2.out j s hs
          have hji : (j : Int) < (k : Int) := by omega
          have hjm : (j : Int) < (m : Int) := by omega
          clear hs hs2 hse hgd
          by_cases e1 : t.L = s.L
          · have b1 : ((t.L : Int) == (s.L : Int)) = true := by simp; omega
            have b2 : ((t.I : Int) == (s.I : Int)) = false := by simp; omega
            clear hne e1
            go_wp2
            go_quiet (fail)
            go_wp2
            exact ⟨⟨j + 1, by omega, by go_num, HW2.out.drewN nq⟩, by simp [intOf]; omega⟩
          · have b1 : ((t.L : Int) == (s.L : Int)) = false := by simp; omega
            clear hne e1
            go_wp2
            go_quiet (fail)
            go_wp2
            exact ⟨⟨j + 1, by omega, by go_num, HW2.out.drewN nq⟩, by simp [intOf]; omega⟩
        · obtain rfl : j = k := by omega
          have hmay := hgd.1
          have hw0 := gd_wid (L := tree.1) (I := tree.2) hgd hA
          have hp0 := Nat.two_pow_pos (tree.1 % 8)
          have hbI := ofA_bd hgd.1
          have e1 : t.L = tree.1 / 8 := by rw [HTR.out.2]; rfl
          have e2 : t.I = ofA tree.1 tree.2 / 256 := by rw [HTR.out.2]; rfl
          have e3 : t.W = wid (tree.1 / 8) (ofA tree.1 tree.2 / 256) A := by rw [HTR.out.2]; rfl
          have hI64 : t.I < 18446744073709551616 := by rw [e2]; omega
          have hwd : wid t.L t.I A = t.W := by rw [e1, e2, e3]
          have hW0 : 0 < t.W := by rw [e3]; omega
          have HMT : Hid (mtT t tree) := ⟨e1.symm, e2.symm⟩
          obtain ⟨d0, d1, d2⟩ := CEL.out wr HW2.out j t HK.out
          obtain ⟨tL, htL⟩ : ∃ x, x = t.L := ⟨_, rfl⟩
          obtain ⟨tI, htI⟩ : ∃ x, x = t.I := ⟨_, rfl⟩
          obtain ⟨tW, htW⟩ : ∃ x, x = t.W := ⟨_, rfl⟩
          have HTT : Hid (t = ⟨tL, tI, tW⟩) := by show _ = _; rw [htL, htI, htW]
          have qi : Hid (∀ V, Calls Tryd.prog 52 #[.int .u8 (tL : Int), .int .u64 (tI : Int), .int .u64 (A : Int)] V fun e w' => e = .returned (.tuple #[tl tL tI tW, .bool true]) ∧ Nw V w') := fun V => by rw [htL, htI, htW]; exact in_yes t.L t.I A t.W hI64 hwd hW0 V
          rw [← htL] at d0
          rw [← htI] at d1
          rw [← htW] at d2
          have hlt' := hlt
          clear hgd hmay hw0 hp0 hbI e1 e2 e3 hI64 hwd hW0 htL htI htW hlt'
          have D0 : Hid (wr.cell? ⟨g, j * 3, none⟩ = some (.int .u8 (tL : Int)) ∧ wr.cell? ⟨g, j * 3 + 1, none⟩ = some (.int .u64 (tI : Int)) ∧ wr.cell? ⟨g, j * 3 + 2, none⟩ = some (.int .i64 (tW : Int))) := ⟨d0, d1, d2⟩
          go_upto_region 14 with fail
          go_cut [13, 14] (fun u v wx => ∃ ub : Nat, u = .pointer (some ⟨ub, 0, none⟩) ∧ v = .bool true ∧ wx.heap[ub]? = some (.cells #[.int .u8 (tL : Int), .int .u64 (tI : Int), .int .i64 (tW : Int)] 87) ∧ Nw wr wx)
          case first =>
            go_region_held3 (fun w' => w'.cell? ⟨g, j * 3, none⟩ = some (.int .u8 (tL : Int)) ∧ w'.cell? ⟨g, j * 3 + 1, none⟩ = some (.int .u64 (tI : Int))) (first | exact ⟨d0, d1⟩ | (refine ⟨Nw.cellOf (w := wr) ?_ D0.out.1, Nw.cellOf (w := wr) ?_ D0.out.2.1⟩ <;> (repeat first | with_reducible exact Fr.refl _ _ | with_reducible exact N5.out | with_reducible refine Fr.alloc ?_ _ | with_reducible refine Fr.drew ?_ | (with_reducible refine Fr.setCell ?_ _ _ (fun h => ?_); rotate_left; focus (simp only at h; omega))))) ((go_at_call 52; refine (qi.out _).mono ?_; rintro e w5 ⟨rfl, n5⟩; have N5 : Hid (Nw wr w5) := Nw.tr (by (repeat first | with_reducible exact Fr.refl _ _ | with_reducible exact N5.out | with_reducible refine Fr.alloc ?_ _ | with_reducible refine Fr.drew ?_ | (with_reducible refine Fr.setCell ?_ _ _ (fun h => ?_); rotate_left; focus (simp only at h; omega)))) n5; have hs5 := N5.out.size; (try (have bz : w5.heap[wr.heap.size]? = some (.cells #[.int .u8 0, .int .u64 0, .int .i64 0] 87) := (n5.block wr.heap.size (by simp) (fun f => f)).trans (by first | exact heap_new _ _ | exact hp_dr (heap_new _ _)); have c0 := (cell_of bz 0).trans rfl; have c1 := (cell_of bz 1).trans rfl; have c2 := (cell_of bz 2).trans rfl; have f0 := frozen_of bz 0; have f1 := frozen_of bz 1; have f2 := frozen_of bz 2; have lz := heap_lt bz)); clear n5))
            · go_wp2_with fail
              go_meet
              exact ⟨w5.heap.size, rfl, rfl, heap_new _ _, N5.out.alloc _⟩
            · go_wp2_with fail
              go_meet
              exact ⟨wr.heap.size, rfl, rfl, (heap_set (heap_set (heap_set bz _) _) _).trans rfl, Fr.setCell (Fr.setCell (Fr.setCell N5.out _ _ (fun h => by simp only at h; omega)) _ _ (fun h => by simp only at h; omega)) _ _ (fun h => by simp only at h; omega)⟩
          case rest =>
          obtain ⟨ub, rfl, rfl, bu, nx⟩ := hcut
          have NX : Hid (Nw wr wc) := nx
          obtain ⟨u0, u1, u2⟩ := cell3 bu
          have y0 := nx.cellOf D0.out.1
          have y1 := nx.cellOf D0.out.2.1
          have y2 := nx.cellOf D0.out.2.2
          have lu := heap_lt bu
          clear bu nx d0 d1 d2 qi
          go_wp2_with fail
          go_quiet (fail)
          obtain ⟨w6, hw6⟩ : ∃ q, q = wc.drewN nq := ⟨_, rfl⟩
          have n6 : Nw wc w6 := by rw [hw6]; exact (Fr.refl _ _).drewN _
          rw [← hw6]
          have N6 : Hid (Nw wr w6) := NX.out.tr n6
          clear hw6 n6 NX u0 u1 u2 y0 y1 y2 lu
          go_wp2
          go_loopw [10, 15] (fun u i wz => ∃ r : Nat, r ≤ n ∧ u = .int .i64 (j : Int) ∧ i = .int .i64 r ∧ (∀ r' l, r' < r → ls[r']? = some l → ¬ ∃ x ∈ l, mtT t x) ∧ Nw w6 wz) (fun _ i _ => n - (intOf i).toNat)
          case atStart => exact ⟨0, by omega, rfl, rfl, fun r' l h => by omega, nwr w6⟩
          case round =>
            obtain ⟨r, hr, rfl, rfl, hno, hnw⟩ := hrel
            have HNO : Hid (∀ r' l, r' < r → ls[r']? = some l → ¬ ∃ x ∈ l, mtT t x) := hno
            have HWZ : Hid (Nw _ wr) := N6.out.tr hnw
            have HW6 : Hid (Nw w6 wr) := hnw
            clear hno hnw
            by_cases hlr : r < n
            · obtain ⟨l, hl9⟩ : ∃ l, ls[r]? = some l := ⟨_, List.getElem?_eq_getElem (by rw [← HN.out]; exact hlr)⟩
              obtain ⟨g5, of5, x5, had, p1, p2, p3⟩ := HV.out r l hl9
              subst had
              obtain ⟨bd, cb, rfl, hcr⟩ := p3
              have NZ : Hid (Nw w1 wr) := (N2.out.tr HW2.out).tr HWZ.out
              have HCR : Hid (Crd wr (.slice bd l.length cb) l) := Crd.nw ⟨bd, cb, rfl, hcr⟩ NZ.out
              have HLL : Hid (ls[r]? = some l) := hl9
              have hmm : ∀ c ∈ l, may c.1 c.2 := fun c hc => (HG.out c (List.mem_flatten.2 ⟨l, List.mem_of_getElem? hl9, hc⟩)).1
              have hll := HL3.out l (List.mem_of_getElem? hl9)
              obtain ⟨D, hD⟩ : ∃ D, D = decide (∃ c ∈ l, mtT t c) := ⟨_, rfl⟩
              have HQ : Hid (∀ V, Nw wr V → Calls Tryd.prog 53 #[.agg #[.slice bd l.length cb], tl tL tI tW] V fun e w' => e = .returned (.bool D) ∧ Nw V w') := fun V nV => by
                have := needs_any _ l t V (HCR.out.nw nV) hmm (by omega)
                rw [hD]
                rw [HTT.out] at this ⊢
                exact this
              have HDD : Hid (D = decide (∃ c ∈ l, mtT t c)) := hD
              have z0 := NZ.out.cellOf p2
              obtain ⟨y0, y1, y2⟩ : wr.cell? ⟨g, j * 3, none⟩ = some (.int .u8 (tL : Int)) ∧ wr.cell? ⟨g, j * 3 + 1, none⟩ = some (.int .u64 (tI : Int)) ∧ wr.cell? ⟨g, j * 3 + 2, none⟩ = some (.int .i64 (tW : Int)) := ⟨HWZ.out.cellOf D0.out.1, HWZ.out.cellOf D0.out.2.1, HWZ.out.cellOf D0.out.2.2⟩
              have HKP : Hid (∀ V, Nw wr V → V.cell? ⟨g5, of5 + r, none⟩ = some (.slice bd l.length cb) ∧ V.cell? ⟨g, j * 3, none⟩ = some (.int .u8 (tL : Int)) ∧ V.cell? ⟨g, j * 3 + 1, none⟩ = some (.int .u64 (tI : Int)) ∧ V.cell? ⟨g, j * 3 + 2, none⟩ = some (.int .i64 (tW : Int))) := fun V nV => ⟨nV.cellOf z0, nV.cellOf y0, nV.cellOf y1, nV.cellOf y2⟩
              have hri : (r : Int) < (n : Int) := by omega
              have hji : (j : Int) < (m : Int) := by omega
              have nd : Nw wr wr.drew := (Fr.refl _ _).drew
              clear hl9 p2 hcr hmm hD
              go_wp2
              go_region_held3 (fun V => V.cell? ⟨g5, of5 + r, none⟩ = some (.slice bd l.length cb) ∧ V.cell? ⟨g, j * 3, none⟩ = some (.int .u8 (tL : Int)) ∧ V.cell? ⟨g, j * 3 + 1, none⟩ = some (.int .u64 (tI : Int)) ∧ V.cell? ⟨g, j * 3 + 2, none⟩ = some (.int .i64 (tW : Int))) (first | exact HKP.out _ nd | exact HKP.out _ n7) ((go_at_call 53; refine (HQ.out _ nd).mono ?_; rintro e7 w7 ⟨rfl, n7'⟩; have n7 : Nw wr w7 := nd.tr n7'; clear n7'))
              have N7 : Hid (Nw wr w7) := n7
              clear n7 nd z0 y0 y1 y2
              by_cases hq : ∃ c ∈ l, mtT t c
              · have hDt : D = true := by rw [HDD.out]; exact decide_eq_true hq
                subst hDt
                clear hq
                go_wp2
                exact ⟨⟨j + 1, by omega, by go_num, by go_num, (HW2.out.tr HWZ.out).tr N7.out⟩, by simp [intOf]; omega⟩
              · have hDf : D = false := by rw [HDD.out]; exact decide_eq_false hq
                subst hDf
                have HNQ : Hid (¬ ∃ c ∈ l, mtT t c) := hq
                clear hq
                go_wp2
                refine ⟨⟨r + 1, by omega, rfl, by go_num, fun r' l' h1 h2 => ?_, HW6.out.tr N7.out⟩, by simp [intOf]; omega⟩
                by_cases h3 : r' < r
                · exact HNO.out r' l' h3 h2
                · obtain rfl : r' = r := by omega
                  rw [HLL.out] at h2
                  cases h2
                  exact HNQ.out
            · exfalso
              obtain rfl : r = n := by omega
              obtain ⟨l, hl, htl⟩ := List.mem_flatten.1 HTR.out.1
              obtain ⟨r', hr'⟩ := List.getElem?_of_mem hl
              exact HNO.out r' l (by rw [HN.out]; exact (List.getElem?_eq_some_iff.1 hr').1) hr' ⟨tree, htl, HMT.out⟩
    · obtain rfl : k = m := by omega
      have HLD : Hid (Calls Tryd.prog 54 #[.slice ad n ca, .slice ta k tc] wr fun e w' => e = .returned (.bool true) ∧ Nw wr w') := QLD.out wr ta tc (N2.out.tr HW.out) ⟨_, ownsRow_keep O2.out (fun g hg => HW.out.block g (O2.out.lt g hg).2 (fun f => f))⟩
      go_wp2_with fail
      refine HLD.out.mono ?_
      rintro e w3 ⟨rfl, n3⟩
      go_wp2
      go_ret
      exact ⟨rfl, (N2.out.tr HW.out).tr n3⟩
end Go.Proofs.YtlaiomgebkeldaaDoor
