/- CoordRow. -/
import Derived.Test.YtibkmcmgolbhhaaDoorT4a
import Derived.Test.YtibkmcmgolbhhaaDoorM3
import Derived.Test.YtibkmcmgolbhhaaDoorGq
import Derived.Test.YtibkmcmgolbhhaaDoorD2
import Derived.Deep.DeepCutAuto
import Derived.Deep.RegionHeld3
namespace Go.Proofs.YtibkmcmgolbhhaaDoor
open Go.RowKit
set_option linter.unusedVariables false
set_option linter.unusedSimpArgs false

theorem hidr {p : Prop} (h : p) : Hid p := h
/-- How far the statement has come: the trees ahead, where they end, whether the levels fall. -/
structure RowI (b e : Nat) (pre : List (Nat × Nat)) (q : Nat) (f : Bool) : Prop where
  cov : cov b e = pre ++ cov q e
  le : q ≤ e
  nil : pre = [] → f = false
  last : ∀ p0 t, pre = p0 ++ [t] → IsW (t.2 * 2 ^ t.1) e t.1 ∧ q = t.2 * 2 ^ t.1 + 2 ^ t.1 ∧ (f = true → e - q < 2 ^ t.1)
theorem RowI.start (b e : Nat) (h : b ≤ e) : RowI b e [] b false := ⟨rfl, h, fun _ => rfl, fun p0 t k => by simp at k⟩
theorem RowI.next {b e : Nat} {pre : List (Nat × Nat)} {q : Nat} {f : Bool} (h : RowI b e pre q f) {L : Nat} (hL : IsW q e L) (f' : Bool) (hf0 : pre = [] → f' = false) (hf : ∀ p0 t, pre = p0 ++ [t] → f' = true → f = true ∨ L ≤ t.1) :
    RowI b e (pre ++ [(L, q / 2 ^ L)]) (q + 2 ^ L) f' := by
  refine ⟨?_, hL.1.2, fun k => by simp at k, ?_⟩
  · rw [h.cov, cov_step hL, List.append_assoc]; rfl
  · intro p0 t k
    have hd : q / 2 ^ L * 2 ^ L = q := Nat.div_mul_cancel hL.1.1
    obtain ⟨k1, k2⟩ := List.append_inj' k rfl
    simp only [List.cons.injEq, and_true] at k2
    subst k2
    simp only
    rw [hd]
    refine ⟨hL, rfl, fun hf' => ?_⟩
    rcases List.eq_nil_or_concat pre with k3 | ⟨p1, u, k3⟩
    · rw [hf0 k3] at hf'; cases hf'
    · rw [List.concat_eq_append] at k3
      obtain ⟨a1, a2, a3⟩ := h.last p1 u k3
      have := (row_next a1 rfl a2 hL).2.2
      refine this ?_
      rcases hf p1 u k3 hf' with k4 | k4
      · exact .inl (a3 k4)
      · exact .inr k4

set_option maxRecDepth 100000 in
set_option maxHeartbeats 8000000 in
theorem row_yes (b e : Nat) (hbe : b ≤ e) (he : e ≤ 9223372036854775808) (w : World) (hT : TabAt w) :
    Calls Tryd.prog 6 #[sp b e] w fun x w' => x = .returned (.bool true) ∧ Nw w w' := by
  have HT : Hid (TabAt w) := hT
  have hlen : Hid ((cov b e).length ≤ 128) := cov_len b e (by rw [p63]; exact he)
  clear hT
  have q1 := cover_yes b e hbe he (w.alloc (.cells #[.int .u64 (b : Int), .int .u64 (e : Int)] 26)) (HT.out.nw (nwa w _))
  have i1 : ¬ (b : Int) > (e : Int) := by omega
  have i2 : ¬ (e : Int) > 9223372036854775808 := by omega
  have f1 : decide (e < b) = false := by simp; omega
  have f2 : decide (9223372036854775808 < (e : Int)) = false := by simp; omega
  have f3 : decide ((e : Int) < (b : Int)) = false := by simp; omega
  go_enter Tryd.func6, Tryd.ntmps6
  go_wp2_with fail
  refine q1.mono ?_
  rintro x w1 ⟨v, rfl, hown, n1⟩
  obtain ⟨l0, b0, n2⟩ := one_made n1
  have hcrd := Crd.of hown
  have HBE : Hid (b ≤ e) := hbe
  obtain ⟨l, hl⟩ : ∃ l, l = cov b e := ⟨_, rfl⟩
  rw [← hl] at hcrd hlen
  have HLc : Hid (l = cov b e) := hl
  obtain ⟨ad, cap, rfl, hcells⟩ := hcrd
  have HC : Hid (∀ k t, l[k]? = some t → ∃ g off, ad = some ⟨g, off, none⟩ ∧ g < w1.heap.size ∧ w1.cell? ⟨g, off + k * 2, none⟩ = some (.int .u8 (t.1 : Int)) ∧ w1.cell? ⟨g, off + k * 2 + 1, none⟩ = some (.int .u64 (t.2 : Int))) := hcells
  have HB0 : Hid (w1.heap[w.heap.size]? = some (.cells #[.int .u64 (b : Int), .int .u64 (e : Int)] 26)) := b0
  have N2 : Hid (Nw w w1) := n2
  obtain ⟨n, hn⟩ : ∃ n, n = l.length := ⟨_, rfl⟩
  have hn128 : n ≤ 128 := by rw [hn]; exact hlen.out
  have HN : Hid (n = l.length) := hn
  rw [← hn]
  clear hn hl hcells n1 q1 hown n2
  have c0 := cell2a b0
  have c1 := cell2b b0
  go_wp2
  clear c0 c1 b0
  go_loopw [5, 6, 7] (fun a_ f_ i wr => ∃ (pre : List (Nat × Nat)) (q : Nat) (f : Bool), RowI b e pre q f ∧ a_ = .int .u64 (q : Int) ∧ f_ = .bool f ∧ i = .int .i64 (pre.length : Int) ∧ Nw w1 wr) (fun _ _ i _ => n - (intOf i).toNat)
  case atStart => exact ⟨[], b, false, RowI.start b e HBE.out, rfl, rfl, rfl, nwr w1⟩
  case round =>
    obtain ⟨pre, q, f, hI, rfl, rfl, rfl, hnw⟩ := hrel
    have HI : Hid (RowI b e pre q f) := hI
    have hqe := hI.le
    have hcv := hI.cov
    clear hI
    have b1 := (hnw.block _ l0 (fun f => f)).trans HB0.out
    have l1 := heap_lt b1
    have c1 := cell2b b1
    have hpl : pre.length ≤ n := by rw [HN.out, HLc.out, hcv, List.length_append]; omega
    obtain ⟨k, hk⟩ : ∃ k, k = pre.length := ⟨_, rfl⟩
    rw [← hk] at hpl ⊢
    have HK : Hid (k = pre.length) := hk
    have HCV : Hid (cov b e = pre ++ cov q e) := hcv
    clear hk hcv
    by_cases hlt : q < e
    · have hW := lev_is hlt
      obtain ⟨L, hL⟩ : ∃ L, L = lev q e := ⟨_, rfl⟩
      rw [← hL] at hW
      have hst := cov_step hW
      have hfit := hW.1.2
      have hmay := isW_may hW (by rw [p63]; exact he)
      have hdq : q / 2 ^ L * 2 ^ L = q := Nat.div_mul_cancel hW.1.1
      have hsp := fun W => span_yes L (q / 2 ^ L) hmay W
      have e1 : (q / 2 ^ L + 1) * 2 ^ L = q + 2 ^ L := by rw [Nat.add_mul, Nat.one_mul, hdq]
      rw [hdq, e1] at hsp
      have hIb := may_bd hmay
      have hL63 := hmay.1
      rw [p63] at hIb
      have hp2 := Nat.two_pow_pos L
      have hnx := fun (f' : Bool) (h1 : pre = [] → f' = false) (h2 : ∀ p0 t, pre = p0 ++ [t] → f' = true → f = true ∨ L ≤ t.1) => HI.out.next hW f' h1 h2
      have hget : l[k]? = some (L, q / 2 ^ L) := by rw [HK.out]; refine split_get (r := cov (q + 2 ^ L) e) ?_; rw [HLc.out, HCV.out, hst]
      obtain ⟨I, hIq⟩ : ∃ I, I = q / 2 ^ L := ⟨_, rfl⟩
      rw [← hIq] at hsp hIb hget hnx
      have HIq : Hid (I = q / 2 ^ L) := hIq
      obtain ⟨y, hy⟩ : ∃ y, y = q + 2 ^ L := ⟨_, rfl⟩
      rw [← hy] at hsp hfit hnx
      have hkn : k < n := by
        rw [HN.out]
        exact (List.getElem?_eq_some_iff.1 hget).1
      have HW : Hid (IsW q e L) := hW
      have HY : Hid (y = q + 2 ^ L) := hy
      have HNX := hidr hnx
      have hqy : q < y := by omega
      clear hL hW hst hdq e1 hIq hy hnx hmay
      obtain ⟨g, off, rfl, g1, g2, g3⟩ := HC.out k _ hget
      have g2' := hnw.cellOf g2
      have g3' := hnw.cellOf g3
      simp only at g2' g3'
      have hki : (k : Int) < (n : Int) := by omega
      go_wp2_with fail
      refine (hsp _).mono ?_
      rintro x w3 ⟨rfl, n3⟩
      have n4 : Nw w1 w3 := hnw.tr n3
      have b3 := (n3.block _ l1 (fun f => f)).trans b1
      have l3 := heap_lt b3
      have c3 := cell2b b3
      have g2'' := n4.cellOf g2
      have g3'' := n4.cellOf g3
      have hyq : ((q : Int) == (q : Int)) = true := by simp
      have i3 : ¬ (y : Int) > (e : Int) := by omega
      clear n3 hnw b1 c1 g2' g3' hsp l1
      by_cases hk0 : k = 0
      · subst hk0
        have hpn : pre = [] := List.length_eq_zero_iff.1 HK.out.symm
        have hfn := HI.out.nil hpn
        subst hfn
        go_wp2
        refine ⟨⟨[(L, I)], y, false, ?_, rfl, rfl, by simp, (by repeat first | with_reducible exact n4 | with_reducible refine Fr.alloc ?_ _ | with_reducible refine Fr.drew ?_ | (with_reducible refine Fr.setCell ?_ _ _ (fun h => ?_); rotate_left; focus (simp only at h; omega)))⟩, by simp [intOf]; omega⟩
        have := HNX.out false (fun _ => rfl) (fun p0 t k2 _ => by rw [hpn] at k2; simp at k2)
        rw [hpn] at this
        exact this
      · obtain ⟨j, rfl⟩ : ∃ j, k = j + 1 := ⟨k - 1, by omega⟩
        obtain ⟨p0, u, hpu⟩ : ∃ p0 u, pre = p0 ++ [u] := by
          rcases List.eq_nil_or_concat pre with k3 | ⟨p1, u, k3⟩
          · have := HK.out
            rw [k3] at this
            simp at this
          · exact ⟨p1, u, by rw [k3, List.concat_eq_append]⟩
        obtain ⟨M, J⟩ := u
        obtain ⟨a1, a2, a3⟩ := HI.out.last p0 (M, J) hpu
        simp only at a1 a2 a3
        obtain ⟨r1, r2, r3⟩ := row_next a1 rfl a2 HW.out
        rw [← HIq.out] at r1
        have hj0 : p0.length = j := by
          have := HK.out
          rw [hpu, List.length_append] at this
          simp at this
          omega
        have hgetj : l[j]? = some (M, J) := by
          rw [← hj0]
          refine split_last (r := cov q e) ?_
          rw [HLc.out, HCV.out, hpu]
        have hMm := isW_may a1 (by rw [p63]; exact he)
        rw [Nat.mul_div_cancel _ (Nat.two_pow_pos M)] at hMm
        have hM63 := hMm.1
        have hJb := may_bd hMm
        rw [p63] at hJb
        have hcm : cmpT M J L I = -1 := by
          apply cmpT_lt
          unfold beg
          have h1 : I * 2 ^ L = q := by rw [HIq.out]; exact Nat.div_mul_cancel HW.out.1.1
          have h2 := Nat.two_pow_pos M
          omega
        have qc := fun W => cmp_any M J L I (by omega) (by omega) (by omega) (by omega) W
        rw [hcm] at qc
        have HFL : Hid ((f = true ∧ L ≤ M) ∨ (f = false ∧ L ≤ M) ∨ (f = false ∧ ¬ L ≤ M)) := by
          rcases f with _ | _
          · by_cases k4 : L ≤ M
            · exact .inr (.inl ⟨rfl, k4⟩)
            · exact .inr (.inr ⟨rfl, k4⟩)
          · exact .inl ⟨rfl, Nat.le_of_lt (r2 (a3 rfl))⟩
        have HEND : Hid (∀ f' : Bool, (f' = true → f = true ∨ L ≤ M) → RowI b e (pre ++ [(L, I)]) y f') := fun f' hf => HNX.out f' (fun k4 => by rw [hpu] at k4; simp at k4) (fun p1 t k4 k5 => by
          rw [hpu] at k4
          obtain ⟨_, k6⟩ := List.append_inj' k4 rfl
          simp only [List.cons.injEq, and_true] at k6
          subst k6
          exact hf k5)
        have HR1 : Hid (¬ (M = L ∧ sib J = I)) := r1
        obtain ⟨x2, y2, o2, hs2, bx2, by2⟩ := sibIs_ex M J (by omega)
        have HS2 : Hid (SibIs M J x2 y2 o2) := hs2
        obtain ⟨g', off', hgo, h1, h2, h3⟩ := HC.out j _ hgetj
        have hgo' := Option.some.inj hgo
        simp only [Addr.mk.injEq, and_true] at hgo'
        obtain ⟨rfl, rfl⟩ := hgo'
        simp only at g2 g3 h2 h3
        have h2' := n4.cellOf h2
        have h3' := n4.cellOf h3
        have HG : Hid (w1.cell? ⟨g, off + (j + 1) * 2, none⟩ = some (.int .u8 (L : Int)) ∧ w1.cell? ⟨g, off + (j + 1) * 2 + 1, none⟩ = some (.int .u64 (I : Int)) ∧ w1.cell? ⟨g, off + j * 2, none⟩ = some (.int .u8 (M : Int)) ∧ w1.cell? ⟨g, off + j * 2 + 1, none⟩ = some (.int .u64 (J : Int))) := ⟨g2, g3, h2, h3⟩
        have hjn : j < n := by omega
        have hg3 : g < w3.heap.size := Nat.lt_of_lt_of_le g1 n4.size
        clear hpu a1 a2 a3 r1 r2 r3 hgetj hget hMm hcm hs2 hgo g2 g3 h2 h3 HNX HI HCV HW HIq HY hk0 hj0
        have hjz : (((j : Int) + 1) == 0) = false := by simp; omega
        go_wp2_with fail
        refine (sibling_any HS2.out (by omega) (by omega) _).mono ?_
        rintro x w4 ⟨rfl, n5⟩
        have n6 : Nw w1 w4 := Nw.tr (by repeat first | with_reducible exact n4 | with_reducible refine Fr.alloc ?_ _ | with_reducible refine Fr.drew ?_ | (with_reducible refine Fr.setCell ?_ _ _ (fun h => ?_); rotate_left; focus (simp only at h; omega))) n5
        clear n5 n4 c3 l3 b3 g2'' g3'' h2' h3'
        go_upto_region 17 with fail
        refine gen_world (fun W => W.heap[w4.heap.size]? = some (.cells #[.int .u8 (x2 : Int), .int .u64 (y2 : Int)] 24) ∧ Nw w1 W) ⟨by (repeat first | with_reducible exact heap_new _ _ | with_reducible exact heap_new _ _ | with_reducible exact heap_next _ _ _ | with_reducible exact heap_third _ _ _ _ | with_reducible refine hp_dr ?_ | (with_reducible refine hp_ne ?_ ?_; focus omega) | (with_reducible refine hp_al ?_ ?_; focus (first | omega | (simp <;> omega))) | with_reducible apply hp_set) <;> rfl, (by repeat first | with_reducible exact n6 | with_reducible refine Fr.alloc ?_ _ | with_reducible refine Fr.drew ?_ | (with_reducible refine Fr.setCell ?_ _ _ (fun h => ?_); rotate_left; focus (simp only at h; omega)))⟩ ?_
        rintro w5 ⟨b5, n7⟩
        clear n6
        go_cut [114] (fun c wx => c = .bool false ∧ Nw w1 wx)
        case first =>
          have hne : o2 = false ∨ (o2 = true ∧ ((x2 : Int) == (L : Int)) = false) ∨ (o2 = true ∧ x2 = L ∧ ((y2 : Int) == (I : Int)) = false) := by
            rcases HS2.out with ⟨_, k1, k2, k3⟩ | ⟨_, _, _, k3⟩
            · by_cases k4 : x2 = L
              · refine .inr (.inr ⟨k3, k4, ?_⟩)
                have : ¬ y2 = I := fun k5 => HR1.out ⟨by rw [← k1]; exact k4, by rw [← k2]; exact k5⟩
                simp; omega
              · exact .inr (.inl ⟨k3, by simp; omega⟩)
            · exact .inl k3
          have hkp : Hid (∀ W, Nw w5 W → W.cell? ⟨w4.heap.size, 0, none⟩ = some (.int .u8 (x2 : Int)) ∧ W.cell? ⟨w4.heap.size, 1, none⟩ = some (.int .u64 (y2 : Int)) ∧ W.cell? ⟨g, off + (j + 1) * 2, none⟩ = some (.int .u8 (L : Int)) ∧ W.cell? ⟨g, off + (j + 1) * 2 + 1, none⟩ = some (.int .u64 (I : Int)) ∧ W.cell? ⟨g, off + j * 2, none⟩ = some (.int .u8 (M : Int)) ∧ W.cell? ⟨g, off + j * 2 + 1, none⟩ = some (.int .u64 (J : Int))) := fun W hW => ⟨hW.cellOf (cell2a b5), hW.cellOf (cell2b b5), (n7.tr hW).cellOf HG.out.1, (n7.tr hW).cellOf HG.out.2.1, (n7.tr hW).cellOf HG.out.2.2.1, (n7.tr hW).cellOf HG.out.2.2.2⟩
          clear b5 HS2 HR1 HG
          haveI : Nonempty (Grw w5) := ⟨⟨w5, nwr w5⟩⟩
          have hex := fun x : Grw w5 => (⟨x, rfl⟩ : ∃ y : Grw w5, x.val = y.val)
          have z0 := fun x : Grw w5 => (hkp.out x.val x.nw).1
          have z1 := fun x : Grw w5 => (hkp.out x.val x.nw).2.1
          have z2 := fun x : Grw w5 => (hkp.out x.val x.nw).2.2.1
          have z3 := fun x : Grw w5 => (hkp.out x.val x.nw).2.2.2.1
          have z4 := fun x : Grw w5 => (hkp.out x.val x.nw).2.2.2.2.1
          have z5 := fun x : Grw w5 => (hkp.out x.val x.nw).2.2.2.2.2
          rcases hne with rfl | ⟨rfl, hne⟩ | ⟨rfl, rfl, hne⟩
          all_goals
            refine wp_region_grown (by kernel_rfl) (by kernel_rfl) ?_
            repeat (go_big_quiet_step (exact grown_call (qc _)))
            refine wpQuiet_nil ?_
            rintro wx ⟨⟨wx, nx⟩, rfl⟩
            go_wp2_with fail
            go_meet
            exact ⟨rfl, n7.tr nx⟩
        case rest =>
          obtain ⟨rfl, n8⟩ := hcut
          have z0 := n8.cellOf HG.out.1
          have z1 := n8.cellOf HG.out.2.2.1
          clear b5 n7 HG HS2 HR1 qc
          have hjn1 : ((j : Int) + 1) < (n : Int) := by omega
          rcases HFL.out with ⟨rfl, k4⟩ | ⟨rfl, k4⟩ | ⟨rfl, k4⟩
          · have i5 : decide ((M : Int) < (L : Int)) = false := by simp; omega
            have i7 : decide (M < L) = false := by simp; omega
            have i6 : (L : Int) ≤ (M : Int) := by omega
            go_wp2
            go_quiet (fail)
            go_wp2
            go_quiet (fail)
            go_wp2
            refine ⟨⟨pre ++ [(L, I)], y, true, HEND.out _ (by simp <;> omega), rfl, rfl, by rw [List.length_append, ← HK.out]; rfl, ?_⟩, by simp [intOf]; omega⟩
            exact n8.drewN _
          · have i5 : decide ((M : Int) < (L : Int)) = false := by simp; omega
            have i7 : decide (M < L) = false := by simp; omega
            have i6 : (L : Int) ≤ (M : Int) := by omega
            go_wp2
            go_quiet (fail)
            go_wp2
            go_quiet (fail)
            go_wp2
            refine ⟨⟨pre ++ [(L, I)], y, true, HEND.out _ (by simp <;> omega), rfl, rfl, by rw [List.length_append, ← HK.out]; rfl, ?_⟩, by simp [intOf]; omega⟩
            exact n8.drewN _
          · have i5 : (M : Int) < (L : Int) := by omega
            have i6 : decide ((L : Int) ≤ (M : Int)) = false := by simp; omega
            have i7 : decide (L ≤ M) = false := by simp; omega
            go_wp2
            go_quiet (fail)
            go_wp2
            go_quiet (fail)
            go_wp2
            refine ⟨⟨pre ++ [(L, I)], y, false, HEND.out _ (by simp <;> omega), rfl, rfl, by rw [List.length_append, ← HK.out]; rfl, ?_⟩, by simp [intOf]; omega⟩
            exact n8.drewN _
    · obtain rfl : q = e := by omega
      have hnil := cov_nil (a := q) (c := q) (by omega)
      have hkn : k = n := by rw [HK.out, HN.out, HLc.out, HCV.out, hnil, List.append_nil]
      have hki : ¬ (k : Int) < (n : Int) := by omega
      clear hnil hkn
      go_wp2_with fail
      have n4 : Nw w wr := N2.out.tr hnw
      refine (alive_any _ (HT.out.nw n4)).mono ?_
      rintro x w3 ⟨rfl, n5⟩
      go_wp2
      go_ret
      exact ⟨rfl, n4.tr n5⟩

theorem row_any (b e : Nat) (hb : b < 18446744073709551616) (he : e < 18446744073709551616) (w : World) (hT : TabAt w) {B : Nat} {a : Nat → Addr} (hS : Sent B w a) :
    Calls Tryd.prog 6 #[sp b e] w fun x w' => x = .returned (.bool true) ∧ Nw w w' := by
  by_cases h : b ≤ e ∧ e ≤ 9223372036854775808
  · exact row_yes b e h.1 h.2 w hT
  · exact row_no b e h hb he w hT hS
end Go.Proofs.YtibkmcmgolbhhaaDoor
