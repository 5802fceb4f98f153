/- ReaderKeeps: the walk. -/
import Derived.Test.YtbkhdnceblgljaaGreatDoorJgz
import Derived.Deep.DeepCutAuto
namespace Go.Proofs.YtbkhdnceblgljaaGreatDoor
open Go.RowKit
set_option linter.unusedVariables false
set_option linter.unusedSimpArgs false
set_option maxRecDepth 100000 in
set_option maxHeartbeats 4000000 in
theorem keeps_core (x y : Int) (hx : -9223372036854775808 ≤ x ∧ x ≤ 9223372036854775807) (hy : -9223372036854775808 ≤ y ∧ y ≤ 9223372036854775807) (p : Option Addr) (zs : List Int) (c : Nat) (w : World) (hz : Iz w p zs) (hzb : ∀ j, -9223372036854775808 ≤ zs.getD j 0 ∧ zs.getD j 0 ≤ 9223372036854775807) (hzl : zs.length ≤ 17592186044416) {a : Nat → Addr} (hG : Gd w.heap.size a w) :
    Calls Tryz.prog 4 #[.int .i64 x, .int .i64 y, .slice p zs.length c] w fun e w' => e = .returned (.bool true) ∧ Nw w w' := by
  have GD : Hid (Gd w.heap.size a w) := hG
  have HZ : Hid (Iz w p zs ∧ ∀ j, -9223372036854775808 ≤ zs.getD j 0 ∧ zs.getD j 0 ≤ 9223372036854775807) := ⟨hz, hzb⟩
  obtain ⟨zl, hzl2⟩ : ∃ q, q = zs.length := ⟨_, rfl⟩
  have HZL : Hid (zl = zs.length) := hzl2
  rw [← hzl2] at hzl ⊢
  have q1 := round14 x 601 hx.1 hx.2 (by omega) (by omega)
  have q2 := round14 y 5 hy.1 hy.2 (by omega) (by omega)
  obtain ⟨n, hn⟩ : ∃ n : Nat, x % 601 = (n : Int) := ⟨(x % 601).toNat, by have := Int.emod_nonneg x (show (601 : Int) ≠ 0 by decide); omega⟩
  have hnb : n < 601 := by have := Int.emod_lt_of_pos x (show (0 : Int) < 601 by decide); omega
  obtain ⟨cp, hcp⟩ : ∃ n : Nat, y % 5 = (n : Int) := ⟨(y % 5).toNat, by have := Int.emod_nonneg y (show (5 : Int) ≠ 0 by decide); omega⟩
  have hcb : cp < 5 := by have := Int.emod_lt_of_pos y (show (0 : Int) < 5 by decide); omega
  rw [hn] at q1
  rw [hcp] at q2
  have L32 : Hid (∀ x ∈ lh n, x.length = 32) := lh_32 n
  have LL : Hid ((lh n).length = n) := lh_len n
  clear hn hcp hx hy hz hzb hzl2 hG
  go_enter Tryz.func4, Tryz.ntmps4
  go_wp2_with fail
  refine (q1 _).mono ?_
  rintro e w0 ⟨rfl, rfl⟩
  go_wp2_with fail
  have q3 := hashes14_z n (by omega) w0 GD.out.l
  refine q3.mono ?_
  rintro e w1 ⟨va, vc, rfl, o1, n1, hz1⟩
  have N1 : Hid (Nw w0 w1) := n1
  have q4 := laid14 (n := n) (by omega) o1 hz1 (GD.out.nw n1) n1.size
  clear q3 o1 n1 hz1 q1
  go_wp2_with fail
  refine q4.mono ?_
  rintro e w2 ⟨b, bm, g, T, M, rfl, lt2, hld, hon, hT, n2⟩
  have N2 : Hid (Nw w0 w2) := N1.out.tr n2
  have LT2 : Hid (Lt w1 w2 b bm g T M ∧ HldA (lh n) M) := ⟨lt2, hld⟩
  have q5 := all_yes n (by omega) w2
  have hlen := allT_le n (by omega) 8
  obtain ⟨TL, hTL⟩ : ∃ l, l = allT n 8 := ⟨_, rfl⟩
  rw [← hTL] at q5 hlen
  obtain ⟨N, hN⟩ : ∃ N, N = TL.length := ⟨_, rfl⟩
  rw [← hN] at q5 hlen
  have HTL : Hid (TL = allT n 8 ∧ N = TL.length) := ⟨hTL, hN⟩
  clear q4 lt2 hld hon hT n2 hTL hN
  go_wp2_with fail
  refine q5.mono ?_
  rintro e w3 ⟨ta, tc, rfl, o3, n3⟩
  have N3 : Hid (Nw w0 w3) := N2.out.tr n3
  have O3 : Hid (w3.ownsRow w2.heap.size 60 3 (.slice ta N tc) N (tic TL)) := o3
  have LT3 : Hid (Lt w1 w3 b bm g T M) := LT2.out.1.nw n3
  have BG : Hid (b < w2.heap.size ∧ bm < w2.heap.size ∧ g < w2.heap.size) := ⟨heap_lt LT2.out.1.2.2.2.blk, LT2.out.1.2.2.2.mp.lt, LT2.out.1.2.2.1.2⟩
  clear q5 o3 n3
  go_wp2_with fail
  refine (q2 _).mono ?_
  rintro e w4 ⟨rfl, rfl⟩
  have s1 := N1.out.size
  have s3 := N3.out.size
  have q6 := RS.made (K := 0) (B := w0.heap.size) LT3.out.2.2.2 LT2.out.2 L32.out LT3.out.2.2.1.2 ⟨by have := LT3.out.1; omega, by have := LT3.out.2.1; omega, by have := LT3.out.2.2.1.1; omega⟩ rfl (by simp) ⟨Int.le_refl _, Int.le_refl _⟩ cp (by omega) (GD.out.nw N3.out).s
  clear q2
  go_wp2_with fail
  refine q6.mono ?_
  rintro e w5 ⟨s, rfl, A5, hsb, hbm, hzs, hcap, hrn, hx, hy, hM, hL, htg, n5⟩
  have HA5 : Hid (s.At (lh n) w0.heap.size 0 w5) := A5
  have HF5 : Hid (s.sb = b ∧ s.zs = [] ∧ s.cap = cp ∧ s.rn = 0 ∧ s.x = 0 ∧ s.y = 0 ∧ s.L = []) := ⟨hsb, hzs, hcap, hrn, hx, hy, hL⟩
  have N5 : Hid (Nw w0 w5) := N3.out.tr n5
  have O5 : Hid (w5.ownsRow w2.heap.size 60 3 (.slice ta N tc) N (tic TL)) := ownsRow_keep O3.out (fun k hk => n5.block k (O3.out.lt k hk).2 (fun f => f))
  have TG5 : Hid (∀ k, (Value.slice ta N tc).ownBlock = some k → s.tg k = 9) := fun k hk => by
    have h1 := O3.out.lt k hk
    have h2 := BG.out
    exact htg k h1.2 (by omega) (by omega) (by omega)
  obtain ⟨rb, hrb⟩ : ∃ x, x = s.rb := ⟨_, rfl⟩
  have HRB : Hid (s.rb = rb) := hrb.symm
  rw [← hrb]
  obtain ⟨m, hm⟩ : ∃ m, m = min N cp := ⟨_, rfl⟩
  have HMM : Hid (m = min N cp) := hm
  have hmb : m ≤ N ∧ m ≤ cp := by omega
  clear q6 hsb hbm hzs hcap hrn hx hy hM hL htg n5 A5 hrb hm
  go_upto_if 62 with fail
  go_cut [9] (fun u wx => u = .slice ta m tc ∧ w5 = wx)
  case first =>
    by_cases hnc : cp < N
    · have h1 : (cp : Int) < (N : Int) := by omega
      obtain ⟨gt, cap', hva, hcap, _⟩ : ∃ g cap, Value.slice ta N tc = .slice (some ⟨g, 0, none⟩) N cap ∧ N ≤ cap ∧ cap ≤ maxLen := by
        rcases O5.out.2 with ⟨_, h1⟩ | ⟨g, cap, cur, hv, _, _, h1, h2, _⟩
        · omega
        · exact ⟨g, cap, hv, h1, h2⟩
      simp only [Value.slice.injEq, true_and] at hva
      obtain ⟨rfl, rfl⟩ := hva
      have h2 : cp ≤ tc := by omega
      have h3 : (cp : Int) ≤ (tc : Int) := by omega
      have hmc : m = cp := by have := HMM.out; omega
      go_wp2
      go_meet
      exact ⟨by rw [hmc], rfl⟩
    · have h1 : ¬ (cp : Int) < (N : Int) := by omega
      have hmc : m = N := by have := HMM.out; omega
      go_wp2
      go_meet
      exact ⟨by rw [hmc], rfl⟩
  case rest =>
  obtain ⟨rfl, rfl⟩ := hcut
  have HONE : Hid (∀ (a b : Nat) (t u : Ti), TL[a]? = some t → TL[b]? = some u → t.L = u.L → t.I = u.I → a = b) := fun a b t u => by rw [HTL.out.1]; exact allT_one n 8 a b t u
  have HTI : Hid (∀ (k : Nat) (t : Ti), TL[k]? = some t → wid t.L t.I (lh n).length = t.W ∧ 0 < t.W ∧ t.L ≤ 7 ∧ t.I ≤ 1000 ∧ t.W ≤ 256) := fun k t h => by
    rw [HTL.out.1] at h
    have h1 := ti_key (by omega) h
    rw [LL.out]
    obtain ⟨h2, h3, h4⟩ := allT_mem (List.mem_of_getElem? h)
    have h5 := wid_in _ _ _ _ h1.1 h1.2
    have h6 : cntT n t.L ≤ 1000 := by unfold cntT; have := nod8_small (show n ≤ 1000 by omega) t.L; omega
    exact ⟨h1.1, h1.2, by omega, by omega, h5.2.1⟩
  have hcm : m < 5 := by omega
  go_wp2
  go_loopw [13] (fun v wr => ∃ (k : Nat) (s' : RS), k ≤ m ∧ v = .int .i64 k ∧ s'.At (lh n) w0.heap.size k wr ∧ s'.rb = rb ∧ s'.sb = b ∧ s'.zs = [] ∧ s'.cap = cp ∧ s'.rn = k ∧ s'.x = k ∧ s'.y = 0 ∧ s'.L.length = k ∧ Hd (lh n) TL k s'.L ∧ (∀ k, (Value.slice ta N tc).ownBlock = some k → s'.tg k = 9) ∧ wr.ownsRow w2.heap.size 60 3 (.slice ta N tc) N (tic TL) ∧ Nw w0 wr) (fun v _ => m + 1 - (intOf v).toNat)
  case atStart => exact ⟨0, s, by omega, rfl, HA5.out, HRB.out, HF5.out.1, HF5.out.2.1, HF5.out.2.2.1, HF5.out.2.2.2.1, HF5.out.2.2.2.2.1, HF5.out.2.2.2.2.2.1, by rw [HF5.out.2.2.2.2.2.2]; rfl, by rw [HF5.out.2.2.2.2.2.2]; exact Hd.zero _ _, TG5.out, O5.out, N5.out⟩
  case round =>
    obtain ⟨k, s', hk, rfl, hA, h1, h2, h3, h4, h5, h6, h7, h8, h9, h10, ho, hn⟩ := hrel
    have HA : Hid (s'.At (lh n) w0.heap.size k wr) := hA
    have HF : Hid (s'.rb = rb ∧ s'.sb = b ∧ s'.zs = [] ∧ s'.cap = cp ∧ s'.rn = k ∧ s'.x = k ∧ s'.y = 0 ∧ s'.L.length = k) := ⟨h1, h2, h3, h4, h5, h6, h7, h8⟩
    have HH : Hid (Hd (lh n) TL k s'.L) := h9
    have HT : Hid (∀ k, (Value.slice ta N tc).ownBlock = some k → s'.tg k = 9) := h10
    have HO : Hid (wr.ownsRow w2.heap.size 60 3 (.slice ta N tc) N (tic TL)) := ho
    have HN : Hid (Nw w0 wr) := hn
    clear hA h1 h2 h3 h4 h5 h6 h7 h8 h9 h10 ho hn
    by_cases hkm : k < m
    · have hki : (k : Int) < (m : Int) := by omega
      obtain ⟨t, ht⟩ : ∃ t, TL[k]? = some t := ⟨_, List.getElem?_eq_getElem (by rw [← HTL.out.2]; omega)⟩
      obtain ⟨gt, rfl, c0, c1, c2⟩ := ti_cells HTL.out.2.symm HO.out ht
      obtain ⟨i1, i2, i3, i4, i5⟩ := HTI.out k t ht
      have hmt := mayT_wid i1 i2
      have hgl : gt < wr.heap.size := (HO.out.lt gt rfl).2
      have QG : Hid (∀ V, s'.At (lh n) w0.heap.size k V → Nw wr V → s'.Got (lh n) w0.heap.size k t.L t.I t.W (fun u => u.rn = s'.rn + 1 ∧ u.x = s'.x + 1 ∧ u.y = s'.y ∧ u.M = s'.M ∧ u.L.length = s'.L.length + 1 ∧ ∀ j, CT.tk u.L j = none ↔ (j ≠ keyT t.L t.I t.W (mayT_wid i1 i2) ∧ CT.tk s'.L j = none)) V) := fun V hV nV =>
        RS.new2 hV i1 i2 (HH.out.yet HONE.out ht hmt) (by rw [HF.out.2.2.1]; simp) (by rw [HF.out.2.2.2.2.2.2.2, HF.out.2.2.2.1]; omega) (GD.out.nw (HN.out.tr nV)).pow (by omega) (GD.out.nw (HN.out.tr nV)).s
      have q := RS.tile HA.out i1 i2 _ QG.out
      rw [HF.out.1] at q
      have HTK : Hid (TL[k]? = some t) := ht
      have HKY : Hid (wid t.L t.I (lh n).length = t.W ∧ 0 < t.W) := ⟨i1, i2⟩
      have HH2 : Hid (∀ L', (∀ j, CT.tk L' j = none ↔ (j ≠ keyT t.L t.I t.W (mayT_wid i1 i2) ∧ CT.tk s'.L j = none)) → Hd (lh n) TL (k + 1) L') := fun L' hL' => HH.out.next ht hmt hL'
      obtain ⟨tL, htL⟩ : ∃ x, x = t.L := ⟨_, rfl⟩
      obtain ⟨tI, htI⟩ : ∃ x, x = t.I := ⟨_, rfl⟩
      obtain ⟨tW, htW⟩ : ∃ x, x = t.W := ⟨_, rfl⟩
      have q' : Hid (Calls Tryz.prog 18 #[.pointer (some ⟨rb, 0, none⟩), tl tL tI tW] wr fun e w' => ∃ (u : RS) (v : Value) (bq : Nat), e = .returned (.tuple #[v, .nilIface]) ∧ u.At (lh n) w0.heap.size (k + 1) w' ∧ u.rb = rb ∧ u.sb = b ∧ u.zs = [] ∧ u.cap = cp ∧ u.rn = ((k + 1 : Nat) : Int) ∧ u.x = ((k + 1 : Nat) : Int) ∧ u.y = 0 ∧ u.L.length = k + 1 ∧ Hd (lh n) TL (k + 1) u.L ∧ (∀ j, j < wr.heap.size → u.tg j = s'.tg j) ∧ Fr s'.Ff wr w') := by
        rw [htL, htI, htW]
        exact q.mono fun e w' ⟨u, v, bq, e1, _, _, _, a1, le, r, f⟩ => ⟨u, v, bq, e1, a1, le.rb.trans HF.out.1, le.sb.trans HF.out.2.1, le.zs.trans HF.out.2.2.1, le.cap.trans HF.out.2.2.2.1, by rw [r.1, HF.out.2.2.2.2.1]; omega, by rw [r.2.1, HF.out.2.2.2.2.2.1]; omega, by rw [r.2.2.1, HF.out.2.2.2.2.2.2.1], by rw [r.2.2.2.2.1, HF.out.2.2.2.2.2.2.2], HH2.out _ r.2.2.2.2.2, le.tg, f⟩
      rw [← htL] at c0 i3
      rw [← htI] at c1 i4
      rw [← htW] at c2 i5
      clear q i1 i2 hmt ht htL htI htW QG HH2
      go_wp2_with fail
      refine q'.out.mono ?_
      rintro e w6 ⟨u, v, bq, rfl, a1, h1, h2, h3, h4, h5, h6, h7, h8, h9, h10, f6⟩
      have R6 : Hid (u.At (lh n) w0.heap.size (k + 1) w6 ∧ u.rb = rb ∧ u.sb = b ∧ u.zs = [] ∧ u.cap = cp ∧ u.rn = ((k + 1 : Nat) : Int) ∧ u.x = ((k + 1 : Nat) : Int) ∧ u.y = 0 ∧ u.L.length = k + 1 ∧ Hd (lh n) TL (k + 1) u.L) := ⟨a1, h1, h2, h3, h4, h5, h6, h7, h8, h9⟩
      have T6 : Hid (∀ k, (Value.slice (some ⟨gt, 0, none⟩) N tc).ownBlock = some k → u.tg k = 9) := fun j hj => (h10 j (HO.out.lt j hj).2).trans (HT.out j hj)
      have O6 : Hid (w6.ownsRow w2.heap.size 60 3 (.slice (some ⟨gt, 0, none⟩) N tc) N (tic TL)) := ownsRow_keep HO.out (fun j hj => f6.block j (HO.out.lt j hj).2 (fun q => by have := HT.out j hj; unfold RS.Ff at q; omega))
      have N6 : Hid (Nw w0 w6) := HN.out.trans f6 (fun j hj q => by have := HA.out.bt j q; omega)
      clear a1 h1 h2 h3 h4 h5 h6 h7 h8 h9 h10 f6 q' c0 c1 c2
      go_wp2
      exact ⟨⟨k + 1, u, by omega, by go_num, R6.out.1, R6.out.2.1, R6.out.2.2.1, R6.out.2.2.2.1, R6.out.2.2.2.2.1, R6.out.2.2.2.2.2.1, R6.out.2.2.2.2.2.2.1, R6.out.2.2.2.2.2.2.2.1, R6.out.2.2.2.2.2.2.2.2.1, R6.out.2.2.2.2.2.2.2.2.2, T6.out, O6.out, N6.out⟩, by simp [intOf]; omega⟩
    · have hkm2 : k = m := by omega
      subst hkm2
      have hki : ¬ (k : Int) < (k : Int) := by omega
      go_wp2
      clear HF5 HA5 TG5 O5 N5 
      go_loopw [16, 17] (fun u v wr => ∃ (i : Nat) (s2 : RS), i ≤ 50 ∧ u = .int .i64 i ∧ v = .int .i64 i ∧ s2.At (lh n) w0.heap.size (k + i) wr ∧ s2.rb = rb ∧ s2.sb = b ∧ s2.zs = [] ∧ s2.cap = cp ∧ s2.rn = k ∧ s2.x = ((k + i : Nat) : Int) ∧ s2.y = i ∧ Hd (lh n) TL k s2.L ∧ (∀ k, (Value.slice ta N tc).ownBlock = some k → s2.tg k = 9) ∧ wr.ownsRow w2.heap.size 60 3 (.slice ta N tc) N (tic TL) ∧ Nw w0 wr) (fun _ v _ => 51 - (intOf v).toNat)
      case atStart => exact ⟨0, s', by omega, rfl, rfl, HA.out, HF.out.1, HF.out.2.1, HF.out.2.2.1, HF.out.2.2.2.1, HF.out.2.2.2.2.1, HF.out.2.2.2.2.2.1, HF.out.2.2.2.2.2.2.1, HH.out, HT.out, HO.out, HN.out⟩
      case round =>
        clear HA HF HH HT HO HN
        obtain ⟨i, s2, hi, rfl, rfl, hA, h1, h2, h3, h4, h5, h6, h7, h9, h10, ho, hn⟩ := hrel
        have HA : Hid (s2.At (lh n) w0.heap.size (k + i) wr) := hA
        have HF : Hid (s2.rb = rb ∧ s2.sb = b ∧ s2.zs = [] ∧ s2.cap = cp ∧ s2.rn = k ∧ s2.x = ((k + i : Nat) : Int) ∧ s2.y = i) := ⟨h1, h2, h3, h4, h5, h6, h7⟩
        have HH : Hid (Hd (lh n) TL k s2.L) := h9
        have HT : Hid (∀ k, (Value.slice ta N tc).ownBlock = some k → s2.tg k = 9) := h10
        have HO : Hid (wr.ownsRow w2.heap.size 60 3 (.slice ta N tc) N (tic TL)) := ho
        have HN : Hid (Nw w0 wr) := hn
        clear hA h1 h2 h3 h4 h5 h6 h7 h9 h10 ho hn
        obtain ⟨cb, hcb⟩ : ∃ cb, cb = decide (i < zl ∧ i < 50 ∧ 0 < k) := ⟨_, rfl⟩
        have HCB : Hid (cb = decide (i < zl ∧ i < 50 ∧ 0 < k)) := hcb
        clear hcb
        go_upto_region 20 with fail
        go_cut [95] (fun v wx => v = .bool cb ∧ wr = wx)
        case first =>
          by_cases h1 : i < zl
          · have a1 : decide ((i : Int) < (zl : Int)) = true := decide_eq_true (by omega)
            by_cases h2 : i < 50
            · have a2 : decide ((i : Int) < 50) = true := decide_eq_true (by omega)
              by_cases h3 : 0 < k
              · have a3 : decide ((0 : Int) < (k : Int)) = true := decide_eq_true (by omega)
                have e : cb = true := by rw [HCB.out]; exact decide_eq_true ⟨h1, h2, h3⟩
                go_wp2
                go_meet
                exact ⟨by rw [e], rfl⟩
              · have a3 : decide ((0 : Int) < (k : Int)) = false := decide_eq_false (by omega)
                have e : cb = false := by rw [HCB.out]; exact decide_eq_false (by omega)
                go_wp2
                go_meet
                exact ⟨by rw [e], rfl⟩
            · have a2 : decide ((i : Int) < 50) = false := decide_eq_false (by omega)
              have e : cb = false := by rw [HCB.out]; exact decide_eq_false (by omega)
              go_wp2
              go_meet
              exact ⟨by rw [e], rfl⟩
          · have a1 : decide ((i : Int) < (zl : Int)) = false := decide_eq_false (by omega)
            have e : cb = false := by rw [HCB.out]; exact decide_eq_false (by omega)
            go_wp2
            go_meet
            exact ⟨by rw [e], rfl⟩
        case rest =>
        obtain ⟨rfl, rfl⟩ := hcut
        cases cb with
        | true =>
          have hc3 := of_decide_eq_true HCB.out.symm
          obtain ⟨h1, h2, h3⟩ := hc3
          obtain ⟨z, hz⟩ : ∃ z, z = zs.getD i 0 := ⟨_, rfl⟩
          obtain ⟨gz, oz, hp, cz⟩ := HZ.out.1 i (by rw [← HZL.out]; exact h1)
          rw [← hz] at cz
          have cz2 := HN.out.cellOf cz
          have hzb := HZ.out.2 i
          rw [← hz] at hzb
          subst hp
          have qr := fun V => round14 z (k : Int) hzb.1 hzb.2 (by omega) (by omega) V
          obtain ⟨r, hr⟩ : ∃ r : Nat, z % (k : Int) = (r : Int) := ⟨(z % (k : Int)).toNat, by have := Int.emod_nonneg z (show (k : Int) ≠ 0 by omega); omega⟩
          have hrk : r < k := by have := Int.emod_lt_of_pos z (show (0 : Int) < (k : Int) by omega); omega
          rw [hr] at qr
          have hgz : gz < wr.heap.size := Nat.lt_of_lt_of_le (World.block_lt_of_cell? w0 _ cz) HN.out.size
          obtain ⟨t, ht⟩ : ∃ t, TL[r]? = some t := ⟨_, List.getElem?_eq_getElem (by rw [← HTL.out.2]; omega)⟩
          obtain ⟨gt, rfl, c0, c1, c2⟩ := ti_cells HTL.out.2.symm HO.out ht
          obtain ⟨i1, i2, i3, i4, i5⟩ := HTI.out r t ht
          have hmt := mayT_wid i1 i2
          have hgl : gt < wr.heap.size := (HO.out.lt gt rfl).2
          have QG : Hid (∀ V, s2.At (lh n) w0.heap.size (k + i) V → Nw wr V → s2.Got (lh n) w0.heap.size (k + i) t.L t.I t.W (fun u => u.rn = s2.rn ∧ u.x = s2.x + 1 ∧ u.y = s2.y + 1 ∧ u.M = s2.M ∧ u.L.length = s2.L.length ∧ ∀ j, CT.tk u.L j = none ↔ CT.tk s2.L j = none) V) := fun V hV nV =>
            RS.had2 hV i1 i2 (HH.out.not hrk ht hmt) (GD.out.nw (HN.out.tr nV)).pow (by omega)
          have q := RS.tile HA.out i1 i2 _ QG.out
          rw [HF.out.1] at q
          obtain ⟨tL, htL⟩ : ∃ x, x = t.L := ⟨_, rfl⟩
          obtain ⟨tI, htI⟩ : ∃ x, x = t.I := ⟨_, rfl⟩
          obtain ⟨tW, htW⟩ : ∃ x, x = t.W := ⟨_, rfl⟩
          have q' : Hid (Calls Tryz.prog 18 #[.pointer (some ⟨rb, 0, none⟩), tl tL tI tW] wr fun e w' => ∃ (u : RS) (v : Value) (bq : Nat), e = .returned (.tuple #[v, .nilIface]) ∧ u.At (lh n) w0.heap.size (k + (i + 1)) w' ∧ u.rb = rb ∧ u.sb = b ∧ u.zs = [] ∧ u.cap = cp ∧ u.rn = k ∧ u.x = ((k + (i + 1) : Nat) : Int) ∧ u.y = ((i + 1 : Nat) : Int) ∧ Hd (lh n) TL k u.L ∧ (∀ j, j < wr.heap.size → u.tg j = s2.tg j) ∧ Fr s2.Ff wr w') := by
            rw [htL, htI, htW]
            exact q.mono fun e w' ⟨u, v, bq, e1, _, _, _, a1, le, r, f⟩ => ⟨u, v, bq, e1, a1, le.rb.trans HF.out.1, le.sb.trans HF.out.2.1, le.zs.trans HF.out.2.2.1, le.cap.trans HF.out.2.2.2.1, by rw [r.1, HF.out.2.2.2.2.1], by rw [r.2.1, HF.out.2.2.2.2.2.1]; omega, by rw [r.2.2.1, HF.out.2.2.2.2.2.2]; omega, HH.out.same r.2.2.2.2.2, le.tg, f⟩
          rw [← htL] at c0 i3
          rw [← htI] at c1 i4
          rw [← htW] at c2 i5
          have b1 : (i : Int) < (zl : Int) := by omega
          have b2 : (r : Int) < (k : Int) := by omega
          clear q i1 i2 hmt ht htL htI htW QG hz hr cz
          go_wp2_with fail
          refine (qr _).mono ?_
          rintro e w5' ⟨rfl, rfl⟩
          go_wp2_with fail
          refine q'.out.mono ?_
          rintro e w6 ⟨u, v, bq, rfl, a1, h1, h2, h3, h4, h5, h6, h7, h9, h10, f6⟩
          have R6 : Hid (u.At (lh n) w0.heap.size (k + (i + 1)) w6 ∧ u.rb = rb ∧ u.sb = b ∧ u.zs = [] ∧ u.cap = cp ∧ u.rn = k ∧ u.x = ((k + (i + 1) : Nat) : Int) ∧ u.y = ((i + 1 : Nat) : Int) ∧ Hd (lh n) TL k u.L) := ⟨a1, h1, h2, h3, h4, h5, h6, h7, h9⟩
          have T6 : Hid (∀ k, (Value.slice (some ⟨gt, 0, none⟩) N tc).ownBlock = some k → u.tg k = 9) := fun j hj => (h10 j (HO.out.lt j hj).2).trans (HT.out j hj)
          have O6 : Hid (w6.ownsRow w2.heap.size 60 3 (.slice (some ⟨gt, 0, none⟩) N tc) N (tic TL)) := ownsRow_keep HO.out (fun j hj => f6.block j (HO.out.lt j hj).2 (fun q => by have := HT.out j hj; unfold RS.Ff at q; omega))
          have N6 : Hid (Nw w0 w6) := HN.out.trans f6 (fun j hj q => by have := HA.out.bt j q; omega)
          clear a1 h1 h2 h3 h4 h5 h6 h7 h9 h10 f6 q' c0 c1 c2 qr
          go_wp2
          exact ⟨⟨i + 1, u, by omega, by go_num, by go_num, R6.out.1, R6.out.2.1, R6.out.2.2.1, R6.out.2.2.2.1, R6.out.2.2.2.2.1, R6.out.2.2.2.2.2.1, R6.out.2.2.2.2.2.2.1, R6.out.2.2.2.2.2.2.2.1, R6.out.2.2.2.2.2.2.2.2, T6.out, O6.out, N6.out⟩, by simp [intOf]; omega⟩
        | false =>
          obtain ⟨X, hX⟩ : ∃ X : Int, X = ((k + i : Nat) : Int) := ⟨_, rfl⟩
          have HX : Hid (X = ((k + i : Nat) : Int)) := hX
          have hXb : 0 ≤ X ∧ X ≤ 100 := by omega
          have hne1 : (X != (k : Int) + (i : Int)) = false := by rw [hX]; simp
          have q10 := rcounts_any HA.out.rm.blk
          rw [HF.out.1, HF.out.2.2.2.2.2.1, HF.out.2.2.2.2.2.2, ← hX] at q10
          clear hX
          go_wp2_with fail
          refine q10.mono ?_
          rintro e w10 ⟨rfl, n10⟩
          have A10 : Hid (s2.At (lh n) w0.heap.size (k + i) w10) := HA.out.nw n10
          have q11 := scounts_any A10.out.rm.st.blk
          rw [HF.out.2.1, HF.out.2.2.2.2.1] at q11
          have N10 : Hid (Nw wr w10) := n10
          clear q10 n10
          go_wp2_with fail
          refine q11.mono ?_
          rintro e w11 ⟨rfl, n11⟩
          have N11 : Hid (Nw wr w11) := N10.out.tr n11
          have A11 : Hid (s2.At (lh n) w0.heap.size (k + i) w11) := A10.out.nw n11
          have q12 := RS.forget A11.out (by omega)
          rw [HF.out.1] at q12
          clear q11 n11
          go_wp2_with fail
          refine q12.mono ?_
          rintro e w12 ⟨rfl, s3, a12, le12, e1, e2, e3, e4, e5, f12⟩
          have A12 : Hid (s3.At (lh n) w0.heap.size (k + i + 1024) w12) := a12
          have R12 : Hid (s3.rb = rb ∧ s3.zs = [] ∧ s3.cap = cp ∧ s3.rn = k ∧ s3.x = X ∧ s3.y = i ∧ s3.L = []) := ⟨le12.rb.trans HF.out.1, le12.zs.trans HF.out.2.2.1, le12.cap.trans HF.out.2.2.2.1, e1.trans HF.out.2.2.2.2.1, by rw [e2, HF.out.2.2.2.2.2.1, HX.out], e3.trans HF.out.2.2.2.2.2.2, e5⟩
          have F12 : Hid (Fr s2.Ff wr w12) := (N11.out.mono (fun _ _ f => f.elim)).trans f12 (fun _ _ q => q)
          have N12 : Hid (Nw w0 w12) := HN.out.trans F12.out (fun j hj q => by have := HA.out.bt j q; omega)
          have T12 : Hid (∀ k, (Value.slice ta N tc).ownBlock = some k → s3.tg k = 9) := fun j hj => (le12.tg j (Nat.lt_of_lt_of_le (HO.out.lt j hj).2 N11.out.size)).trans (HT.out j hj)
          have O12 : Hid (w12.ownsRow w2.heap.size 60 3 (.slice ta N tc) N (tic TL)) := ownsRow_keep HO.out (fun j hj => F12.out.block j (HO.out.lt j hj).2 (fun q => by have := HT.out j hj; unfold RS.Ff at q; omega))
          clear q12 a12 le12 e1 e2 e3 e4 e5 f12 hne1
          by_cases hk0 : 0 < k
          · have hki : (0 : Int) < (k : Int) := by omega
            have hmin : min (1 : Int) (k : Int) = 1 := by omega
            obtain ⟨t, ht⟩ : ∃ t, TL[0]? = some t := ⟨_, List.getElem?_eq_getElem (by rw [← HTL.out.2]; omega)⟩
            obtain ⟨gt, rfl, c0, c1, c2⟩ := ti_cells HTL.out.2.symm O12.out ht
            obtain ⟨i1, i2, i3, i4, i5⟩ := HTI.out 0 t ht
            have hgl : gt < w12.heap.size := (O12.out.lt gt rfl).2
            have QG : Hid (∀ V, s3.At (lh n) w0.heap.size (k + i + 1024) V → Nw w12 V → s3.Got (lh n) w0.heap.size (k + i + 1024) t.L t.I t.W (fun u => u.rn = s3.rn + 1 ∧ u.x = s3.x + 1 ∧ u.y = s3.y ∧ u.M = s3.M ∧ u.L.length = s3.L.length + 1 ∧ ∀ j, CT.tk u.L j = none ↔ (j ≠ keyT t.L t.I t.W (mayT_wid i1 i2) ∧ CT.tk s3.L j = none)) V) := fun V hV nV =>
              RS.new2 hV i1 i2 (by rw [R12.out.2.2.2.2.2.2]; rfl) (by rw [R12.out.2.1]; simp) (by rw [R12.out.2.2.2.2.2.2, R12.out.2.2.1]; have := HMM.out; simp; omega) (GD.out.nw (N12.out.tr nV)).pow (by omega) (GD.out.nw (N12.out.tr nV)).s
            have q := RS.tile A12.out i1 i2 _ QG.out
            rw [R12.out.1] at q
            obtain ⟨tL, htL⟩ : ∃ x, x = t.L := ⟨_, rfl⟩
            obtain ⟨tI, htI⟩ : ∃ x, x = t.I := ⟨_, rfl⟩
            obtain ⟨tW, htW⟩ : ∃ x, x = t.W := ⟨_, rfl⟩
            obtain ⟨X2, hX2⟩ : ∃ X2 : Int, X2 = X + 1 := ⟨_, rfl⟩
            have q' : Hid (Calls Tryz.prog 18 #[.pointer (some ⟨rb, 0, none⟩), tl tL tI tW] w12 fun e w' => ∃ (u : RS) (v : Value) (bq : Nat), e = .returned (.tuple #[v, .nilIface]) ∧ u.At (lh n) w0.heap.size (k + i + 1024 + 1) w' ∧ u.rb = rb ∧ u.x = X2 ∧ u.y = i ∧ Fr s3.Ff w12 w') := by
              rw [htL, htI, htW]
              exact q.mono fun e w' ⟨u, v, bq, e1, _, _, _, a1, le, r, f⟩ => ⟨u, v, bq, e1, a1, le.rb.trans R12.out.1, by rw [r.2.1, R12.out.2.2.2.2.1, hX2], by rw [r.2.2.1, R12.out.2.2.2.2.2.1], f⟩
            have heq : (X2 == X + 1) = true := by rw [hX2]; simp
            rw [← htL] at c0 i3
            rw [← htI] at c1 i4
            rw [← htW] at c2 i5
            clear q i1 i2 ht htL htI htW QG hX2
            go_wp2_with fail
            refine q'.out.mono ?_
            rintro e w13 ⟨u, v, bq, rfl, a13, h1, h2, h3, f13⟩
            have A13 : Hid (u.At (lh n) w0.heap.size (k + i + 1024 + 1) w13) := a13
            have HR30 : Hid (u.rb = rb ∧ u.x = X2 ∧ u.y = (i : Int)) := ⟨h1, h2, h3⟩
            have N13 : Hid (Nw w0 w13) := N12.out.trans f13 (fun j hj q => by have := A12.out.bt j q; omega)
            clear a13 h1 h2 h3 f13 q' c0 c1 c2
            go_wp2_with fail
            have q30 := rcounts_any A13.out.rm.blk
            rw [HR30.out.1, HR30.out.2.1, HR30.out.2.2] at q30
            refine q30.mono ?_
            rintro e w20 ⟨rfl, n20⟩
            have N20 : Hid (Nw w0 w20) := N13.out.tr n20
            have q31 := lives14_any (GD.out.nw N20.out)
            clear q30 n20
            go_wp2_with fail
            refine q31.mono ?_
            rintro e w21 ⟨rfl, n21⟩
            have N21 : Hid (Nw w0 w21) := N20.out.tr n21
            clear n21 q31
            go_wp2
            go_ret
            exact ⟨rfl, N21.out⟩
          · have hki : ¬ (0 : Int) < (k : Int) := by omega
            have hmin : min (1 : Int) (k : Int) = 0 := by omega
            have HR30 : Hid (s3.rb = rb ∧ s3.x = X ∧ s3.y = (i : Int)) := ⟨R12.out.1, R12.out.2.2.2.2.1, R12.out.2.2.2.2.2.1⟩
            have heq : (X == X + 0) = true := by simp
            go_wp2_with fail
            have q30 := rcounts_any A12.out.rm.blk
            rw [HR30.out.1, HR30.out.2.1, HR30.out.2.2] at q30
            refine q30.mono ?_
            rintro e w20 ⟨rfl, n20⟩
            have N20 : Hid (Nw w0 w20) := N12.out.tr n20
            have q31 := lives14_any (GD.out.nw N20.out)
            clear q30 n20
            go_wp2_with fail
            refine q31.mono ?_
            rintro e w21 ⟨rfl, n21⟩
            have N21 : Hid (Nw w0 w21) := N20.out.tr n21
            clear n21 q31
            go_wp2
            go_ret
            exact ⟨rfl, N21.out⟩
end Go.Proofs.YtbkhdnceblgljaaGreatDoor
