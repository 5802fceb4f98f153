/- The document's constants, and its words behind a block. -/
import Derived.Test.YtlaiomgebkeldaaDoorRa2
namespace Go.Proofs.YtlaiomgebkeldaaDoor.Rf
open Go.RowKit
set_option linter.unusedVariables false
set_option linter.unusedSimpArgs false

/-- Eight cells written, one behind the other. -/
theorem set8 {W : World} {b : Nat} {c : Array Value} {t : TypeId} {f : Nat × Nat} (h : W.heap[b]? = some (.cells c t f)) (hc : c.size = 8) (x0 x1 x2 x3 x4 x5 x6 x7 : Value) :
    ∃ w4, w4 = (((((((W.setCell ⟨b, 0, none⟩ x0).setCell ⟨b, 1, none⟩ x1).setCell ⟨b, 2, none⟩ x2).setCell ⟨b, 3, none⟩ x3).setCell ⟨b, 4, none⟩ x4).setCell ⟨b, 5, none⟩ x5).setCell ⟨b, 6, none⟩ x6).setCell ⟨b, 7, none⟩ x7 ∧ w4.heap[b]? = some (.cells #[x0, x1, x2, x3, x4, x5, x6, x7] t f) ∧ Fr (fun k => k = b) W w4 := by
  refine ⟨_, rfl, ?_, ?_⟩
  · have e : (((((((c.setIfInBounds 0 x0).setIfInBounds 1 x1).setIfInBounds 2 x2).setIfInBounds 3 x3).setIfInBounds 4 x4).setIfInBounds 5 x5).setIfInBounds 6 x6).setIfInBounds 7 x7 = #[x0, x1, x2, x3, x4, x5, x6, x7] := by
      obtain ⟨l⟩ := c
      have hl : l.length = 8 := by simpa using hc
      match l, hl with
      | [_, _, _, _, _, _, _, _], _ => simp only [List.setIfInBounds_toArray, List.set_cons_zero, List.set_cons_succ]
    rw [← e]
    exact heap_set (heap_set (heap_set (heap_set (heap_set (heap_set (heap_set (heap_set h x0) x1) x2) x3) x4) x5) x6) x7
  · iterate 8 refine Fr.setCell ?_ _ _ (fun _ => rfl)
    exact Fr.refl _ W
/-- The words, the first j of them with what was ahead added. -/
def part8 (s T : V8) (j : Nat) : Array Value := Array.ofFn (n := 8) fun i => u32v (if i.val < j then ad ((wl T).getD i.val 0) ((wl s).getD i.val 0) else (wl T).getD i.val 0)
theorem part8_size (s T : V8) (j : Nat) : (part8 s T j).size = 8 := by simp [part8]
theorem part8_0 (s T : V8) : part8 s T 0 = vals T := by
  apply Array.ext
  · rw [part8_size]; rfl
  · intro i h1 h2
    have h := vals_at T i (by simpa [part8] using h1)
    rw [Array.getElem?_eq_getElem h2] at h
    rw [Option.some.inj h]
    simp [part8]
theorem ad_comm (x y : Nat) : ad x y = ad y x := by unfold ad; rw [Nat.add_comm]
theorem part8_8 (s T : V8) : part8 s T 8 = vals (add8 s T) := by
  apply Array.ext
  · rw [part8_size]; rfl
  · intro i h1 h2
    have hi : i < 8 := by simpa [part8] using h1
    have h := vals_at (add8 s T) i hi
    rw [Array.getElem?_eq_getElem h2] at h
    rw [Option.some.inj h]
    have e : (wl (add8 s T)).getD i 0 = ad ((wl T).getD i 0) ((wl s).getD i 0) := by
      have : i = 0 ∨ i = 1 ∨ i = 2 ∨ i = 3 ∨ i = 4 ∨ i = 5 ∨ i = 6 ∨ i = 7 := by omega
      rcases this with rfl | rfl | rfl | rfl | rfl | rfl | rfl | rfl <;> exact ad_comm _ _
    rw [e]
    simp [part8, hi]
theorem part8_at (s T : V8) (j : Nat) (h : j < 8) : (part8 s T j)[j]? = some (u32v ((wl T).getD j 0)) := by
  rw [part8, Array.getElem?_ofFn, dif_pos h, if_neg (by simp)]
theorem part8_set (s T : V8) (j : Nat) (h : j < 8) : (part8 s T j).setIfInBounds j (u32v (ad ((wl T).getD j 0) ((wl s).getD j 0))) = part8 s T (j + 1) := by
  apply Array.ext
  · simp [part8]
  · intro i h1 h2
    rw [Array.getElem_setIfInBounds (by simpa using h1)]
    simp only [part8, Array.getElem_ofFn]
    by_cases h : j = i
    · subst h; simp
    · rw [if_neg h]
      have : (i < j + 1) = (i < j) := by apply propext; omega
      simp only [this]
set_option maxRecDepth 100000 in
set_option maxHeartbeats 2000000 in
theorem block_any (s : V8) (hs : s.ok) (g o c : Nat) (B : Nat → Nat) (hB : ∀ i, i < 64 → B i < 256) (w : World) (hb : ∀ i, i < 64 → w.cell? ⟨g, o + i, none⟩ = some (.int .u8 (B i : Nat))) :
    Calls Tryd.prog 74 #[.agg (vals s), .slice (some ⟨g, o, none⟩) 64 c, .agg ks] w fun e w' => e = .returned (.agg (vals (add8 s (rounds Kc (Wf B) s 64)))) ∧ Nw w w' := by
  obtain ⟨R, hR⟩ : ∃ R, R = add8 s (rounds Kc (Wf B) s 64) := ⟨_, rfl⟩
  rw [← hR]
  have HR : Hid (R = add8 s (rounds Kc (Wf B) s 64)) := hR
  clear hR
  obtain ⟨RV, hRV⟩ : ∃ x, x = vals R := ⟨_, rfl⟩
  rw [← hRV]
  have HRV : Hid (RV = vals R) := hRV
  clear hRV
  obtain ⟨V0, hV0⟩ : ∃ x, x = vals s := ⟨_, rfl⟩
  have HV0 : Hid (V0 = vals s) := hV0
  have hv8 : V0.size = 8 := by rw [hV0]; rfl
  have hk64 := ks_size
  rw [← hV0]
  obtain ⟨KS, hKS⟩ : ∃ x, x = ks := ⟨_, rfl⟩
  have HKS : Hid (KS = ks) := hKS
  rw [← hKS] at hk64 ⊢
  clear hV0 hKS
  go_enter Tryd.func74, Tryd.ntmps74
  go_wp2_with fail
  have n0 : Nw w (((w.alloc (.cells V0 132)).alloc (.cells KS 138)).alloc (.cells z8 132)) := (((Fr.refl _ _).alloc _).alloc _).alloc _
  have hh : (((w.alloc (.cells V0 132)).alloc (.cells KS 138)).alloc (.cells z8 132)).heap[w.heap.size]? = some (.cells V0 132 (0, 0)) := (Below.heap_alloc _ _ _ (by simp; omega)).trans ((Below.heap_alloc _ _ _ (by simp)).trans (heap_new w _))
  have hk : (((w.alloc (.cells V0 132)).alloc (.cells KS 138)).alloc (.cells z8 132)).heap[w.heap.size + 1]? = some (.cells KS 138 (0, 0)) := (Below.heap_alloc _ _ _ (by simp)).trans (heap_next w _ _)
  have hr : (((w.alloc (.cells V0 132)).alloc (.cells KS 138)).alloc (.cells z8 132)).heap[w.heap.size + 1 + 1]? = some (.cells z8 132 (0, 0)) := by
    have := heap_next (w.alloc (.cells V0 132)) (.cells KS 138) (.cells z8 132)
    rw [World.size_alloc] at this
    exact this
  have q1 := schedule_any g o c B hB _ (fun i hi => n0.cellOf (hb i hi))
  refine q1.mono ?_
  rintro e1 w1 ⟨rfl, n1⟩
  have h1 := (n1.block _ (heap_lt hh) (fun f => f)).trans hh
  have k1 := (n1.block _ (heap_lt hk) (fun f => f)).trans hk
  have r1 := (n1.block _ (heap_lt hr) (fun f => f)).trans hr
  have n1 : Nw w w1 := n0.tr n1
  clear n0 hh hk hr q1 hb
  have z1 := heap_lt r1
  go_wp2_with first
    | (refine wp_store_agg rfl (.tmp 7) (.tmp 14) 138 64 rfl Tryd.sizeOf138 w1.heap.size 0 rfl _ 138 (heap_new _ _) (wcs B 64) rfl (wcs_size _ _) (wcs_one _ _) (by decide) (wcs B 64) (by simp) ?_; intro w2 j2 f2 s2; have n2 : Nw w1 w2 := ((Fr.refl _ _).alloc _).trans f2 (fun k hk q => by omega); have h2 := (n2.block _ (heap_lt h1) (fun f => f)).trans h1; clear s2)
    | (refine wp_load_agg rfl (.tmp 3) 132 8 rfl Tryd.isAgg132 Tryd.sizeOf132 w.heap.size 0 rfl V0 132 (0, 0) h2 V0 hv8 (fun j _ => by rw [Nat.zero_add]) ?_)
    | (refine wp_store_agg rfl (.tmp 8) (.tmp 15) 132 8 rfl Tryd.sizeOf132 w2.heap.size 0 rfl _ 132 (heap_new _ _) V0 rfl hv8 (by rw [HV0.out]; exact vals_one s) (by decide) V0 (by simp) ?_; intro w3 j3 f3 s3; have n3 : Nw w2 w3 := ((Fr.refl _ _).alloc _).trans f3 (fun k hk q => by omega); clear s3)
  have k2 := (n2.block _ (heap_lt k1) (fun f => f)).trans k1
  have r2 := (n2.block _ (heap_lt r1) (fun f => f)).trans r1
  have h3 := (n3.block _ (heap_lt h2) (fun f => f)).trans h2
  have k3 := (n3.block _ (heap_lt k2) (fun f => f)).trans k2
  have r3 := (n3.block _ (heap_lt r2) (fun f => f)).trans r2
  have w3' := (n3.block _ (heap_lt j2) (fun f => f)).trans j2
  have nw3 : Nw w w3 := (n1.tr n2).tr n3
  have d12 : w1.heap.size < w2.heap.size := heap_lt j2
  have nn : w.heap.size ≤ w1.heap.size := n1.size
  clear h1 h2 k1 k2 r1 r2 j2 n1 n2 n3 f2 f3
  obtain ⟨b7, hb7⟩ : ∃ b, b = w1.heap.size := ⟨_, rfl⟩
  obtain ⟨b8, hb8⟩ : ∃ b, b = w2.heap.size := ⟨_, rfl⟩
  rw [← hb7] at w3' d12 z1 nn ⊢
  rw [← hb8] at j3 d12 ⊢
  clear hb7 hb8
  have HB : Hid (∀ i, i < 64 → B i < 256) := hB
  have HS0 : Hid s.ok := hs
  clear hB hs
  have HZ : Hid (w.heap.size + 1 + 1 < b7) := z1
  have HD : Hid (b7 < b8) := d12
  clear z1 d12 nn
  go_loopw [9] (fun i wr => ∃ k : Nat, k ≤ 64 ∧ i = .int .i64 k ∧ Nw w wr ∧ wr.heap[w.heap.size]? = some (.cells V0 132 (0, 0)) ∧ wr.heap[w.heap.size + 1]? = some (.cells KS 138 (0, 0)) ∧ wr.heap[w.heap.size + 1 + 1]? = some (.cells z8 132 (0, 0)) ∧ wr.heap[b7]? = some (.cells (wcs B 64) 138 (0, 0)) ∧ wr.heap[b8]? = some (.cells (vals (rounds Kc (Wf B) s k)) 132 (0, 0))) (fun i _ => 64 - (intOf i).toNat)
  case atStart => exact ⟨0, by omega, rfl, nw3, h3, k3, r3, w3', by rw [HV0.out] at j3; exact j3⟩
  case round =>
    clear h3 k3 r3 w3' j3 nw3
    obtain ⟨k, hk, rfl, hnw, hh, hkk, hr, hw, hv⟩ := hrel
    by_cases hlt : k < 64
    · have hok := rounds_ok Kc (Wf B) s HS0.out k
      have HS : Hid (rounds Kc (Wf B) s (k + 1) = step (Kc k) (Wf B k) (rounds Kc (Wf B) s k)) := rfl
      generalize hT : rounds Kc (Wf B) s k = T at hok HS hv
      clear hT
      obtain ⟨a, b, c, d, e, f, g, p⟩ := T
      obtain ⟨ha, hb, hc, hd, he, hf, hg, hp⟩ := hok
      dsimp only at ha hb hc hd he hf hg hp
      have v0 := cell_of hv 0
      have v1 := cell_of hv 1
      have v2 := cell_of hv 2
      have v3 := cell_of hv 3
      have v4 := cell_of hv 4
      have v5 := cell_of hv 5
      have v6 := cell_of hv 6
      have v7 := cell_of hv 7
      simp [vals] at v0 v1 v2 v3 v4 v5 v6 v7
      have hcw := (cell_of hw k).trans (wcs_get B 64 k hlt (by omega))
      have hck := (cell_of hkk k).trans (show KS[k]? = some (u32v (Kc k)) by rw [HKS.out]; exact ks_get k hlt)
      have hwk : Wd (Wf B k) := Wf_lt B HB.out k hlt
      have hkl := Kc_lt k
      generalize Wf B k = wk at hcw hwk HS
      generalize Kc k = kk at hck hkl HS
      have hki : (k : Int) < 64 := by omega
      have hk0 : (0 : Int) ≤ (k : Int) := by omega
      have x1 := b_xo (rr e 6) (rr e 11) (rr_lt _ _ he) (rr_lt _ _ he)
      have x2 : bits .xor .u32 ((xo (rr e 6) (rr e 11) : Nat) : Int) ((rr e 25 : Nat) : Int) = ((S1 e : Nat) : Int) := b_xo _ _ (xo_lt _ _ (rr_lt _ _ he) (rr_lt _ _ he)) (rr_lt _ _ he)
      have x3 := b_an e f he hf
      have x4 := i_no e he
      have x4' := m_no e he
      have x5 := b_an (no e) g (no_lt _) hg
      have x6 : bits .xor .u32 ((an e f : Nat) : Int) ((an (no e) g : Nat) : Int) = ((ch e f g : Nat) : Int) := b_xo _ _ (an_lt _ _ hf) (an_lt _ _ hg)
      have a1 := b_ad p (S1 e)
      have a2 := b_ad (ad p (S1 e)) (ch e f g)
      have a3 := b_ad (ad (ad p (S1 e)) (ch e f g)) kk
      have a4 := b_ad (ad (ad (ad p (S1 e)) (ch e f g)) kk) wk
      have b1 := w_ad p (S1 e)
      have b2 := w_ad (ad p (S1 e)) (ch e f g)
      have b3 := w_ad (ad (ad p (S1 e)) (ch e f g)) kk
      have b4 := w_ad (ad (ad (ad p (S1 e)) (ch e f g)) kk) wk
      have y1 := b_xo (rr a 2) (rr a 13) (rr_lt _ _ ha) (rr_lt _ _ ha)
      have y2 : bits .xor .u32 ((xo (rr a 2) (rr a 13) : Nat) : Int) ((rr a 22 : Nat) : Int) = ((S0 a : Nat) : Int) := b_xo _ _ (xo_lt _ _ (rr_lt _ _ ha) (rr_lt _ _ ha)) (rr_lt _ _ ha)
      have y3 := b_an a b ha hb
      have y4 := b_an a c ha hc
      have y5 := b_an b c hb hc
      have y6 := b_xo (an a b) (an a c) (an_lt _ _ hb) (an_lt _ _ hc)
      have y7 : bits .xor .u32 ((xo (an a b) (an a c) : Nat) : Int) ((an b c : Nat) : Int) = ((mj a b c : Nat) : Int) := b_xo _ _ (xo_lt _ _ (an_lt _ _ hb) (an_lt _ _ hc)) (an_lt _ _ hc)
      have a5 := b_ad (S0 a) (mj a b c)
      have b5 := w_ad (S0 a) (mj a b c)
      go_wp2
      go_quiet ((go_at_call 85; refine Calls.quiet_of (turn_any _ _ he (by first | decide | simp [Rn]) _)))
      have nQ : ∀ n, Nw wr (wr.drewN n) := fun n => (Fr.refl _ wr).drewN n
      have HQ : Hid (∀ n, Nw wr (wr.drewN n)) := nQ
      clear nQ
      generalize hwq : wr.drewN _ = wq
      have nq : Nw wr wq := by rw [← hwq]; exact HQ.out _
      clear hwq HQ
      have hh := (nq.block _ (heap_lt hh) (fun f => f)).trans hh
      have hkk := (nq.block _ (heap_lt hkk) (fun f => f)).trans hkk
      have hr := (nq.block _ (heap_lt hr) (fun f => f)).trans hr
      have hw := (nq.block _ (heap_lt hw) (fun f => f)).trans hw
      have hv := (nq.block _ (heap_lt hv) (fun f => f)).trans hv
      have hnw := hnw.tr nq
      have v0 := nq.cellOf v0
      have v1 := nq.cellOf v1
      have v2 := nq.cellOf v2
      have v3 := nq.cellOf v3
      have v4 := nq.cellOf v4
      have v5 := nq.cellOf v5
      have v6 := nq.cellOf v6
      have v7 := nq.cellOf v7
      clear nq
      go_wp2
      go_quiet ((go_at_call 85; refine Calls.quiet_of (turn_any _ _ ha (by first | decide | simp [Rn]) _)))
      have HQ : Hid (∀ n, Nw wq (wq.drewN n)) := fun n => (Fr.refl _ wq).drewN n
      generalize hwz : wq.drewN _ = wz
      have nq : Nw wq wz := by rw [← hwz]; exact HQ.out _
      clear hwz HQ
      have hh := (nq.block _ (heap_lt hh) (fun f => f)).trans hh
      have hkk := (nq.block _ (heap_lt hkk) (fun f => f)).trans hkk
      have hr := (nq.block _ (heap_lt hr) (fun f => f)).trans hr
      have hw := (nq.block _ (heap_lt hw) (fun f => f)).trans hw
      have hv := (nq.block _ (heap_lt hv) (fun f => f)).trans hv
      have hnw := hnw.tr nq
      have v0 := nq.cellOf v0
      have v1 := nq.cellOf v1
      have v2 := nq.cellOf v2
      have v3 := nq.cellOf v3
      have v4 := nq.cellOf v4
      have v5 := nq.cellOf v5
      have v6 := nq.cellOf v6
      have v7 := nq.cellOf v7
      clear nq
      have a6 := b_ad (ad (ad (ad (ad p (S1 e)) (ch e f g)) kk) wk) (ad (S0 a) (mj a b c))
      have a7 := b_ad d (ad (ad (ad (ad p (S1 e)) (ch e f g)) kk) wk)
      obtain ⟨w4, hw4, j4, f4⟩ := set8 hv (vals_size _) (.int .u32 ((ad (ad (ad (ad (ad p (S1 e)) (ch e f g)) kk) wk) (ad (S0 a) (mj a b c)) : Nat) : Int)) (.int .u32 ((a : Nat) : Int)) (.int .u32 ((b : Nat) : Int)) (.int .u32 ((c : Nat) : Int)) (.int .u32 ((ad d (ad (ad (ad (ad p (S1 e)) (ch e f g)) kk) wk) : Nat) : Int)) (.int .u32 ((e : Nat) : Int)) (.int .u32 ((f : Nat) : Int)) (.int .u32 ((g : Nat) : Int))
      have F0 := frozen_of hv
      go_wp2_with fail
      rw [← hw4]
      clear hw4
      have hZ := HZ.out
      have hD := HD.out
      have hsz := hnw.size
      have n4 : Nw w w4 := hnw.trans f4 (fun j hj q => by omega)
      have hh4 : w4.heap[w.heap.size]? = some (.cells V0 132 (0, 0)) := (f4.block _ (heap_lt hh) (by omega)).trans hh
      have hk4 : w4.heap[w.heap.size + 1]? = some (.cells KS 138 (0, 0)) := (f4.block _ (heap_lt hkk) (by omega)).trans hkk
      have hr4 : w4.heap[w.heap.size + 1 + 1]? = some (.cells z8 132 (0, 0)) := (f4.block _ (heap_lt hr) (by omega)).trans hr
      have hw4 : w4.heap[b7]? = some (.cells (wcs B 64) 138 (0, 0)) := (f4.block _ (heap_lt hw) (by omega)).trans hw
      have e4 : k + 1 ≤ 64 := by omega
      clear f4 hh hkk hr hw hv v0 v1 v2 v3 v4 v5 v6 v7 a1 a2 a3 a4 a5 a6 a7 b1 b2 b3 b4 b5 x1 x2 x3 x4 x4' x5 x6 y1 y2 y3 y4 y5 y6 y7
      have hv4 : w4.heap[b8]? = some (.cells (vals (rounds Kc (Wf B) s (k + 1))) 132 (0, 0)) := by
        rw [HS.out]
        exact j4
      refine ⟨⟨k + 1, e4, by go_num, n4, hh4, hk4, hr4, hw4, hv4⟩, by simp [intOf]; omega⟩
    · obtain rfl : k = 64 := by omega
      generalize hT : rounds Kc (Wf B) s 64 = T at HR hv
      clear hT
      have hv := hv
      rw [← part8_0 s T] at hv
      have hZ := HZ.out
      have hD := HD.out
      have hsz := hnw.size
      have HV : Hid (V0 = vals s) := HV0
      have hb8 : w.heap.size + 1 + 1 < b8 := by omega
      clear hw hkk hZ hD hsz
      go_wp2
      go_loopw [12] (fun i wx => ∃ j : Nat, j ≤ 8 ∧ i = .int .i64 j ∧ Nw w wx ∧ wx.heap[w.heap.size]? = some (.cells V0 132 (0, 0)) ∧ wx.heap[w.heap.size + 1 + 1]? = some (.cells z8 132 (0, 0)) ∧ wx.heap[b8]? = some (.cells (part8 s T j) 132 (0, 0))) (fun i _ => 8 - (intOf i).toNat)
      case atStart => exact ⟨0, by omega, rfl, hnw, hh, hr, hv⟩
      case round =>
        clear hh hr hv hnw
        obtain ⟨j, hj, rfl, hnw, hh, hr, hv⟩ := hrel
        by_cases hlt : j < 8
        · have hji : (j : Int) < 8 := by omega
          have hj0 : (0 : Int) ≤ (j : Int) := by omega
          have hcv := (cell_of hv j).trans (part8_at s T j hlt)
          have hch := (cell_of hh j).trans (show V0[j]? = some (u32v ((wl s).getD j 0)) by rw [HV.out]; exact vals_at s j hlt)
          have hfz : wr.frozen? ⟨b8, j, none⟩ = false := frozen_of hv j
          have HP : Hid ((part8 s T j).setIfInBounds j (u32v (ad ((wl T).getD j 0) ((wl s).getD j 0))) = part8 s T (j + 1)) := part8_set s T j hlt
          generalize (wl T).getD j 0 = x at hcv HP
          generalize (wl s).getD j 0 = y at hch HP
          have a1 := b_ad x y
          have b1 := w_ad x y
          go_wp2
          go_region
          all_goals go_wp2
          refine ⟨⟨j + 1, by omega, by go_num, ((hnw.setCell _ _ (fun h => absurd h (by simp; omega))).drew), (heap_set_ne (by omega) _).trans hh, (heap_set_ne (by omega) _).trans hr, ?_⟩, by simp [intOf]; omega⟩
          rw [← HP.out]
          exact heap_set hv _
        · obtain rfl : j = 8 := by omega
          rw [part8_8 s T, ← HR.out, ← HRV.out] at hv
          have h8 : RV.size = 8 := by rw [HRV.out]; rfl
          have h81 : ∀ u ∈ RV.toList, u.oneCell' = true := by rw [HRV.out]; exact vals_one _
          have hzd : z8.toList.drop (0 + 8) = [] := rfl
          go_wp2_with first
            | (refine wp_load_agg rfl (.tmp 8) 132 8 rfl Tryd.isAgg132 Tryd.sizeOf132 b8 0 rfl RV 132 (0, 0) hv RV h8 (fun j _ => by rw [Nat.zero_add]) ?_)
            | (refine wp_store_agg rfl (.tmp 6) (.tmp 117) 132 8 rfl Tryd.sizeOf132 (w.heap.size + 1 + 1) 0 rfl z8 132 hr RV rfl h8 h81 (by decide) RV (by rw [hzd]; simp) ?_; intro w4 j4 f4 z4)
          exact bodyPost_ret (results_cell Tryd.results74 Tryd.isAgg132 Tryd.sizeOf132 rfl j4 h8) rfl ⟨rfl, hnw.trans f4 (fun k hk q => by omega)⟩
end Go.Proofs.YtlaiomgebkeldaaDoor.Rf
