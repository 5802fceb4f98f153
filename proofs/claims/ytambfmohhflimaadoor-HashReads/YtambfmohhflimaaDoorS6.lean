/- The document's Read. -/
import Derived.Test.YtambfmohhflimaaDoorS5
import Derived.Test.YtambfmohhflimaaDoorY4
import Derived.Deep.RegionWith
import Derived.BigRegion
namespace Go.Proofs.YtambfmohhflimaaDoor
open Go.RowKit
set_option linter.unusedVariables false
set_option linter.unusedSimpArgs false

theorem hx_wo : ∀ (b : Fin 256) (x : Fin 16), ((hx x.val).toNat = b.val) ↔ wo b.val = some x.val := by decide +kernel
/-- What a letter is worth; -1: it is none. -/
def woI (b : Nat) : Int := match wo b with
  | some x => (x : Int)
  | none => -1
set_option maxRecDepth 100000 in
set_option maxHeartbeats 1000000 in
theorem worth_any (b : Nat) (hb : b < 256) (w : World) : Calls Tryd.prog 39 #[.int .u8 (b : Int)] w fun e w' => e = .returned (.int .i64 (woI b)) ∧ w' = w := by
  obtain ⟨R, hR⟩ : ∃ R, R = woI b := ⟨_, rfl⟩
  rw [← hR]
  have HR : Hid (R = woI b) := hR
  clear hR
  go_enter Tryd.func39, Tryd.ntmps39
  go_wp2
  go_loopw [3] (fun i wr => ∃ k : Nat, k ≤ 16 ∧ i = .int .i64 k ∧ wr = w ∧ (∀ x, x < k → wo b ≠ some x)) (fun i _ => 16 - (intOf i).toNat)
  case atStart => exact ⟨0, by omega, rfl, rfl, fun x hx => by omega⟩
  case round =>
    obtain ⟨k, hk, rfl, rfl, hno⟩ := hrel
    have HN : Hid (∀ x, x < k → wo b ≠ some x) := hno
    clear hno
    by_cases hlt : k < 16
    · have hki : (k : Int) < 16 := by omega
      have hg := hexsB_get k (show k < hexsB.size from hlt)
      have hxw := hx_wo ⟨b, hb⟩ ⟨k, hlt⟩
      dsimp only at hxw
      by_cases he : (hx k).toNat = b
      · have hv : Hid (R = (k : Int)) := by unfold Hid; rw [HR.out, woI, hxw.1 he]
        have hgb : (hexsB[k]'hlt).toNat = b := by rw [hg, he]
        have hgi : (((hexsB[k]'hlt).toNat : Nat) : Int) = (b : Int) := by rw [hgb]
        go_wp2
        go_ret
        exact ⟨by rw [hv.out]; rfl, rfl⟩
      · have hgb : ¬ (hexsB[k]'hlt).toNat = b := by rw [hg]; exact he
        have hgi : ¬ (((hexsB[k]'hlt).toNat : Nat) : Int) = (b : Int) := by omega
        go_wp2
        refine ⟨⟨k + 1, by omega, by go_num, trivial, fun x hx => ?_⟩, by simp [intOf]; omega⟩
        rcases Nat.lt_or_ge x k with h | h
        · exact HN.out x h
        · rw [show x = k by omega]; exact fun e => he (hxw.2 e)
    · obtain rfl : k = 16 := by omega
      have hv : Hid (R = -1) := by
        unfold Hid
        rw [HR.out, woI]
        rcases h : wo b with _ | x
        · rfl
        · exact absurd h (HN.out x (wo_lt b x h))
      go_wp2
      go_ret
      exact ⟨by rw [hv.out]; rfl, rfl⟩
set_option maxRecDepth 100000 in
set_option maxHeartbeats 2000000 in
theorem refread_any (s : ByteArray) (hs : s.size ≤ 140737488355328) (w : World) (p : Nat) (ok : Bool) (hok : ok = true → Good s.data.toList) (hbad : ok = false → Bad s.data.toList p) :
    Calls Tryd.prog 25 #[.string s] w fun e w' => e = .returned (.tuple #[.agg (hbs (if ok then rdh s.data.toList else List.replicate 32 0)), .agg #[.int .i64 (if ok then 0 else 3), .int .i64 (if ok then 0 else (p : Int))]]) ∧ Nw w w' := by
  obtain ⟨L, hL⟩ : ∃ L, L = s.data.toList := ⟨_, rfl⟩
  have hlen : L.length = s.size := by rw [hL, Array.length_toList]; rfl
  have HC : Hid (∀ k (h : k < s.size), s[k]'h = L.getD k 0) := fun k h => by rw [hL]; exact C_get s k h
  rw [← hL] at hok hbad ⊢
  have HG : Hid (ok = true → Good L) := hok
  have HB : Hid (ok = false → Bad L p) := hbad
  have HLn : Hid (L.length = s.size) := hlen
  clear hL hok hbad hlen
  go_enter Tryd.func25, Tryd.ntmps25
  go_wp2
  rw [z32_h]
  obtain ⟨w1, hw1⟩ : ∃ w1, w1 = ((w.alloc (.cells z32 24)).alloc (.cells #[.int .i64 0, .int .i64 0] 36)).alloc (.cells z32 24) := ⟨_, rfl⟩
  have b1 : Nw w w1 := by rw [hw1]; exact (((Fr.refl _ _).alloc _).alloc _).alloc _
  have jr : w1.heap[w.heap.size]? = some (.cells z32 24) := by rw [hw1]; exact (Below.heap_alloc _ _ _ (by simp; omega)).trans ((Below.heap_alloc _ _ _ (by simp)).trans (heap_new w _))
  have jf : w1.heap[w.heap.size + 1]? = some (.cells #[.int .i64 0, .int .i64 0] 36) := by rw [hw1]; exact (Below.heap_alloc _ _ _ (by simp)).trans (heap_next w _ _)
  have jh : w1.heap[w.heap.size + 1 + 1]? = some (.cells (hpc L 0) 24) := by
    rw [hw1, hpc_0]
    have := heap_next (w.alloc (.cells z32 24)) (.cells #[.int .i64 0, .int .i64 0] 36) (.cells z32 24)
    rw [World.size_alloc] at this
    exact this
  rw [← hw1]
  clear hw1
  go_loopw [5] (fun i wr => ∃ pos : Nat, i = .int .i64 pos ∧ Nw w wr ∧ wr.heap[w.heap.size]? = some (.cells z32 24) ∧ wr.heap[w.heap.size + 1]? = some (.cells #[.int .i64 0, .int .i64 0] 36) ∧ wr.heap[w.heap.size + 1 + 1]? = some (.cells (hpc L pos) 24) ∧ pos ≤ s.size ∧ pos ≤ 64 ∧ (∀ i, i < pos → (wo (L.getD i 0).toNat).isSome = true)) (fun i _ => 64 - (intOf i).toNat)
  case atStart => exact ⟨0, rfl, b1, jr, jf, jh, by omega, by omega, fun i hi => by omega⟩
  case round =>
    clear b1 jr jf jh
    obtain ⟨pos, rfl, hnw, hr, hf, hh, hps, hp64, hpre⟩ := hrel
    have HP : Hid (∀ i, i < pos → i < 64 ∧ i < L.length ∧ (wo (L.getD i 0).toNat).isSome = true) := fun i hi => ⟨by omega, by rw [HLn.out]; omega, hpre i hi⟩
    clear hpre
    have hz32 : z32.size = 32 := by simp [z32]
    have hz1 : ∀ u ∈ z32.toList, u.oneCell' = true := by rw [z32_hbs]; exact hbs_one _
    have HW : Hid (((pos < 64 ∧ (L.length ≤ pos ∨ wo (L.getD pos 0).toNat = none)) ∨ (pos = 64 ∧ 64 < L.length)) → ok = false ∧ p = pos) := fun h2 => by
      cases hk : ok with
      | true => exact absurd (HG.out hk) (fun g => not_good L pos g h2)
      | false => exact ⟨rfl, bad_here L p pos (HB.out hk) HP.out h2⟩
    by_cases hlt : pos < 64
    · have hki : (pos : Int) < 64 := by omega
      by_cases hp2 : pos < s.size
      · have hpi : ¬ (pos : Int) ≥ (s.size : Int) := by omega
        have hbyte := HC.out pos hp2
        have hb256 : (L.getD pos 0).toNat < 256 := UInt8.toNat_lt _
        have hq := fun W => worth_any (L.getD pos 0).toNat hb256 W
        rcases hwo : wo (L.getD pos 0).toNat with _ | y
        · have hbadp := HW.out (.inl ⟨hlt, .inr hwo⟩)
          obtain ⟨rfl, rfl⟩ := hbadp
          have hwi : woI (L.getD p 0).toNat = -1 := by unfold woI; rw [hwo]
          rw [hwi] at hq
          clear hwi hwo
          generalize (L.getD p 0) = c at hbyte hq hb256
          go_wp2_with (go_at_call 39; refine (hq _).mono ?_; rintro e3 w3 ⟨rfl, rfl⟩)
          rw [z32_h]
          refine (placed_any 3 (p : Int) _).mono ?_
          rintro e4 w4 ⟨rfl, n4⟩
          have hr4 := (Nw.bel n4 |>.block _ (heap_lt hr)).trans hr
          have hf4 := (Nw.bel n4 |>.block _ (heap_lt hf)).trans hf
          have nw4 : Nw w w4 := Nw.tr hnw n4
          go_wp2_with first
            | (refine wp_store_agg rfl (.tmp 2) (.tmp 21) 24 32 rfl Tryd.sizeOf24 w.heap.size 0 rfl z32 24 hr4 z32 rfl hz32 hz1 (by decide) z32 (by rw [z32_drop]; simp) ?_; intro w5 j5 f5 z5; have hf5 := (f5.block _ (heap_lt hf4) (by omega)).trans hf4; have nw5 : Nw w w5 := nw4.trans f5 (fun k hk q => by omega))
            | (refine wp_store_agg rfl (.tmp 3) (.tmp 23) 36 2 rfl Tryd.sizeOf36 (w.heap.size + 1) 0 rfl #[.int .i64 0, .int .i64 0] 36 hf5 #[.int .i64 3, .int .i64 (p : Int)] rfl rfl (by simp [Value.oneCell']) (by decide) #[.int .i64 3, .int .i64 (p : Int)] rfl ?_; intro w6 j6 f6 z6)
          exact bodyPost_ret (results_cells Tryd.results25 Tryd.isAgg24 Tryd.sizeOf24 Tryd.isAgg36 Tryd.sizeOf36 rfl rfl ((f6.block _ (heap_lt j5) (by omega)).trans j5) hz32 j6 rfl) rfl ⟨by rw [z32_hbs]; rfl, nw5.trans f6 (fun k hk q => by omega)⟩
        · have hwi : woI (L.getD pos 0).toNat = (y : Int) := by unfold woI; rw [hwo]
          have hy16 : y < 16 := wo_lt _ _ hwo
          have hvk : vk L pos = y := by unfold vk; rw [hwo]; rfl
          have HSm : Hid ((wo (L.getD pos 0).toNat).isSome = true) := by unfold Hid; rw [hwo]; rfl
          rw [hwi] at hq
          have hy0 : ¬ (y : Int) < 0 := by omega
          obtain ⟨q, hqq⟩ : ∃ q, q = pos / 2 := ⟨_, rfl⟩
          have hq2 : (pos : Int) / 2 = (q : Int) := by omega
          have hq32 : (q : Int) < 32 := by omega
          have hcell := (cell_of hh q).trans (hpc_get L pos q (by omega))
          have hfz := frozen_of hh q
          have HSet : Hid (∀ x : Int, x = ((hp L pos q * 16 + y : Nat) : Int) → (hpc L pos).setIfInBounds q (.int .u8 x) = hpc L (pos + 1)) := fun x hx => by rw [hqq]; exact hpc_set L pos hlt x (by rw [hx, hqq, hvk])
          have hx16 : hp L pos q < 16 := by rw [hqq]; exact hp_half L pos
          generalize hp L pos q = x at hcell HSet hx16
          have m1 : IntKind.u8.wrap ((x : Int) * 16) = (x : Int) * 16 := by rw [IntKind.wrap_u8']; omega
          have m2 : IntKind.u8.wrap (y : Int) = (y : Int) := by rw [IntKind.wrap_u8']; omega
          have m3 : IntKind.u8.wrap ((x : Int) * 16 + (y : Int)) = (x : Int) * 16 + (y : Int) := by rw [IntKind.wrap_u8']; omega
          have m4 : (pos : Int).tdiv 2 = (q : Int) := by rw [Int.tdiv_eq_ediv_of_nonneg (by omega)]; exact hq2
          have m5 : IntKind.i64.wrap (q : Int) = (q : Int) := by rw [IntKind.wrap_i64]; omega
          have hk0 : (0 : Int) ≤ (pos : Int) := by omega
          have hpl : (pos : Int) < (s.size : Int) := by omega
          have HK : Hid (pos < 64) := hlt
          clear hwi hwo hvk hqq hlt
          generalize (L.getD pos 0) = c at hbyte hq hb256
          go_wp2_with (go_at_call 39; refine (hq _).mono ?_; rintro e3 w3 ⟨rfl, rfl⟩)
          go_region_with ((go_at_call 39; refine (hq _).mono ?_; rintro e4 w4 ⟨rfl, rfl⟩))
          all_goals go_wp2
          all_goals
            refine ⟨⟨pos + 1, by go_num, ((hnw.setCell _ _ (fun h => absurd h (by simp; omega))).drew), (heap_set_ne (by omega) _).trans hr, (heap_set_ne (by omega) _).trans hf, ?_, by omega, by have := HK.out; omega, fun i hi => ?_⟩, by have := HK.out; simp [intOf]; omega⟩
            · rw [← HSet.out _ rfl]
              exact heap_set hh _
            · rcases Nat.lt_or_ge i pos with h | h
              · exact (HP.out i h).2.2
              · rw [show i = pos by omega]; exact HSm.out
      · have hpi : (pos : Int) ≥ (s.size : Int) := by omega
        have hbadp := HW.out (.inl ⟨hlt, .inl (by rw [HLn.out]; omega)⟩)
        obtain ⟨rfl, rfl⟩ := hbadp
        go_wp2_with fail
        rw [z32_h]
        refine (placed_any 3 (p : Int) _).mono ?_
        rintro e4 w4 ⟨rfl, n4⟩
        have hr4 := (Nw.bel n4 |>.block _ (heap_lt hr)).trans hr
        have hf4 := (Nw.bel n4 |>.block _ (heap_lt hf)).trans hf
        have nw4 : Nw w w4 := Nw.tr hnw n4
        go_wp2_with first
          | (refine wp_store_agg rfl (.tmp 2) (.tmp 21) 24 32 rfl Tryd.sizeOf24 w.heap.size 0 rfl z32 24 hr4 z32 rfl hz32 hz1 (by decide) z32 (by rw [z32_drop]; simp) ?_; intro w5 j5 f5 z5; have hf5 := (f5.block _ (heap_lt hf4) (by omega)).trans hf4; have nw5 : Nw w w5 := nw4.trans f5 (fun k hk q => by omega))
          | (refine wp_store_agg rfl (.tmp 3) (.tmp 23) 36 2 rfl Tryd.sizeOf36 (w.heap.size + 1) 0 rfl #[.int .i64 0, .int .i64 0] 36 hf5 #[.int .i64 3, .int .i64 (p : Int)] rfl rfl (by simp [Value.oneCell']) (by decide) #[.int .i64 3, .int .i64 (p : Int)] rfl ?_; intro w6 j6 f6 z6)
        exact bodyPost_ret (results_cells Tryd.results25 Tryd.isAgg24 Tryd.sizeOf24 Tryd.isAgg36 Tryd.sizeOf36 rfl rfl ((f6.block _ (heap_lt j5) (by omega)).trans j5) hz32 j6 rfl) rfl ⟨by rw [z32_hbs]; rfl, nw5.trans f6 (fun k hk q => by omega)⟩
    · obtain rfl : pos = 64 := by omega
      by_cases hbig : 64 < s.size
      · have hbi : (s.size : Int) > 64 := by omega
        have hbadp := HW.out (.inr ⟨rfl, by rw [HLn.out]; exact hbig⟩)
        obtain ⟨rfl, rfl⟩ := hbadp
        go_wp2_with fail
        rw [z32_h]
        refine (placed_any 3 64 _).mono ?_
        rintro e4 w4 ⟨rfl, n4⟩
        have hr4 := (Nw.bel n4 |>.block _ (heap_lt hr)).trans hr
        have hf4 := (Nw.bel n4 |>.block _ (heap_lt hf)).trans hf
        have nw4 : Nw w w4 := Nw.tr hnw n4
        go_wp2_with first
          | (refine wp_store_agg rfl (.tmp 2) (.tmp 41) 24 32 rfl Tryd.sizeOf24 w.heap.size 0 rfl z32 24 hr4 z32 rfl hz32 hz1 (by decide) z32 (by rw [z32_drop]; simp) ?_; intro w5 j5 f5 z5; have hf5 := (f5.block _ (heap_lt hf4) (by omega)).trans hf4; have nw5 : Nw w w5 := nw4.trans f5 (fun k hk q => by omega))
          | (refine wp_store_agg rfl (.tmp 3) (.tmp 42) 36 2 rfl Tryd.sizeOf36 (w.heap.size + 1) 0 rfl #[.int .i64 0, .int .i64 0] 36 hf5 #[.int .i64 3, .int .i64 64] rfl rfl (by simp [Value.oneCell']) (by decide) #[.int .i64 3, .int .i64 64] rfl ?_; intro w6 j6 f6 z6)
        exact bodyPost_ret (results_cells Tryd.results25 Tryd.isAgg24 Tryd.sizeOf24 Tryd.isAgg36 Tryd.sizeOf36 rfl rfl ((f6.block _ (heap_lt j5) (by omega)).trans j5) hz32 j6 rfl) rfl ⟨by rw [z32_hbs]; rfl, nw5.trans f6 (fun k hk q => by omega)⟩
      · have hbi : ¬ (s.size : Int) > 64 := by omega
        have hokt : ok = true := by
          cases hk : ok with
          | true => rfl
          | false =>
            obtain ⟨c1, c2⟩ := HB.out hk
            exfalso
            rcases c2 with ⟨d1, d2 | d2⟩ | ⟨d1, d2⟩
            · rw [HLn.out] at d2; omega
            · have := (HP.out p (by omega)).2.2; rw [d2] at this; simp at this
            · rw [HLn.out] at d2; omega
        subst hokt
        rw [hpc_64] at hh
        have hRl : (hbs (rdh L)).size = 32 := by rw [hbs_size, rdh_len]
        go_wp2_with first
          | (refine wp_load_agg rfl (.tmp 4) 24 32 rfl Tryd.isAgg24 Tryd.sizeOf24 (w.heap.size + 1 + 1) 0 rfl (hbs (rdh L)) 24 (0, 0) hh (hbs (rdh L)) hRl (fun j _ => by rw [Nat.zero_add]) ?_)
          | (refine wp_store_agg rfl (.tmp 2) (.tmp 43) 24 32 rfl Tryd.sizeOf24 w.heap.size 0 rfl z32 24 hr (hbs (rdh L)) rfl hRl (hbs_one _) (by decide) (hbs (rdh L)) (by rw [z32_drop]; simp) ?_; intro w5 j5 f5 z5; have hf5 := (f5.block _ (heap_lt hf) (by omega)).trans hf; have nw5 : Nw w w5 := hnw.trans f5 (fun k hk q => by omega))
          | (refine wp_store_agg rfl (.tmp 3) (.tmp 44) 36 2 rfl Tryd.sizeOf36 (w.heap.size + 1) 0 rfl #[.int .i64 0, .int .i64 0] 36 hf5 #[.int .i64 0, .int .i64 0] rfl rfl (by simp [Value.oneCell']) (by decide) #[.int .i64 0, .int .i64 0] rfl ?_; intro w6 j6 f6 z6)
        exact bodyPost_ret (results_cells Tryd.results25 Tryd.isAgg24 Tryd.sizeOf24 Tryd.isAgg36 Tryd.sizeOf36 rfl rfl ((f6.block _ (heap_lt j5) (by omega)).trans j5) hRl j6 rfl) rfl ⟨rfl, nw5.trans f6 (fun k hk q => by omega)⟩
end Go.Proofs.YtambfmohhflimaaDoor
