/- What Read answers. -/
import Derived.Test.YtambfmohhflimabDoorS4
namespace Go.Proofs.YtambfmohhflimabDoor
open Go.RowKit
set_option linter.unusedVariables false
set_option linter.unusedSimpArgs false

theorem or_16 (x y : Nat) (hx : x < 16) (hy : y < 16) : bits .or .u8 ((x * 16 : Nat) : Int) ((y : Nat) : Int) = ((x * 16 + y : Nat) : Int) := by
  rw [u8_or_nat (x * 16) y (by omega) (by omega)]
  have : x * 16 ||| y = x * 16 + y := by
    have := Nat.two_pow_add_eq_or_of_lt (i := 4) (b := y) hy x
    rw [show 2 ^ 4 * x = x * 16 by omega] at this
    exact this.symm
  rw [this]
theorem hwrongAt_any {B : Nat} {w : World} {a : Nat → Addr} (hS : Sent B w a) (q : Int) :
    Calls Tryd.prog 20 #[.int .i64 q] w fun e w' => e = .returned (.iface 50 (.pointer (some ⟨w.heap.size, 0, none⟩))) ∧ Flt w' w.heap.size (a 2) q ∧ Nw w w' := by
  have hc := hS.c2
  go_enter Tryd.func20, Tryd.ntmps20
  go_wp2
  go_ret
  refine ⟨rfl, ⟨?_, ?_⟩, (Fr.refl _ _).alloc _⟩
  · rw [cell_of (heap_alloc_new w _)]; rfl
  · rw [cell_of (heap_alloc_new w _)]; rfl
theorem Flt.keep {w w' : World} {pb r : Nat} {x : Addr} {q : Int} (h : Flt w pb x q) (f : Fr (fun k => k = r) w w') (hne : pb ≠ r) : Flt w' pb x q :=
  ⟨(f.cell (World.block_lt_of_cell? w _ h.1) (fun e => hne e)).trans h.1, (f.cell (World.block_lt_of_cell? w _ h.2) (fun e => hne e)).trans h.2⟩
theorem hp_half (L : List UInt8) (k : Nat) : hp L k (k / 2) < 16 := by
  have h1 := vk_lt L (2 * (k / 2))
  unfold hp
  rw [if_neg (by omega)]
  split <;> omega
theorem bad_here (L : List UInt8) (p k : Nat) (h : Bad L p) (h1 : ∀ i, i < k → i < 64 ∧ i < L.length ∧ (wo (L.getD i 0).toNat).isSome = true) (h2 : (k < 64 ∧ (L.length ≤ k ∨ wo (L.getD k 0).toNat = none)) ∨ (k = 64 ∧ 64 < L.length)) : p = k := by
  obtain ⟨b1, b2⟩ := h
  rcases Nat.lt_trichotomy p k with hlt | he | hgt
  · have := h1 p hlt
    rcases b2 with ⟨c1, c2 | c2⟩ | ⟨c1, c2⟩
    · omega
    · rw [c2] at this; simp at this
    · omega
  · exact he
  · have := b1 k hgt
    rcases h2 with ⟨c1, c2 | c2⟩ | ⟨c1, c2⟩
    · omega
    · rw [c2] at this; simp at this
    · omega
theorem not_good (L : List UInt8) (k : Nat) (h : Good L) (h2 : (k < 64 ∧ (L.length ≤ k ∨ wo (L.getD k 0).toNat = none)) ∨ (k = 64 ∧ 64 < L.length)) : False := by
  obtain ⟨g1, g2⟩ := h
  rcases h2 with ⟨c1, c2 | c2⟩ | ⟨c1, c2⟩
  · omega
  · have := g2 k c1; rw [c2] at this; simp at this
  · omega
set_option maxRecDepth 100000 in
set_option maxHeartbeats 2000000 in
theorem read_any (s : ByteArray) (hs : s.size ≤ 140737488355328) (w : World) {Bd : Nat} {a : Nat → Addr} (hS : Sent Bd w a) (p : Nat) (ok : Bool) (hok : ok = true → Good s.data.toList) (hbad : ok = false → Bad s.data.toList p) :
    Calls Tryd.prog 9 #[.string s] w fun e w' => ∃ v, e = .returned (.tuple #[.agg (hbs (if ok then rdh s.data.toList else List.replicate 32 0)), v]) ∧ EV w' a v (if ok then 0 else 3) (if ok then none else some (p : Int)) ∧ Nw w w' := by
  obtain ⟨L, hL⟩ : ∃ L, L = s.data.toList := ⟨_, rfl⟩
  have hlen : L.length = s.size := by rw [hL, Array.length_toList]; rfl
  have HC : Hid (∀ k (h : k < s.size), s[k]'h = L.getD k 0) := fun k h => by rw [hL]; exact C_get s k h
  rw [← hL] at hok hbad ⊢
  have HS : Hid (Sent Bd w a) := hS
  have HG : Hid (ok = true → Good L) := hok
  have HB : Hid (ok = false → Bad L p) := hbad
  have HLn : Hid (L.length = s.size) := hlen
  clear hL hok hbad hS hlen
  go_enter Tryd.func9, Tryd.ntmps9
  go_wp2
  rw [z32_h]
  obtain ⟨w1, hw1⟩ : ∃ w1, w1 = ((w.alloc (.cells z32 23)).alloc (.cells z32 23)).alloc (.stringIter s 0) := ⟨_, rfl⟩
  have b1 : Below w.heap.size w w1 := by rw [hw1]; exact (((Fr.refl _ _).alloc _).alloc _).alloc _ |> Nw.bel
  have jr : w1.heap[w.heap.size]? = some (.cells z32 23) := by rw [hw1]; exact (Below.heap_alloc _ _ _ (by simp; omega)).trans ((Below.heap_alloc _ _ _ (by simp)).trans (heap_new w _))
  have jh : w1.heap[w.heap.size + 1]? = some (.cells (hpc L 0) 23) := by rw [hw1, hpc_0]; exact (Below.heap_alloc _ _ _ (by simp)).trans (heap_next w _ _)
  have ji : w1.heap[w.heap.size + 1 + 1]? = some (.stringIter s 0) := by
    rw [hw1]
    have := heap_next (w.alloc (.cells z32 23)) (.cells z32 23) (.stringIter s 0)
    rw [World.size_alloc] at this
    exact this
  have hw1' : ((w.alloc (.cells z32 23)).alloc (.cells z32 23)).iter s 0 = w1 := by rw [hw1]; rfl
  rw [hw1']
  clear hw1 hw1'
  go_loopw [] (fun wr => ∃ pos : Nat, wr.heap[w.heap.size + 1 + 1]? = some (.stringIter s pos) ∧ Below w.heap.size w wr ∧ wr.heap[w.heap.size]? = some (.cells z32 23) ∧ wr.heap[w.heap.size + 1]? = some (.cells (hpc L pos) 23) ∧ pos ≤ s.size ∧ pos ≤ 64 ∧ (∀ i, i < pos → (wo (L.getD i 0).toNat).isSome = true)) (fun wr => s.size - wr.iterPos (w.heap.size + 1 + 1))
  case atStart => exact ⟨0, ji, b1, jr, jh, by omega, by omega, fun i hi => by omega⟩
  case round =>
    clear ji b1 jr jh
    obtain ⟨pos, hit, hb, hr, hh, hps, hp64, hpre⟩ := hrel
    have HP : Hid (∀ i, i < pos → i < 64 ∧ i < L.length ∧ (wo (L.getD i 0).toNat).isSome = true) := fun i hi => ⟨by omega, by rw [HLn.out]; omega, hpre i hi⟩
    clear hpre
    have hz32 : z32.size = 32 := by simp [z32]
    have hz1 : ∀ u ∈ z32.toList, u.oneCell' = true := by rw [z32_hbs]; exact hbs_one _
    -- the way out at a wrong place
    have HW : Hid (((pos < 64 ∧ (L.length ≤ pos ∨ wo (L.getD pos 0).toNat = none)) ∨ (pos = 64 ∧ 64 < L.length)) → ok = false ∧ p = pos) := fun h2 => by
      cases hk : ok with
      | true => exact absurd (HG.out hk) (fun g => not_good L pos g h2)
      | false => exact ⟨rfl, bad_here L p pos (HB.out hk) HP.out h2⟩
    by_cases hp2 : pos < s.size
    · have hnx : ∀ ty, (Instr.next (.pointer (some ⟨w.heap.size + 1 + 1, 0, none⟩)) true ty).run Tryd.prog wr = _ := fun ty => Lib.run_next_any_at wr (w.heap.size + 1 + 1) s pos ty hit hp2
      have hbyte := HC.out pos hp2
      have hdl := decode_le s pos
      have hwr : wo (Utf8.decode s pos).1 = wo (L.getD pos 0).toNat := by
        by_cases h128 : (L.getD pos 0).toNat < 128
        · rw [decode_ascii s pos hp2 (by rw [hbyte]; exact h128), hbyte]
        · rw [wo_hi (L.getD pos 0).toNat (by omega), wo_hi _ (decode_high s pos hp2 (by rw [hbyte]; omega)).1]
      have hwd : (wo (L.getD pos 0).toNat).isSome = true → (Utf8.decode s pos).2 = 1 := fun h => by
        by_cases h128 : (L.getD pos 0).toNat < 128
        · rw [decode_ascii s pos hp2 (by rw [hbyte]; exact h128)]
        · rw [wo_hi _ (by omega)] at h; simp at h
      rcases hd : Utf8.decode s pos with ⟨r, wd⟩
      rw [hd] at hnx hdl hwr hwd
      dsimp only at hnx hdl hwr hwd
      clear hd hbyte
      have hit2 := Lib.iterAt_heap wr (w.heap.size + 1 + 1) s pos (pos + wd) hit
      have hb2 := Lib.below_iterAt hb (k := w.heap.size + 1 + 1) (by omega) s (pos + wd)
      have hr2 := (Lib.iterAt_other wr (w.heap.size + 1 + 1) w.heap.size s (pos + wd) (by omega)).trans hr
      have hh2 := (Lib.iterAt_other wr (w.heap.size + 1 + 1) (w.heap.size + 1) s (pos + wd) (by omega)).trans hh
      have hqh := half_any r hdl (wr.iterAt (w.heap.size + 1 + 1) s (pos + wd))
      rw [hwr] at hqh
      have hvk : (wo (L.getD pos 0).toNat).getD 0 = vk L pos := rfl
      rw [hvk] at hqh
      clear hwr hdl hvk
      generalize hw2 : wr.iterAt (w.heap.size + 1 + 1) s (pos + wd) = w2 at hnx hit2 hb2 hr2 hh2 hqh
      clear hw2
      by_cases hgood : pos < 64 ∧ (wo (L.getD pos 0).toNat).isSome = true
      · obtain ⟨h64, hsome⟩ := hgood
        have hwd1 := hwd hsome
        rw [hsome] at hqh
        have HSm : Hid ((wo (L.getD pos 0).toNat).isSome = true) := hsome
        subst hwd1
        have hne64 : ¬ (pos : Int) = 64 := by omega
        obtain ⟨q, hq⟩ : ∃ q, q = pos / 2 := ⟨_, rfl⟩
        have hq2 : (pos : Int) / 2 = (q : Int) := by omega
        have hq32 : (q : Int) < 32 := by omega
        have hcell := (cell_of hh2 q).trans (hpc_get L pos q (by omega))
        have hfz := frozen_of hh2 q
        have HSet : Hid (∀ x : Int, x = ((hp L pos q * 16 + vk L pos : Nat) : Int) → (hpc L pos).setIfInBounds q (.int .u8 x) = hpc L (pos + 1)) := fun x hx => by rw [hq]; exact hpc_set L pos h64 x (by rw [hx, hq])
        have hx16 : hp L pos q < 16 := by rw [hq]; exact hp_half L pos
        have hy16 := vk_lt L pos
        generalize hp L pos q = x at hcell HSet hx16
        generalize vk L pos = y at hqh HSet hy16
        have hor : bits .or .u8 ((x : Int) * 16) ((y : Nat) : Int) = ((x * 16 + y : Nat) : Int) := by rw [← or_16 x y hx16 hy16, Int.natCast_mul]; rfl
        have hki : (pos : Int) < 64 := by omega
        have hk0 : (0 : Int) ≤ (pos : Int) := by omega
        have HK : Hid (pos < 64) := h64
        clear hwd hsome hq h64
        go_wp2_with (go_at_call 19; refine hqh.mono ?_; rintro e3 w3 ⟨rfl, rfl⟩)
        refine ⟨⟨pos + 1, (heap_set_ne (by omega) _).trans hit2, hb2.trans ⟨rfl, rfl, rfl, by simp [World.setCell], fun k hk => Below.heap_setCell _ _ _ _ (by show k ≠ w.heap.size + 1; omega)⟩, (heap_set_ne (by omega) _).trans hr2, ?_, by omega, by omega, fun i hi => ?_⟩, ?_⟩
        · rw [← HSet.out _ rfl]
          exact heap_set hh2 _
        · rcases Nat.lt_or_ge i pos with h | h
          · exact (HP.out i h).2.2
          · rw [show i = pos by omega]; exact HSm.out
        · have e1 := fun u => (heap_set_ne (w := w3) (b := w.heap.size + 1) (k := w.heap.size + 1 + 1) (o := q) (by omega) u).trans hit2
          simp only [World.iterPos, e1, hit]
          omega
      · have hbadp : ok = false ∧ p = pos := HW.out (by
          by_cases h : pos < 64
          · refine .inl ⟨h, .inr ?_⟩
            rcases ho : wo (L.getD pos 0).toNat with _ | x
            · rfl
            · exact absurd ⟨h, by rw [ho]; rfl⟩ hgood
          · exact .inr ⟨by omega, by rw [HLn.out]; omega⟩)
        obtain ⟨rfl, rfl⟩ := hbadp
        by_cases h64 : p < 64
        · have hne64 : ¬ (p : Int) = 64 := by omega
          have hnone : (wo (L.getD p 0).toNat).isSome = false := by
            cases h : (wo (L.getD p 0).toNat).isSome with
            | false => rfl
            | true => exact absurd ⟨h64, h⟩ hgood
          rw [hnone] at hqh
          clear hwd hgood hnone
          go_wp2_with (go_at_call 19; refine hqh.mono ?_; rintro e3 w3 ⟨rfl, rfl⟩)
          rw [z32_h]
          refine (hwrongAt_any (HS.out.fr (Fr.ofBelow hb2 : Nw w w3) (fun _ _ f => f)) (p : Int)).mono ?_
          rintro e4 w4 ⟨rfl, hF, n4⟩
          have hr4 := (n4.block _ (heap_lt hr2) (fun f => f)).trans hr2
          have hsz4 : w.heap.size < w3.heap.size := heap_lt hr2
          go_wp2_with (refine wp_store_agg rfl (.tmp 2) (.tmp 26) 23 32 rfl Tryd.sizeOf23 w.heap.size 0 rfl z32 23 hr4 z32 rfl hz32 hz1 (by decide) z32 (by rw [z32_drop]; simp) ?_; intro w5 j5 f5 z5)
          exact bodyPost_ret (results_cell_slot Tryd.results9 Tryd.isAgg23 Tryd.sizeOf23 rfl _ rfl j5 hz32) rfl ⟨_, by rw [z32_hbs]; rfl, .inr (.inr ⟨2, w3.heap.size, _, by decide, rfl, hF.keep f5 (by omega), rfl, rfl⟩), (Nw.tr (Fr.ofBelow hb2) n4).trans f5 (fun k hk q => by omega)⟩
        · obtain rfl : p = 64 := by omega
          clear hwd hgood h64
          generalize (wo (L.getD 64 0).toNat).isSome = bb at hqh
          generalize vk L 64 = yy at hqh
          go_wp2_with (go_at_call 19; refine hqh.mono ?_; rintro e3 w3 ⟨rfl, rfl⟩)
          rw [z32_h]
          refine (hwrongAt_any (HS.out.fr (Fr.ofBelow hb2 : Nw w w3) (fun _ _ f => f)) 64).mono ?_
          rintro e4 w4 ⟨rfl, hF, n4⟩
          have hr4 := (n4.block _ (heap_lt hr2) (fun f => f)).trans hr2
          have hsz4 : w.heap.size < w3.heap.size := heap_lt hr2
          go_wp2_with (refine wp_store_agg rfl (.tmp 2) (.tmp 26) 23 32 rfl Tryd.sizeOf23 w.heap.size 0 rfl z32 23 hr4 z32 rfl hz32 hz1 (by decide) z32 (by rw [z32_drop]; simp) ?_; intro w5 j5 f5 z5)
          exact bodyPost_ret (results_cell_slot Tryd.results9 Tryd.isAgg23 Tryd.sizeOf23 rfl _ rfl j5 hz32) rfl ⟨_, by rw [z32_hbs]; rfl, .inr (.inr ⟨2, w3.heap.size, _, by decide, rfl, hF.keep f5 (by omega), rfl, rfl⟩), (Nw.tr (Fr.ofBelow hb2) n4).trans f5 (fun k hk q => by omega)⟩
    · have hnx : ∀ ty, (Instr.next (.pointer (some ⟨w.heap.size + 1 + 1, 0, none⟩)) true ty).run Tryd.prog wr = _ := fun ty => Lib.run_next_end_at wr (w.heap.size + 1 + 1) s pos ty hit hp2
      have hpe : pos = s.size := by omega
      by_cases h64 : s.size < 64
      · have hbadp : ok = false ∧ p = pos := HW.out (.inl ⟨by omega, .inl (by rw [HLn.out]; omega)⟩)
        obtain ⟨rfl, hpp⟩ := hbadp
        obtain rfl : p = s.size := by omega
        have hl64 : (s.size : Int) < 64 := by omega
        clear hpe hpp
        go_wp2_with fail
        rw [z32_h]
        refine (hwrongAt_any (HS.out.fr (Fr.ofBelow hb : Nw w wr) (fun _ _ f => f)) (s.size : Int)).mono ?_
        rintro e4 w4 ⟨rfl, hF, n4⟩
        have hr4 := (n4.block _ (heap_lt hr) (fun f => f)).trans hr
        have hsz4 : w.heap.size < wr.heap.size := heap_lt hr
        go_wp2_with (refine wp_store_agg rfl (.tmp 2) (.tmp 42) 23 32 rfl Tryd.sizeOf23 w.heap.size 0 rfl z32 23 hr4 z32 rfl hz32 hz1 (by decide) z32 (by rw [z32_drop]; simp) ?_; intro w5 j5 f5 z5)
        exact bodyPost_ret (results_cell_slot Tryd.results9 Tryd.isAgg23 Tryd.sizeOf23 rfl _ rfl j5 hz32) rfl ⟨_, by rw [z32_hbs]; rfl, .inr (.inr ⟨2, wr.heap.size, _, by decide, rfl, hF.keep f5 (by omega), rfl, rfl⟩), (Nw.tr (Fr.ofBelow hb) n4).trans f5 (fun k hk q => by omega)⟩
      · have hl64 : ¬ (s.size : Int) < 64 := by omega
        have hokt : ok = true := by
          cases hk : ok with
          | true => rfl
          | false =>
            obtain ⟨c1, c2⟩ := HB.out hk
            exfalso
            rcases c2 with ⟨d1, d2 | d2⟩ | ⟨d1, d2⟩
            · rw [HLn.out] at d2; omega
            · have := (HP.out p (by omega)).2.2; rw [d2] at this; simp at this
            · rw [HLn.out] at d2; omega
        subst hokt
        obtain rfl : pos = 64 := by omega
        rw [hpc_64] at hh
        have hRl : (hbs (rdh L)).size = 32 := by rw [hbs_size, rdh_len]
        clear hpe
        go_wp2_with first
          | (refine wp_load_agg rfl (.tmp 4) 23 32 rfl Tryd.isAgg23 Tryd.sizeOf23 (w.heap.size + 1) 0 rfl (hbs (rdh L)) 23 (0, 0) hh (hbs (rdh L)) hRl (fun j _ => by rw [Nat.zero_add]) ?_)
          | (refine wp_store_agg rfl (.tmp 2) (.tmp 46) 23 32 rfl Tryd.sizeOf23 w.heap.size 0 rfl z32 23 hr (hbs (rdh L)) rfl hRl (hbs_one _) (by decide) (hbs (rdh L)) (by rw [z32_drop]; simp) ?_; intro w5 j5 f5 z5)
        exact bodyPost_ret (results_cell_slot Tryd.results9 Tryd.isAgg23 Tryd.sizeOf23 rfl .nilIface rfl j5 hRl) rfl ⟨.nilIface, rfl, .inl ⟨rfl, rfl, rfl⟩, (Fr.ofBelow hb).trans f5 (fun k hk q => by omega)⟩
end Go.Proofs.YtambfmohhflimabDoor
