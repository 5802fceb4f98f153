/- The document's Tree and Root. -/
import Derived.Test.YtdhlmpjoggnkkaaGreatDoorD5
namespace Go.Proofs.YtdhlmpjoggnkkaaGreatDoor
open Go.RowKit
set_option linter.unusedVariables false
set_option linter.unusedSimpArgs false

/-- What the document's Tree answers. -/
def dtreeA (L : List ByteArray) (x y : Nat) : Value := .tuple #[.agg (hbs (if x ≤ y ∧ y ≤ L.length then mth (sbl L x y) else zh)), if x ≤ y ∧ y ≤ L.length then flt 0 0 else flt 5 (-1)]
set_option maxRecDepth 100000 in
set_option maxHeartbeats 2000000 in
theorem dtree_any {w : World} {b base : Nat} {v : Value} {L : List ByteArray} (h : Dg w b base v L) (x y : Nat) (hx : x < 18446744073709551616) (hy : y < 18446744073709551616) :
    Calls Tryz.prog 27 #[.pointer (some ⟨b, 0, none⟩), sp x y] w fun e w' => e = .returned (dtreeA L x y) ∧ Nw w w' := by
  have hle := h.len
  have Q := show Hid (∀ W, Nw w W → Calls Tryz.prog 9 #[.pointer (some ⟨b, 0, none⟩)] W fun e w' => e = .returned (.int .u64 (L.length : Int)) ∧ Nw W w') from fun W hW => (dsize_any (h.nw hW)).mono fun e w' h => ⟨h.1, by rw [h.2]; exact nwr W⟩
  by_cases hc : x ≤ y ∧ y ≤ L.length
  · rw [dtreeA, if_pos hc, if_pos hc]
    obtain ⟨hxy, hyl⟩ := hc
    obtain ⟨p, c, hv, hp, hlc⟩ := h.form
    subst hv
    have hcut := cut_lh p L.length c x y .u64 .u64 hxy (by omega)
    have hsp := hp.cut x y c hlc
    have QT : Hid (∀ W, Nw w W → Calls Tryz.prog 17 #[.slice (if c = x then p else p.map (·.add (x * 1))) (y - x) (c - x)] W fun e w' => e = .returned (.agg (hbs (mth (sbl L x y)))) ∧ Nw W w') := fun W hW => mth_at L h.len h.sz hyl (by omega) hsp W hW
    obtain ⟨pp, hpp⟩ : ∃ pp, pp = (if c = x then p else p.map (·.add (x * 1))) := ⟨_, rfl⟩
    rw [← hpp] at QT hcut
    have hRl : (hbs (mth (sbl L x y))).size = 32 := by rw [hbs_size, mth_len]
    obtain ⟨R, hR⟩ : ∃ R, R = mth (sbl L x y) := ⟨_, rfl⟩
    rw [← hR] at QT hRl ⊢
    have hblk := h.blk
    have g1 : decide ((y : Int) < (x : Int)) = false := by simp; omega
    have g2 : decide ((L.length : Int) < (y : Int)) = false := by simp; omega
    have g1n : decide (y < x) = false := by simp; omega
    have g2n : decide (L.length < y) = false := by simp; omega
    have HXY : Hid (x ≤ y ∧ y ≤ L.length) := ⟨hxy, hyl⟩
    clear h hp hsp hpp hR hxy hyl
    go_enter Tryz.func27, Tryz.ntmps27
    go_wp2_with fail
    rw [z32_h]
    refine gen_world (fun W => W.heap[w.heap.size]? = some (.cells #[.int .u64 (x : Int), .int .u64 (y : Int)] 91) ∧ W.heap[w.heap.size + 1]? = some (.cells z32 56) ∧ W.heap[w.heap.size + 1 + 1]? = some (.cells #[.int .i64 0, .int .i64 0] 61) ∧ Nw w W) ⟨?_, ?_, ?_, ?_⟩ ?_
    · (repeat first | with_reducible exact heap_new _ _ | with_reducible exact heap_new _ _ | with_reducible exact heap_next _ _ _ | with_reducible exact heap_third _ _ _ _ | with_reducible refine hp_dr ?_ | (with_reducible refine hp_ne ?_ ?_; focus omega) | (with_reducible refine hp_al ?_ ?_; focus (first | omega | (simp <;> omega))) | with_reducible apply hp_set) <;> rfl
    · (repeat first | with_reducible exact heap_next _ _ _ | with_reducible exact heap_new _ _ | with_reducible exact heap_next _ _ _ | with_reducible exact heap_third _ _ _ _ | with_reducible refine hp_dr ?_ | (with_reducible refine hp_ne ?_ ?_; focus omega) | (with_reducible refine hp_al ?_ ?_; focus (first | omega | (simp <;> omega))) | with_reducible apply hp_set) <;> rfl
    · (repeat first | with_reducible exact heap_third _ _ _ _ | with_reducible exact heap_new _ _ | with_reducible exact heap_next _ _ _ | with_reducible exact heap_third _ _ _ _ | with_reducible refine hp_dr ?_ | (with_reducible refine hp_ne ?_ ?_; focus omega) | (with_reducible refine hp_al ?_ ?_; focus (first | omega | (simp <;> omega))) | with_reducible apply hp_set) <;> rfl
    · exact (by repeat first | with_reducible exact nwr w | with_reducible refine Fr.alloc ?_ _ | with_reducible refine Fr.drew ?_ | (with_reducible refine Fr.setCell ?_ _ _ (fun h => ?_); rotate_left; focus (simp only at h; omega)))
    rintro w1 ⟨b0, b1, b2, n1⟩
    have hblk1 := (n1.block _ (heap_lt hblk) (fun f => f)).trans hblk
    have lb := heap_lt hblk
    obtain ⟨bs, hbs0⟩ : ∃ bs, bs = w.heap.size := ⟨_, rfl⟩
    obtain ⟨bd, hbd0⟩ : ∃ bd, bd = w.heap.size + 1 + 1 := ⟨_, rfl⟩
    obtain ⟨bz, hbz0⟩ : ∃ bz, bz = w.heap.size + 1 := ⟨_, rfl⟩
    have HD : Hid (bs ≠ bz ∧ bs ≠ bd ∧ b ≠ bz ∧ b ≠ bd ∧ bz ≠ bd ∧ w.heap.size ≤ bz ∧ w.heap.size ≤ bd) := ⟨by omega, by omega, by omega, by omega, by omega, by omega, by omega⟩
    rw [← hbd0] at b2 ⊢
    rw [← hbz0] at b1 ⊢
    rw [← hbs0] at b0 ⊢
    have NW1 : Hid (Nw w w1) := n1
    have k0 : ∀ z : Grw w1, z.val.cell? ⟨bs, 0, none⟩ = some (.int .u64 (x : Int)) := fun z => z.cell (cell2a b0)
    have k1 : ∀ z : Grw w1, z.val.cell? ⟨bs, 1, none⟩ = some (.int .u64 (y : Int)) := fun z => z.cell (cell2b b0)
    have B0 : Hid (w1.heap[bs]? = some (.cells #[.int .u64 (x : Int), .int .u64 (y : Int)] 91)) := b0
    have B1 : Hid (w1.heap[bz]? = some (.cells z32 56)) := b1
    have B2 : Hid (w1.heap[bd]? = some (.cells #[.int .i64 0, .int .i64 0] 61)) := b2
    have BL : Hid (w1.heap[b]? = some (.cells #[.slice p L.length c] 31)) := hblk1
    clear hbs0 hbd0 hbz0 n1 hblk b0 b1 b2 hblk1 lb
    (refine wp_region_grown (by kernel_rfl) (by kernel_rfl) ?_; (repeat (first | go_big_quiet_skip | (go_big_quiet_want; first | (go_big_quiet_op; first | go_big_quiet_on | go_big_quiet_call (first | rfl | with_reducible exact grw_call Q.out NW1.out _))))); refine wpQuiet_nil ?_; rintro W ⟨⟨_, nW⟩, rfl⟩)
    clear k0 k1
    have NWW : Hid (Nw w1 W) := nW
    clear nW
    go_wp2_with fail
    have hkp : Hid (∀ V, Fr (fun k => k = bz ∨ k = bd) w1 V → V.heap[b]? = some (.cells #[.slice p L.length c] 31) ∧ V.heap[bs]? = some (.cells #[.int .u64 (x : Int), .int .u64 (y : Int)] 91)) := fun V hV => ⟨(hV.block _ (heap_lt BL.out) (fun q => by have := HD.out; omega)).trans BL.out, (hV.block _ (heap_lt B0.out) (fun q => by have := HD.out; omega)).trans B0.out⟩
    have nb : Nw w1 W.drew := Nw.tr NWW.out (Fr.refl _ _).drew
    refine wp_region_held_drew (S := fun W => W.heap[b]? = some (.cells #[.slice p L.length c] 31) ∧ W.heap[bs]? = some (.cells #[.int .u64 (x : Int), .int .u64 (y : Int)] 91)) (by kernel_rfl) (hkp.out _ (nb.mono (fun _ _ f => f.elim))) ?_
    intro hS0
    refine wpAnyH_take (i := 0) (v := .pointer (some ⟨b, 0, none⟩)) rfl (by kernel_rfl) (by kernel_rfl) (by kernel_rfl) (fun _ _ _ h => h) (Or.inl ⟨by rfl, by intro w hw; go_simp⟩) hS0 ?_
    try simp only [Act.put, List.setIfInBounds_toArray, List.set_cons_zero, List.set_cons_succ]
    refine wpAnyH_take (i := 1) (v := .pointer (some ⟨b, 0, none⟩)) rfl (by kernel_rfl) (by kernel_rfl) (by kernel_rfl) (fun _ _ _ h => h) (Or.inl ⟨by rfl, by intro w hw; go_simp⟩) hS0 ?_
    try simp only [Act.put, List.setIfInBounds_toArray, List.set_cons_zero, List.set_cons_succ]
    refine wpAnyH_take (i := 2) (v := .pointer (some ⟨b, 0, none⟩)) rfl (by kernel_rfl) (by kernel_rfl) (by kernel_rfl) (fun _ _ _ h => h) (Or.inl ⟨by rfl, by intro w hw; go_simp⟩) hS0 ?_
    try simp only [Act.put, List.setIfInBounds_toArray, List.set_cons_zero, List.set_cons_succ]
    refine wpAnyH_take (i := 3) (v := .slice p L.length c) rfl (by kernel_rfl) (by kernel_rfl) (by kernel_rfl) (fun _ _ _ h => h) (Or.inl ⟨by rfl, by intro w hw; have hc := (cell_of hw.1 0).trans rfl; go_simp⟩) hS0 ?_
    try simp only [Act.put, List.setIfInBounds_toArray, List.set_cons_zero, List.set_cons_succ]
    refine wpAnyH_take (i := 4) (v := .pointer (some ⟨bs, 0, none⟩)) rfl (by kernel_rfl) (by kernel_rfl) (by kernel_rfl) (fun _ _ _ h => h) (Or.inl ⟨by rfl, by intro w hw; go_simp⟩) hS0 ?_
    try simp only [Act.put, List.setIfInBounds_toArray, List.set_cons_zero, List.set_cons_succ]
    refine wpAnyH_take (i := 5) (v := .int .u64 (x : Int)) rfl (by kernel_rfl) (by kernel_rfl) (by kernel_rfl) (fun _ _ _ h => h) (Or.inl ⟨by rfl, by intro w hw; have hc := cell2a hw.2; go_simp⟩) hS0 ?_
    try simp only [Act.put, List.setIfInBounds_toArray, List.set_cons_zero, List.set_cons_succ]
    refine wpAnyH_take (i := 6) (v := .pointer (some ⟨bs, 1, none⟩)) rfl (by kernel_rfl) (by kernel_rfl) (by kernel_rfl) (fun _ _ _ h => h) (Or.inl ⟨by rfl, by intro w hw; go_simp⟩) hS0 ?_
    try simp only [Act.put, List.setIfInBounds_toArray, List.set_cons_zero, List.set_cons_succ]
    refine wpAnyH_take (i := 7) (v := .int .u64 (y : Int)) rfl (by kernel_rfl) (by kernel_rfl) (by kernel_rfl) (fun _ _ _ h => h) (Or.inl ⟨by rfl, by intro w hw; have hc := cell2b hw.2; go_simp⟩) hS0 ?_
    try simp only [Act.put, List.setIfInBounds_toArray, List.set_cons_zero, List.set_cons_succ]
    refine wpAnyH_take (i := 8) (v := .slice pp (y - x) (c - x)) rfl (by kernel_rfl) (by kernel_rfl) (by kernel_rfl) (fun _ _ _ h => h) (Or.inl ⟨by rfl, by intro w hw; have := hcut w; go_simp⟩) hS0 ?_
    try simp only [Act.put, List.setIfInBounds_toArray, List.set_cons_zero, List.set_cons_succ]
    refine wpAnyH_take (i := 10) (v := flt 0 0) rfl (by kernel_rfl) (by kernel_rfl) (by kernel_rfl) (fun _ _ _ h => h) (Or.inl ⟨by rfl, by intro w hw; go_simp⟩) hS0 ?_
    try simp only [Act.put, List.setIfInBounds_toArray, List.set_cons_zero, List.set_cons_succ]
    refine wpAnyH_ready (rs := [9]) (by kernel_rfl) (by simp) ?_
    refine AllReadyH.cons rfl (fun K' hK => ?_) AllReadyH.nil
    go_simp
    go_wp2_with (go_at_call 17; refine (QT.out _ (NW1.out.tr nb)).mono ?_; rintro e2 w2 ⟨rfl, n2⟩)
    have m2 : Nw w1 w2 := Nw.tr nb n2
    refine hK.out _ _ (hkp.out _ (m2.mono (fun _ _ f => f.elim))) (fun hS0 => ?_)
    try simp only [Act.put, List.setIfInBounds_toArray, List.set_cons_zero, List.set_cons_succ]
    have jz := (m2.block _ (heap_lt B1.out) (fun f => f)).trans B1.out
    have jf := (m2.block _ (heap_lt B2.out) (fun f => f)).trans B2.out
    refine wpAnyH_ready (rs := [11]) (by kernel_rfl) (by simp) ?_
    refine AllReadyH.cons rfl (fun K' hK => ?_) AllReadyH.nil
    refine step_store_agg rfl (.tmp 4) (.tmp 29) 56 32 rfl Tryz.sizeOf56 bz 0 rfl z32 56 jz (hbs R) rfl hRl (hbs_one _) (by decide) (hbs R) (by rw [z32_drop]; simp) ?_
    intro w5 j5 f5 z5
    have f5b : Fr (fun k => k = bz ∨ k = bd) w1 w5 := (m2.mono (fun _ _ f => f.elim)).trans f5 (fun _ _ q => .inl q)
    have jf5 := (f5.block _ (heap_lt jf) (fun q => HD.out.2.2.2.2.1 q.symm)).trans jf
    have d0 := cell2a jf5
    have d1 := cell2b jf5
    have y0 := frozen_of jf5 0
    have y1 := frozen_of jf5 1
    refine hK.out _ _ (hkp.out _ f5b) (fun hS0 => ?_)
    try simp only [Act.put, List.setIfInBounds_toArray, List.set_cons_zero, List.set_cons_succ]
    refine wpAnyH_ready (rs := [12]) (by kernel_rfl) (by simp) ?_
    refine AllReadyH.cons rfl (fun K' hK => ?_) AllReadyH.nil
    refine step_store_agg rfl (.tmp 5) (.tmp 30) 61 2 rfl Tryz.sizeOf61 bd 0 rfl _ 61 jf5 #[.int .i64 0, .int .i64 0] rfl rfl (by simp [Value.oneCell']) (by decide) #[.int .i64 0, .int .i64 0] rfl ?_
    intro w6 j6 f6 z6
    have f6b : Fr (fun k => k = bz ∨ k = bd) w1 w6 := f5b.trans f6 (fun _ _ q => .inr q)
    have j56 := (f6.block _ (heap_lt j5) (fun q => HD.out.2.2.2.2.1 q)).trans j5
    refine hK.out _ _ (hkp.out _ f6b) (fun hS0 => ?_)
    try simp only [Act.put, List.setIfInBounds_toArray, List.set_cons_zero, List.set_cons_succ]
    refine wpAnyH_done (by kernel_rfl) ?_ _
    go_wp2_with fail
    refine bodyPost_ret (results_cells Tryz.results27 Tryz.isAgg56 Tryz.sizeOf56 Tryz.isAgg61 Tryz.sizeOf61 rfl rfl j56 hRl j6 rfl) rfl ⟨rfl, NW1.out.trans f6b (fun k hk q => by have := HD.out; omega)⟩
  · rw [dtreeA, if_neg hc, if_neg hc]
    have QW2 := show Hid (∀ W, Calls Tryz.prog 116 #[] W fun e w' => e = .returned (flt 5 (-1)) ∧ Nw W w') from wrong_any
    obtain ⟨Z, hZ⟩ : ∃ Z, Z = zh := ⟨_, rfl⟩
    have hRl : (hbs Z).size = 32 := by rw [hbs_size, hZ]; simp
    have HZe : Hid (zh = Z) := hZ.symm
    rw [← hZ]
    have hw : (decide ((y : Int) < (x : Int)) = true ∧ decide (y < x) = true) ∨ (decide ((y : Int) < (x : Int)) = false ∧ decide (y < x) = false ∧ decide ((L.length : Int) < (y : Int)) = true ∧ decide (L.length < y) = true) := by simp; omega
    clear h hc hZ
    rcases hw with ⟨g1, g1n⟩ | ⟨g1, g1n, g2, g2n⟩
    · go_enter Tryz.func27, Tryz.ntmps27
      go_wp2_with fail
      rw [z32_h]
      refine gen_world (fun W => W.heap[w.heap.size]? = some (.cells #[.int .u64 (x : Int), .int .u64 (y : Int)] 91) ∧ W.heap[w.heap.size + 1]? = some (.cells z32 56) ∧ W.heap[w.heap.size + 1 + 1]? = some (.cells #[.int .i64 0, .int .i64 0] 61) ∧ Nw w W) ⟨?_, ?_, ?_, ?_⟩ ?_
      · (repeat first | with_reducible exact heap_new _ _ | with_reducible exact heap_new _ _ | with_reducible exact heap_next _ _ _ | with_reducible exact heap_third _ _ _ _ | with_reducible refine hp_dr ?_ | (with_reducible refine hp_ne ?_ ?_; focus omega) | (with_reducible refine hp_al ?_ ?_; focus (first | omega | (simp <;> omega))) | with_reducible apply hp_set) <;> rfl
      · (repeat first | with_reducible exact heap_next _ _ _ | with_reducible exact heap_new _ _ | with_reducible exact heap_next _ _ _ | with_reducible exact heap_third _ _ _ _ | with_reducible refine hp_dr ?_ | (with_reducible refine hp_ne ?_ ?_; focus omega) | (with_reducible refine hp_al ?_ ?_; focus (first | omega | (simp <;> omega))) | with_reducible apply hp_set) <;> rfl
      · (repeat first | with_reducible exact heap_third _ _ _ _ | with_reducible exact heap_new _ _ | with_reducible exact heap_next _ _ _ | with_reducible exact heap_third _ _ _ _ | with_reducible refine hp_dr ?_ | (with_reducible refine hp_ne ?_ ?_; focus omega) | (with_reducible refine hp_al ?_ ?_; focus (first | omega | (simp <;> omega))) | with_reducible apply hp_set) <;> rfl
      · exact (by repeat first | with_reducible exact nwr w | with_reducible refine Fr.alloc ?_ _ | with_reducible refine Fr.drew ?_ | (with_reducible refine Fr.setCell ?_ _ _ (fun h => ?_); rotate_left; focus (simp only at h; omega)))
      rintro w1 ⟨b0, b1, b2, n1⟩
      obtain ⟨bs, hbs0⟩ : ∃ bs, bs = w.heap.size := ⟨_, rfl⟩
      obtain ⟨bd, hbd0⟩ : ∃ bd, bd = w.heap.size + 1 + 1 := ⟨_, rfl⟩
      obtain ⟨bz, hbz0⟩ : ∃ bz, bz = w.heap.size + 1 := ⟨_, rfl⟩
      have HD : Hid (bz ≠ bd ∧ w.heap.size ≤ bz ∧ w.heap.size ≤ bd) := ⟨by omega, by omega, by omega⟩
      rw [← hbd0] at b2 ⊢
      rw [← hbz0] at b1 ⊢
      rw [← hbs0] at b0 ⊢
      have NW1 : Hid (Nw w w1) := n1
      have k0 : ∀ z : Grw w1, z.val.cell? ⟨bs, 0, none⟩ = some (.int .u64 (x : Int)) := fun z => z.cell (cell2a b0)
      have k1 : ∀ z : Grw w1, z.val.cell? ⟨bs, 1, none⟩ = some (.int .u64 (y : Int)) := fun z => z.cell (cell2b b0)
      have B1 : Hid (w1.heap[bz]? = some (.cells z32 56)) := b1
      have B2 : Hid (w1.heap[bd]? = some (.cells #[.int .i64 0, .int .i64 0] 61)) := b2
      clear hbs0 hbd0 hbz0 n1 b0 b1 b2
      (refine wp_region_grown (by kernel_rfl) (by kernel_rfl) ?_; (repeat (first | go_big_quiet_skip | (go_big_quiet_want; first | (go_big_quiet_op; first | go_big_quiet_on | go_big_quiet_call (first | rfl | with_reducible exact grw_call Q.out NW1.out _))))); refine wpQuiet_nil ?_; rintro W ⟨⟨_, nW⟩, rfl⟩)
      clear k0 k1
      have NWW : Hid (Nw w1 W) := nW
      clear nW
      go_wp2_with (refine wpl_zero rfl rfl ?_; rw [HZe.out])
      refine (QW2.out _).mono ?_
      rintro e w2 ⟨rfl, n2⟩
      have m2 : Nw w1 w2 := NWW.out.tr n2
      have jz := (m2.block _ (heap_lt B1.out) (fun f => f)).trans B1.out
      have jf := (m2.block _ (heap_lt B2.out) (fun f => f)).trans B2.out
      have M2 : Hid (Nw w1 w2) := m2
      clear n2 m2
      go_wp2_with first
        | (refine wp_store_agg rfl (.tmp 4) (.tmp 18) 56 32 rfl Tryz.sizeOf56 bz 0 rfl z32 56 jz (hbs Z) rfl hRl (hbs_one _) (by decide) (hbs Z) (by rw [z32_drop]; simp) ?_; intro w5 j5 f5 _; have jf5 := (f5.block _ (heap_lt jf) (fun q => HD.out.1 q.symm)).trans jf; have F5 : Hid (Fr (fun k => k = bz) w2 w5) := f5; clear f5)
        | (refine wp_store_agg rfl (.tmp 5) (.tmp 19) 61 2 rfl Tryz.sizeOf61 bd 0 rfl _ 61 jf5 #[.int .i64 5, .int .i64 (-1)] rfl rfl (by simp [Value.oneCell']) (by decide) #[.int .i64 5, .int .i64 (-1)] rfl ?_; intro w6 j6 f6 _; have j56 := (f6.block _ (heap_lt j5) (fun q => HD.out.1 q)).trans j5)
      refine bodyPost_ret (results_cells Tryz.results27 Tryz.isAgg56 Tryz.sizeOf56 Tryz.isAgg61 Tryz.sizeOf61 rfl rfl j56 hRl j6 rfl) rfl ⟨rfl, ((NW1.out.tr M2.out).trans F5.out (fun k hk q => by have := HD.out; omega)).trans f6 (fun k hk q => by have := HD.out; omega)⟩
    · go_enter Tryz.func27, Tryz.ntmps27
      go_wp2_with fail
      rw [z32_h]
      refine gen_world (fun W => W.heap[w.heap.size]? = some (.cells #[.int .u64 (x : Int), .int .u64 (y : Int)] 91) ∧ W.heap[w.heap.size + 1]? = some (.cells z32 56) ∧ W.heap[w.heap.size + 1 + 1]? = some (.cells #[.int .i64 0, .int .i64 0] 61) ∧ Nw w W) ⟨?_, ?_, ?_, ?_⟩ ?_
      · (repeat first | with_reducible exact heap_new _ _ | with_reducible exact heap_new _ _ | with_reducible exact heap_next _ _ _ | with_reducible exact heap_third _ _ _ _ | with_reducible refine hp_dr ?_ | (with_reducible refine hp_ne ?_ ?_; focus omega) | (with_reducible refine hp_al ?_ ?_; focus (first | omega | (simp <;> omega))) | with_reducible apply hp_set) <;> rfl
      · (repeat first | with_reducible exact heap_next _ _ _ | with_reducible exact heap_new _ _ | with_reducible exact heap_next _ _ _ | with_reducible exact heap_third _ _ _ _ | with_reducible refine hp_dr ?_ | (with_reducible refine hp_ne ?_ ?_; focus omega) | (with_reducible refine hp_al ?_ ?_; focus (first | omega | (simp <;> omega))) | with_reducible apply hp_set) <;> rfl
      · (repeat first | with_reducible exact heap_third _ _ _ _ | with_reducible exact heap_new _ _ | with_reducible exact heap_next _ _ _ | with_reducible exact heap_third _ _ _ _ | with_reducible refine hp_dr ?_ | (with_reducible refine hp_ne ?_ ?_; focus omega) | (with_reducible refine hp_al ?_ ?_; focus (first | omega | (simp <;> omega))) | with_reducible apply hp_set) <;> rfl
      · exact (by repeat first | with_reducible exact nwr w | with_reducible refine Fr.alloc ?_ _ | with_reducible refine Fr.drew ?_ | (with_reducible refine Fr.setCell ?_ _ _ (fun h => ?_); rotate_left; focus (simp only at h; omega)))
      rintro w1 ⟨b0, b1, b2, n1⟩
      obtain ⟨bs, hbs0⟩ : ∃ bs, bs = w.heap.size := ⟨_, rfl⟩
      obtain ⟨bd, hbd0⟩ : ∃ bd, bd = w.heap.size + 1 + 1 := ⟨_, rfl⟩
      obtain ⟨bz, hbz0⟩ : ∃ bz, bz = w.heap.size + 1 := ⟨_, rfl⟩
      have HD : Hid (bz ≠ bd ∧ w.heap.size ≤ bz ∧ w.heap.size ≤ bd) := ⟨by omega, by omega, by omega⟩
      rw [← hbd0] at b2 ⊢
      rw [← hbz0] at b1 ⊢
      rw [← hbs0] at b0 ⊢
      have NW1 : Hid (Nw w w1) := n1
      have k0 : ∀ z : Grw w1, z.val.cell? ⟨bs, 0, none⟩ = some (.int .u64 (x : Int)) := fun z => z.cell (cell2a b0)
      have k1 : ∀ z : Grw w1, z.val.cell? ⟨bs, 1, none⟩ = some (.int .u64 (y : Int)) := fun z => z.cell (cell2b b0)
      have B1 : Hid (w1.heap[bz]? = some (.cells z32 56)) := b1
      have B2 : Hid (w1.heap[bd]? = some (.cells #[.int .i64 0, .int .i64 0] 61)) := b2
      clear hbs0 hbd0 hbz0 n1 b0 b1 b2
      (refine wp_region_grown (by kernel_rfl) (by kernel_rfl) ?_; (repeat (first | go_big_quiet_skip | (go_big_quiet_want; first | (go_big_quiet_op; first | go_big_quiet_on | go_big_quiet_call (first | rfl | with_reducible exact grw_call Q.out NW1.out _))))); refine wpQuiet_nil ?_; rintro W ⟨⟨_, nW⟩, rfl⟩)
      clear k0 k1
      have NWW : Hid (Nw w1 W) := nW
      clear nW
      go_wp2_with (refine wpl_zero rfl rfl ?_; rw [HZe.out])
      refine (QW2.out _).mono ?_
      rintro e w2 ⟨rfl, n2⟩
      have m2 : Nw w1 w2 := NWW.out.tr n2
      have jz := (m2.block _ (heap_lt B1.out) (fun f => f)).trans B1.out
      have jf := (m2.block _ (heap_lt B2.out) (fun f => f)).trans B2.out
      have M2 : Hid (Nw w1 w2) := m2
      clear n2 m2
      go_wp2_with first
        | (refine wp_store_agg rfl (.tmp 4) (.tmp 18) 56 32 rfl Tryz.sizeOf56 bz 0 rfl z32 56 jz (hbs Z) rfl hRl (hbs_one _) (by decide) (hbs Z) (by rw [z32_drop]; simp) ?_; intro w5 j5 f5 _; have jf5 := (f5.block _ (heap_lt jf) (fun q => HD.out.1 q.symm)).trans jf; have F5 : Hid (Fr (fun k => k = bz) w2 w5) := f5; clear f5)
        | (refine wp_store_agg rfl (.tmp 5) (.tmp 19) 61 2 rfl Tryz.sizeOf61 bd 0 rfl _ 61 jf5 #[.int .i64 5, .int .i64 (-1)] rfl rfl (by simp [Value.oneCell']) (by decide) #[.int .i64 5, .int .i64 (-1)] rfl ?_; intro w6 j6 f6 _; have j56 := (f6.block _ (heap_lt j5) (fun q => HD.out.1 q)).trans j5)
      refine bodyPost_ret (results_cells Tryz.results27 Tryz.isAgg56 Tryz.sizeOf56 Tryz.isAgg61 Tryz.sizeOf61 rfl rfl j56 hRl j6 rfl) rfl ⟨rfl, ((NW1.out.tr M2.out).trans F5.out (fun k hk q => by have := HD.out; omega)).trans f6 (fun k hk q => by have := HD.out; omega)⟩
set_option maxRecDepth 100000 in
set_option maxHeartbeats 1000000 in
theorem droot_any {w : World} {b base : Nat} {v : Value} {L : List ByteArray} (h : Dg w b base v L) (y : Nat) (hy : y < 18446744073709551616) :
    Calls Tryz.prog 28 #[.pointer (some ⟨b, 0, none⟩), .int .u64 (y : Int)] w fun e w' => e = .returned (dtreeA L 0 y) ∧ Nw w w' := by
  have Q := show Hid (∀ W, Nw w W → Calls Tryz.prog 27 #[.pointer (some ⟨b, 0, none⟩), sp 0 y] W fun e w' => e = .returned (dtreeA L 0 y) ∧ Nw W w') from fun W hW => dtree_any (h.nw hW) 0 y (by omega) hy
  unfold dtreeA at Q ⊢
  have h32 : (if 0 ≤ y ∧ y ≤ L.length then mth (sbl L 0 y) else zh).length = 32 := by split; exact mth_len _; simp
  obtain ⟨R, hR⟩ : ∃ R, R = (if 0 ≤ y ∧ y ≤ L.length then mth (sbl L 0 y) else zh) := ⟨_, rfl⟩
  rw [← hR] at Q h32 ⊢
  have hRl : (hbs R).size = 32 := by rw [hbs_size, h32]
  obtain ⟨c0, c1, hf⟩ : ∃ c0 c1 : Int, (if 0 ≤ y ∧ y ≤ L.length then flt 0 0 else flt 5 (-1)) = flt c0 c1 := by split; exact ⟨0, 0, rfl⟩; exact ⟨5, -1, rfl⟩
  rw [hf] at Q ⊢
  clear h hR h32 hf
  go_enter Tryz.func28, Tryz.ntmps28
  go_wp2_with fail
  rw [z32_h]
  refine (Q.out _ ((nwa w _).alloc _)).mono ?_
  rintro e w1 ⟨rfl, m1⟩
  obtain ⟨⟨l0, l1⟩, b0, b1, n1⟩ := two_made m1
  clear m1
  go_wp2_with first
    | (refine wp_store_agg rfl (.tmp 4) (.tmp 10) 56 32 rfl Tryz.sizeOf56 w.heap.size 0 rfl z32 56 b0 (hbs R) rfl hRl (hbs_one _) (by decide) (hbs R) (by rw [z32_drop]; simp) ?_; intro w5 j5 f5 _; have jf5 := (f5.block _ (heap_lt b1) (fun q => by omega)).trans b1; have F5 : Hid (Fr (fun k => k = w.heap.size) w1 w5) := f5; clear f5)
    | (refine wp_store_agg rfl (.tmp 5) (.tmp 11) 61 2 rfl Tryz.sizeOf61 (w.heap.size + 1) 0 rfl _ 61 jf5 #[.int .i64 c0, .int .i64 c1] rfl rfl (by simp [Value.oneCell']) (by decide) #[.int .i64 c0, .int .i64 c1] rfl ?_; intro w6 j6 f6 _; have j56 := (f6.block _ (heap_lt j5) (fun q => by omega)).trans j5)
  refine bodyPost_ret (results_cells Tryz.results28 Tryz.isAgg56 Tryz.sizeOf56 Tryz.isAgg61 Tryz.sizeOf61 rfl rfl j56 hRl j6 rfl) rfl ⟨rfl, (n1.trans F5.out (fun k hk q => by omega)).trans f6 (fun k hk q => by omega)⟩
end Go.Proofs.YtdhlmpjoggnkkaaGreatDoor
