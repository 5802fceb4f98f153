/- tree, Tree and Root of package naive. -/
import Derived.Test.YthkkjpefealdgaaDoorL3
namespace Go.Proofs.YthkkjpefealdgaaDoor
open Go.RowKit
set_option linter.unusedVariables false
set_option linter.unusedSimpArgs false

set_option maxRecDepth 100000 in
set_option maxHeartbeats 2000000 in
theorem tree_any {w : World} {b base : Nat} {v : Value} {L : List ByteArray} (h : Lg w b base v L) (x y : Nat) (hxy : x ≤ y) (hy : y ≤ L.length) (hL : Laid w) :
    Calls Tryd.prog 31 #[.pointer (some ⟨b, 0, none⟩), sp x y] w fun e w' => e = .returned (.agg (hbs (mth (sbl L x y)))) ∧ Nw w w' := by
  have hst : ∀ (W : World) (ad : Addr) (fn : Fn) (f c : Array Value), (store ad (.func fn f c)).run Tryd.prog W = stored Tryd.prog W ad (.func fn f c) .plain := fun W ad fn f c => run_store _ W ad _ .plain rfl
  obtain ⟨p, c, hv, hp, hlc, _⟩ := h.form
  subst hv
  have hcut := cut_lh p L.length c x y .u64 .u64 hxy (by omega)
  have hlen : (sbl L x y).length = y - x := by rw [sbl_len]; omega
  have hsp := hp.cut x y c hlc
  have hm := h.len
  have QT : Hid (∀ W bd, Nw w W → W.heap[bd]? = some (.cells #[dnT bd] 84) → Calls Tryd.prog 42 #[.slice (if c = x then p else p.map (·.add (x * 1))) (y - x) (c - x), .pointer (some ⟨bd, 0, none⟩)] W fun e w' => e = .returned (.agg (hbs (mth (sbl L x y)))) ∧ Nw W w') := fun W bd hW hb => by
    have q := tdown_any bd (sbl L x y).length (sbl L x y) (if c = x then p else p.map (·.add (x * 1))) (c - x) W (Nat.le_refl _) (by omega) (fun z hz => h.sz z (sbl_mem hz)) (by omega) (hsp.nw hW) (hL.nw hW) hb
    rw [hlen] at q
    exact q
  obtain ⟨pp, hpp⟩ : ∃ pp, pp = (if c = x then p else p.map (·.add (x * 1))) := ⟨_, rfl⟩
  rw [← hpp] at QT hcut
  have hRl : (hbs (mth (sbl L x y))).size = 32 := by rw [hbs_size, mth_len]
  obtain ⟨R, hR⟩ : ∃ R, R = mth (sbl L x y) := ⟨_, rfl⟩
  rw [← hR] at QT hRl ⊢
  have hblk := h.blk
  have HXY : Hid (x ≤ y) := hxy
  clear h hL hp hsp hpp hlen hR hxy
  have lb := heap_lt hblk
  go_enter Tryd.func31, Tryd.ntmps31
  go_wp2_with fail
  rw [z32_h]
  refine gen_world (fun W => W.heap[w.heap.size]? = some (.cells #[.int .u64 (x : Int), .int .u64 (y : Int)] 25) ∧ W.heap[w.heap.size + 1]? = some (.cells z32 32) ∧ W.heap[w.heap.size + 1 + 1]? = some (.cells #[dnT (w.heap.size + 1 + 1)] 84) ∧ Nw w W) ⟨?_, ?_, ?_, ?_⟩ ?_
  · (repeat first | with_reducible exact heap_new _ _ | with_reducible exact heap_new _ _ | with_reducible exact heap_next _ _ _ | with_reducible exact heap_third _ _ _ _ | with_reducible refine hp_dr ?_ | (with_reducible refine hp_ne ?_ ?_; focus omega) | (with_reducible refine hp_al ?_ ?_; focus (first | omega | (simp <;> omega))) | with_reducible apply hp_set) <;> rfl
  · (repeat first | with_reducible exact heap_next _ _ _ | with_reducible exact heap_new _ _ | with_reducible exact heap_next _ _ _ | with_reducible exact heap_third _ _ _ _ | with_reducible refine hp_dr ?_ | (with_reducible refine hp_ne ?_ ?_; focus omega) | (with_reducible refine hp_al ?_ ?_; focus (first | omega | (simp <;> omega))) | with_reducible apply hp_set) <;> rfl
  · (repeat first | with_reducible exact heap_third _ _ _ _ | with_reducible exact heap_new _ _ | with_reducible exact heap_next _ _ _ | with_reducible exact heap_third _ _ _ _ | with_reducible refine hp_dr ?_ | (with_reducible refine hp_ne ?_ ?_; focus omega) | (with_reducible refine hp_al ?_ ?_; focus (first | omega | (simp <;> omega))) | with_reducible apply hp_set) <;> rfl
  · exact (by repeat first | with_reducible exact nwr w | with_reducible refine Fr.alloc ?_ _ | with_reducible refine Fr.drew ?_ | (with_reducible refine Fr.setCell ?_ _ _ (fun h => ?_); rotate_left; focus (simp only at h; omega)))
  rintro w1 ⟨b0, b1, b2, n1⟩
  have hblk1 := (n1.block _ (heap_lt hblk) (fun f => f)).trans hblk
  obtain ⟨bs, hbs0⟩ : ∃ bs, bs = w.heap.size := ⟨_, rfl⟩
  obtain ⟨bd, hbd0⟩ : ∃ bd, bd = w.heap.size + 1 + 1 := ⟨_, rfl⟩
  obtain ⟨bz, hbz0⟩ : ∃ bz, bz = w.heap.size + 1 := ⟨_, rfl⟩
  have HD : Hid (bs ≠ bz ∧ bd ≠ bz ∧ b ≠ bz ∧ w.heap.size ≤ bz) := ⟨by omega, by omega, by omega, by omega⟩
  rw [← hbd0] at b2 ⊢
  rw [← hbz0] at b1 ⊢
  rw [← hbs0] at b0 ⊢
  have NW1 : Hid (Nw w w1) := n1
  clear hbs0 hbd0 hbz0 n1 hblk
  have hkp : Hid (∀ W, Fr (fun k => k = bz) w1 W → W.heap[bd]? = some (.cells #[dnT bd] 84) ∧ W.heap[b]? = some (.cells #[.bool true, .slice p L.length c] 64) ∧ W.heap[bs]? = some (.cells #[.int .u64 (x : Int), .int .u64 (y : Int)] 25)) := fun W hW => ⟨(hW.block _ (heap_lt b2) HD.out.2.1).trans b2, (hW.block _ (heap_lt hblk1) HD.out.2.2.1).trans hblk1, (hW.block _ (heap_lt b0) HD.out.1).trans b0⟩
  have nb : Nw w1 w1.drew := (Fr.refl _ _).drew
  refine wp_region_held_drew (S := fun W => W.heap[bd]? = some (.cells #[dnT bd] 84) ∧ W.heap[b]? = some (.cells #[.bool true, .slice p L.length c] 64) ∧ W.heap[bs]? = some (.cells #[.int .u64 (x : Int), .int .u64 (y : Int)] 25)) (by kernel_rfl) (hkp.out _ (nb.mono (fun _ _ f => f.elim))) ?_
  intro hS0
  refine wpAnyH_take (i := 0) (v := dnT bd) rfl (by kernel_rfl) (by kernel_rfl) (by kernel_rfl) (fun _ _ _ h => h) (Or.inl ⟨by rfl, by intro w hw; have hc := (cell_of hw.1 0).trans rfl; go_simp⟩) hS0 ?_
  try simp only [Act.put, List.setIfInBounds_toArray, List.set_cons_zero, List.set_cons_succ]
  refine wpAnyH_take (i := 1) (v := .pointer (some ⟨b, 0, none⟩)) rfl (by kernel_rfl) (by kernel_rfl) (by kernel_rfl) (fun _ _ _ h => h) (Or.inl ⟨by rfl, by intro w hw; go_simp⟩) hS0 ?_
  try simp only [Act.put, List.setIfInBounds_toArray, List.set_cons_zero, List.set_cons_succ]
  refine wpAnyH_take (i := 2) (v := .pointer (some ⟨b, 0, none⟩)) rfl (by kernel_rfl) (by kernel_rfl) (by kernel_rfl) (fun _ _ _ h => h) (Or.inl ⟨by rfl, by intro w hw; go_simp⟩) hS0 ?_
  try simp only [Act.put, List.setIfInBounds_toArray, List.set_cons_zero, List.set_cons_succ]
  refine wpAnyH_take (i := 3) (v := .pointer (some ⟨b, 1, none⟩)) rfl (by kernel_rfl) (by kernel_rfl) (by kernel_rfl) (fun _ _ _ h => h) (Or.inl ⟨by rfl, by intro w hw; go_simp⟩) hS0 ?_
  try simp only [Act.put, List.setIfInBounds_toArray, List.set_cons_zero, List.set_cons_succ]
  refine wpAnyH_take (i := 4) (v := .slice p L.length c) rfl (by kernel_rfl) (by kernel_rfl) (by kernel_rfl) (fun _ _ _ h => h) (Or.inl ⟨by rfl, by intro w hw; have hc := cell2b hw.2.1; go_simp⟩) hS0 ?_
  try simp only [Act.put, List.setIfInBounds_toArray, List.set_cons_zero, List.set_cons_succ]
  refine wpAnyH_take (i := 5) (v := .pointer (some ⟨bs, 0, none⟩)) rfl (by kernel_rfl) (by kernel_rfl) (by kernel_rfl) (fun _ _ _ h => h) (Or.inl ⟨by rfl, by intro w hw; go_simp⟩) hS0 ?_
  try simp only [Act.put, List.setIfInBounds_toArray, List.set_cons_zero, List.set_cons_succ]
  refine wpAnyH_take (i := 6) (v := .int .u64 (x : Int)) rfl (by kernel_rfl) (by kernel_rfl) (by kernel_rfl) (fun _ _ _ h => h) (Or.inl ⟨by rfl, by intro w hw; have hc := cell2a hw.2.2; go_simp⟩) hS0 ?_
  try simp only [Act.put, List.setIfInBounds_toArray, List.set_cons_zero, List.set_cons_succ]
  refine wpAnyH_take (i := 7) (v := .pointer (some ⟨bs, 1, none⟩)) rfl (by kernel_rfl) (by kernel_rfl) (by kernel_rfl) (fun _ _ _ h => h) (Or.inl ⟨by rfl, by intro w hw; go_simp⟩) hS0 ?_
  try simp only [Act.put, List.setIfInBounds_toArray, List.set_cons_zero, List.set_cons_succ]
  refine wpAnyH_take (i := 8) (v := .int .u64 (y : Int)) rfl (by kernel_rfl) (by kernel_rfl) (by kernel_rfl) (fun _ _ _ h => h) (Or.inl ⟨by rfl, by intro w hw; have hc := cell2b hw.2.2; go_simp⟩) hS0 ?_
  try simp only [Act.put, List.setIfInBounds_toArray, List.set_cons_zero, List.set_cons_succ]
  refine wpAnyH_take (i := 9) (v := .slice pp (y - x) (c - x)) rfl (by kernel_rfl) (by kernel_rfl) (by kernel_rfl) (fun _ _ _ h => h) (Or.inl ⟨by rfl, by intro w hw; have := hcut w; go_simp⟩) hS0 ?_
  try simp only [Act.put, List.setIfInBounds_toArray, List.set_cons_zero, List.set_cons_succ]
  refine wpAnyH_ready (rs := [10]) (by kernel_rfl) (by simp) ?_
  refine AllReadyH.cons rfl (fun K' hK => ?_) AllReadyH.nil
  go_simp
  go_wp2_with (go_at_call 42; refine (QT.out _ bd (NW1.out.tr nb) (hkp.out _ (nb.mono (fun _ _ f => f.elim))).1).mono ?_; rintro e2 w2 ⟨rfl, n2⟩)
  have m2 : Nw w1 w2 := Nw.tr nb n2
  refine hK.out _ _ (hkp.out _ (m2.mono (fun _ _ f => f.elim))) (fun hS0 => ?_)
  try simp only [Act.put, List.setIfInBounds_toArray, List.set_cons_zero, List.set_cons_succ]
  refine wpAnyH_ready (rs := [11]) (by kernel_rfl) (by simp) ?_
  refine AllReadyH.cons rfl (fun K' hK => ?_) AllReadyH.nil
  have jz := (m2.block _ (heap_lt b1) (fun f => f)).trans b1
  refine step_store_agg rfl (.tmp 4) (.tmp 17) 32 32 rfl Tryd.sizeOf32 bz 0 rfl z32 32 jz (hbs R) rfl hRl (hbs_one _) (by decide) (hbs R) (by rw [z32_drop]; simp) ?_
  intro w5 j5 f5 z5
  refine hK.out _ _ (hkp.out _ ((m2.mono (fun _ _ f => f.elim)).trans f5 (fun _ _ q => q))) (fun hS3 => ?_)
  refine wpAnyH_done (by kernel_rfl) ?_ _
  go_wp2_with fail
  exact bodyPost_ret (results_cell Tryd.results31 Tryd.isAgg32 Tryd.sizeOf32 rfl j5 hRl) rfl ⟨rfl, (NW1.out.tr m2).trans f5 (fun k hk q => by have := HD.out.2.2.2; omega)⟩
theorem z32_size : z32.size = 32 := by simp [z32]
theorem z32_one : ∀ u ∈ z32.toList, u.oneCell' = true := by rw [z32_hbs]; exact hbs_one _
abbrev zh : List UInt8 := List.replicate 32 0
set_option maxRecDepth 100000 in
set_option maxHeartbeats 2000000 in
theorem Tree_yes {w : World} {b base : Nat} {v : Value} {L : List ByteArray} (h : Lg w b base v L) (x y : Nat) (hxy : x ≤ y) (hy : y ≤ L.length) (hL : Laid w) {B : Nat} {a : Nat → Addr} (hS : Sent B w a) :
    Calls Tryd.prog 10 #[.pointer (some ⟨b, 0, none⟩), sp x y] w fun e w' => e = .returned (.tuple #[.agg (hbs (mth (sbl L x y))), .nilIface]) ∧ Nw w w' := by
  have QH : Hid (∀ W, Nw w W → Calls Tryd.prog 30 #[.pointer (some ⟨b, 0, none⟩), .int .u64 (y : Int)] W fun e w' => e = .returned .nilIface ∧ Nw W w') := fun W hW => by
    have q := has_any (h.nw hW) y (by have := h.len; omega) (hS.fr hW (fun _ _ f => f))
    rw [if_pos hy] at q
    exact q.mono fun e w' h => ⟨h.1, by rw [h.2]; exact nwr W⟩
  have QT : Hid (∀ W, Nw w W → Calls Tryd.prog 31 #[.pointer (some ⟨b, 0, none⟩), sp x y] W fun e w' => e = .returned (.agg (hbs (mth (sbl L x y)))) ∧ Nw W w') := fun W hW => tree_any (h.nw hW) x y hxy hy (hL.nw hW)
  have hRl : (hbs (mth (sbl L x y))).size = 32 := by rw [hbs_size, mth_len]
  obtain ⟨R, hR⟩ : ∃ R, R = mth (sbl L x y) := ⟨_, rfl⟩
  rw [← hR] at QT hRl ⊢
  have hlt : ¬ (y : Int) < (x : Int) := by omega
  clear h hL hS hR
  go_enter Tryd.func10, Tryd.ntmps10
  go_wp2_with fail
  rw [z32_h]
  refine (QH.out _ ((nwa w _).alloc _)).mono ?_
  rintro e w1 ⟨rfl, m1⟩
  obtain ⟨⟨l0, l1⟩, b0, b1, n1⟩ := two_made m1
  have c0 := cell2a b0
  have c1 := cell2b b0
  clear m1
  go_wp2_with fail
  refine (QT.out _ n1).mono ?_
  rintro e w3 ⟨rfl, n3⟩
  have j3 := (n3.block _ (heap_lt b1) (fun f => f)).trans b1
  go_wp2_with (refine wp_store_agg rfl (.tmp 4) (.tmp 24) 32 32 rfl Tryd.sizeOf32 (w.heap.size + 1) 0 rfl z32 32 j3 (hbs R) rfl hRl (hbs_one _) (by decide) (hbs R) (by rw [z32_drop]; simp) ?_; intro w4 j4 f4 z4)
  exact bodyPost_ret (results_cell_slot Tryd.results10 Tryd.isAgg32 Tryd.sizeOf32 rfl _ rfl j4 hRl) rfl ⟨rfl, (n1.tr n3).trans f4 (fun k hk q => by omega)⟩
set_option maxRecDepth 100000 in
set_option maxHeartbeats 2000000 in
theorem Tree_out {w : World} (P : Value) (x y : Nat) (er : Addr) (QH : ∀ W, Nw w W → Calls Tryd.prog 30 #[P, .int .u64 (y : Int)] W fun e w' => e = .returned (sen er) ∧ Nw W w') :
    Calls Tryd.prog 10 #[P, sp x y] w fun e w' => e = .returned (.tuple #[.agg (hbs zh), sen er]) ∧ Nw w w' := by
  rw [show zh = List.replicate 32 0 from rfl, ← z32_hbs]
  have QH' := show Hid _ from QH
  clear QH
  go_enter Tryd.func10, Tryd.ntmps10
  go_wp2_with fail
  rw [z32_h]
  refine (QH'.out _ ((nwa w _).alloc _)).mono ?_
  rintro e w1 ⟨rfl, m1⟩
  obtain ⟨⟨l0, l1⟩, b0, b1, n1⟩ := two_made m1
  clear m1
  go_wp2_with (refine wp_store_agg rfl (.tmp 4) (.tmp 13) 32 32 rfl Tryd.sizeOf32 (w.heap.size + 1) 0 rfl z32 32 b1 z32 (congrArg Value.agg z32_h) z32_size z32_one (by decide) z32 (by rw [z32_drop]; simp) ?_; intro w4 j4 f4 z4)
  exact bodyPost_ret (results_cell_slot Tryd.results10 Tryd.isAgg32 Tryd.sizeOf32 rfl (sen er) rfl j4 z32_size) rfl ⟨rfl, n1.trans f4 (fun k hk q => by omega)⟩
set_option maxRecDepth 100000 in
set_option maxHeartbeats 2000000 in
theorem Tree_turned {w : World} {b base : Nat} {v : Value} {L : List ByteArray} (h : Lg w b base v L) (x y : Nat) (hxy : y < x) (hx : x < 18446744073709551616) (hy : y ≤ L.length) {B : Nat} {a : Nat → Addr} (hS : Sent B w a) :
    Calls Tryd.prog 10 #[.pointer (some ⟨b, 0, none⟩), sp x y] w fun e w' => e = .returned (.tuple #[.agg (hbs zh), sen (a 4)]) ∧ Nw w w' := by
  rw [show zh = List.replicate 32 0 from rfl, ← z32_hbs]
  have QH : Hid (∀ W, Nw w W → Calls Tryd.prog 30 #[.pointer (some ⟨b, 0, none⟩), .int .u64 (y : Int)] W fun e w' => e = .returned .nilIface ∧ Nw W w') := fun W hW => by
    have q := has_any (h.nw hW) y (by have := h.len; omega) (hS.fr hW (fun _ _ f => f))
    rw [if_pos hy] at q
    exact q.mono fun e w' h => ⟨h.1, by rw [h.2]; exact nwr W⟩
  have hlt : (y : Int) < (x : Int) := by omega
  have hc4 := hS.c4
  clear h hS
  go_enter Tryd.func10, Tryd.ntmps10
  go_wp2_with fail
  rw [z32_h]
  refine (QH.out _ ((nwa w _).alloc _)).mono ?_
  rintro e w1 ⟨rfl, m1⟩
  obtain ⟨⟨l0, l1⟩, b0, b1, n1⟩ := two_made m1
  have c0 := cell2a b0
  have c1 := cell2b b0
  clear m1
  go_wp2_with fail
  have hc1 := n1.cellOf hc4
  refine wp_region_held_drew (S := fun W => W.cell? ⟨0, 0, none⟩ = some (sen (a 4))) (by kernel_rfl) (Nw.cellOf (Fr.refl (fun _ => False) w1).drew hc1) ?_
  intro hS0
  refine wpAnyH_take (i := 0) (v := .agg z32) rfl (by kernel_rfl) (by kernel_rfl) (by kernel_rfl) (fun _ _ _ h => h) (Or.inl ⟨by rfl, by intro w _; rw [← z32_h]; go_simp⟩) hS0 ?_
  try simp only [Act.put, List.setIfInBounds_toArray, List.set_cons_zero, List.set_cons_succ]
  refine wpAnyH_take (i := 1) (v := sen (a 4)) rfl (by kernel_rfl) (by kernel_rfl) (by kernel_rfl) (fun _ _ _ h => h) (Or.inl ⟨by rfl, by intro w hw; go_simp⟩) hS0 ?_
  try simp only [Act.put, List.setIfInBounds_toArray, List.set_cons_zero, List.set_cons_succ]
  refine wpAnyH_ready (rs := [2]) (by kernel_rfl) (by simp) ?_
  refine AllReadyH.cons rfl (fun K' hK => ?_) AllReadyH.nil
  refine step_store_agg rfl (.tmp 4) (.tmp 20) 32 32 rfl Tryd.sizeOf32 (w.heap.size + 1) 0 rfl z32 32 b1 z32 rfl z32_size z32_one (by decide) z32 (by rw [z32_drop]; simp) ?_
  intro w4 j4 f4 z4
  have n4 : Nw w w4 := n1.drew.trans f4 (fun k hk q => by omega)
  refine hK.out _ _ (n4.cellOf hc4) (fun hS2 => ?_)
  try simp only [Act.put, List.setIfInBounds_toArray, List.set_cons_zero, List.set_cons_succ]
  refine wpAnyH_ready (rs := [3]) (by kernel_rfl) (by simp) ?_
  refine AllReadyH.cons rfl (fun K' hK => ?_) AllReadyH.nil
  go_simp
  refine hK.out _ _ (n4.cellOf hc4) (fun hS3 => ?_)
  refine wpAnyH_done (by kernel_rfl) ?_ _
  go_wp2_with fail
  exact bodyPost_ret (results_cell_slot Tryd.results10 Tryd.isAgg32 Tryd.sizeOf32 rfl (sen (a 4)) rfl j4 z32_size) rfl ⟨rfl, n4⟩
/-- All that Tree answers of a log. -/
def treeA (L : List ByteArray) (a : Nat → Addr) (x y : Nat) : Value := if x ≤ y ∧ y ≤ L.length then .tuple #[.agg (hbs (mth (sbl L x y))), .nilIface] else .tuple #[.agg (hbs zh), sen (a 4)]
theorem Tree_any {w : World} {b base : Nat} {v : Value} {L : List ByteArray} (h : Lg w b base v L) (x y : Nat) (hx : x < 18446744073709551616) (hy : y < 18446744073709551616) (hL : Laid w) {B : Nat} {a : Nat → Addr} (hS : Sent B w a) :
    Calls Tryd.prog 10 #[.pointer (some ⟨b, 0, none⟩), sp x y] w fun e w' => e = .returned (treeA L a x y) ∧ Nw w w' := by
  unfold treeA
  by_cases h1 : y ≤ L.length
  · by_cases h2 : x ≤ y
    · rw [if_pos ⟨h2, h1⟩]
      exact Tree_yes h x y h2 h1 hL hS
    · rw [if_neg (fun q => h2 q.1)]
      exact Tree_turned h x y (by omega) hx h1 hS
  · rw [if_neg (fun q => h1 q.2)]
    refine Tree_out _ x y (a 4) (fun W hW => ?_)
    have q := has_any (h.nw hW) y hy (hS.fr hW (fun _ _ f => f))
    rw [if_neg h1] at q
    exact q.mono fun e w' h => ⟨h.1, by rw [h.2]; exact nwr W⟩
theorem Tree_no {w : World} {p : Value} (h : NoL w p) (x y : Nat) {B : Nat} {a : Nat → Addr} (hS : Sent B w a) :
    Calls Tryd.prog 10 #[p, sp x y] w fun e w' => e = .returned (.tuple #[.agg (hbs zh), sen (a 0)]) ∧ Nw w w' :=
  Tree_out p x y (a 0) (fun W hW => (has_no (h.nw hW) y (hS.fr hW (fun _ _ f => f))).mono fun e w' h => ⟨h.1, by rw [h.2]; exact nwr W⟩)
set_option maxRecDepth 100000 in
set_option maxHeartbeats 2000000 in
theorem Root_of {w : World} (P : Value) (n : Nat) (R : List UInt8) (hR : R.length = 32) (er : Value) (QT : ∀ W, Nw w W → Calls Tryd.prog 10 #[P, sp 0 n] W fun e w' => e = .returned (.tuple #[.agg (hbs R), er]) ∧ Nw W w') :
    Calls Tryd.prog 25 #[P, .int .u64 (n : Int)] w fun e w' => e = .returned (.tuple #[.agg (hbs R), er]) ∧ Nw w w' := by
  have hRl : (hbs R).size = 32 := by rw [hbs_size, hR]
  have QT' := show Hid _ from QT
  clear QT
  go_enter Tryd.func25, Tryd.ntmps25
  go_wp2_with fail
  rw [z32_h]
  refine (QT'.out _ (nwa w _)).mono ?_
  rintro e w1 ⟨rfl, m1⟩
  obtain ⟨l0, b0, n1⟩ := one_made m1
  clear m1
  go_wp2_with (refine wp_store_agg rfl (.tmp 4) (.tmp 10) 32 32 rfl Tryd.sizeOf32 w.heap.size 0 rfl z32 32 b0 (hbs R) rfl hRl (hbs_one _) (by decide) (hbs R) (by rw [z32_drop]; simp) ?_; intro w4 j4 f4 z4)
  exact bodyPost_ret (results_cell_slot Tryd.results25 Tryd.isAgg32 Tryd.sizeOf32 rfl er rfl j4 hRl) rfl ⟨rfl, n1.trans f4 (fun k hk q => by omega)⟩
theorem Root_any {w : World} {b base : Nat} {v : Value} {L : List ByteArray} (h : Lg w b base v L) (y : Nat) (hy : y < 18446744073709551616) (hL : Laid w) {B : Nat} {a : Nat → Addr} (hS : Sent B w a) :
    Calls Tryd.prog 25 #[.pointer (some ⟨b, 0, none⟩), .int .u64 (y : Int)] w fun e w' => e = .returned (treeA L a 0 y) ∧ Nw w w' := by
  have QT : ∀ W, Nw w W → _ := fun W hW => Tree_any (h.nw hW) 0 y (by omega) hy (hL.nw hW) (hS.fr hW (fun _ _ f => f))
  unfold treeA at QT ⊢
  by_cases h1 : 0 ≤ y ∧ y ≤ L.length
  · rw [if_pos h1] at QT ⊢
    exact Root_of _ y _ (mth_len _) _ QT
  · rw [if_neg h1] at QT ⊢
    exact Root_of _ y _ (by simp) _ QT
theorem Root_no {w : World} {p : Value} (h : NoL w p) (y : Nat) {B : Nat} {a : Nat → Addr} (hS : Sent B w a) :
    Calls Tryd.prog 25 #[p, .int .u64 (y : Int)] w fun e w' => e = .returned (.tuple #[.agg (hbs zh), sen (a 0)]) ∧ Nw w w' :=
  Root_of p y zh (by simp) _ (fun W hW => Tree_no (h.nw hW) 0 y (hS.fr hW (fun _ _ f => f)))
end Go.Proofs.YthkkjpefealdgaaDoor
