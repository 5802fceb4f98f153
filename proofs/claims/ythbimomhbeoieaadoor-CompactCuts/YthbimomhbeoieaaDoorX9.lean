/- compact: Root: what is refused, and no leaves. -/
import Derived.Test.YthbimomhbeoieaaDoorX8
namespace Go.Proofs.YthbimomhbeoieaaDoor
open Go.RowKit
set_option linter.unusedVariables false
set_option linter.unusedSimpArgs false
set_option maxRecDepth 100000 in
set_option maxHeartbeats 1000000 in
theorem rroot_no {w : World} {p : Value} (h : NoR w p) {B : Nat} {a : Nat → Addr} (hS : Sent B w a) :
    Calls Tryd.prog 11 #[p] w fun e w' => e = .returned (.tuple #[.agg (hbs zh), sen (a 0)]) ∧ Nw w w' := by
  have HN : Hid (NoR w p) := h
  have CW : Hid (w.cell? ⟨0, 0, none⟩ = some (sen (a 0))) := hS.c0
  clear h hS
  go_enter Tryd.func11, Tryd.ntmps11
  go_upto_region 1 with fail
  rw [z32_h]
  obtain ⟨w0, hw0⟩ : ∃ q, w.alloc (.cells z32 24) = q := ⟨_, rfl⟩
  have n0 : Nw w w0 := by rw [← hw0]; exact nwa w _
  have b0 : w0.heap[w.heap.size]? = some (.cells z32 24) := by rw [← hw0]; exact heap_new _ _
  rw [hw0]
  clear hw0
  obtain ⟨hb, hhb⟩ : ∃ q, q = w.heap.size := ⟨_, rfl⟩
  rw [← hhb] at b0 ⊢
  have HHB : Hid (hb = w.heap.size) := hhb
  clear hhb
  have q := rthere_no (HN.out.nw n0)
  go_wp2_with fail
  refine q.mono ?_
  rintro e w1 ⟨rfl, rfl⟩
  have NE : Hid (Nw w w1) := n0
  have BE : Hid (w1.heap[hb]? = some (.cells z32 24)) := b0
  have CE : Hid (w1.cell? ⟨0, 0, none⟩ = some (sen (a 0))) := n0.cellOf CW.out
  clear n0 b0 q
  have KP : Hid (∀ V, Nw w1 V → V.cell? ⟨0, 0, none⟩ = some (sen (a 0))) := fun V nV => nV.cellOf CE.out
  have nb : Nw w1 w1.drew := (Fr.refl _ _).drew
  go_upto_region 2 with fail
  refine wp_region_held_drew (S := fun V => V.cell? ⟨0, 0, none⟩ = some (sen (a 0))) (by kernel_rfl) (KP.out _ nb) ?_
  intro hS0
  refine wpAnyH_take (i := 0) (v := .agg (hbs zh)) rfl (by kernel_rfl) (by kernel_rfl) (by kernel_rfl) (fun _ _ _ h => h) (yields_build rfl 24 #[] rfl #[] (by kernel_rfl) (hbs zh) build_zero) hS0 ?_
  try simp only [Act.put, List.setIfInBounds_toArray, List.set_cons_zero, List.set_cons_succ]
  refine wpAnyH_take (i := 1) (v := sen (a 0)) rfl (by kernel_rfl) (by kernel_rfl) (by kernel_rfl) (fun _ _ _ h => h) (Or.inl ⟨by rfl, by intro w hw; have hc := hw; go_simp⟩) hS0 ?_
  try simp only [Act.put, List.setIfInBounds_toArray, List.set_cons_zero, List.set_cons_succ]
  refine wpAnyH_ready (rs := [2]) (by kernel_rfl) (by simp) ?_
  refine ready_store rfl rfl (.tmp 2) (.tmp 11) 24 32 rfl Tryd.sizeOf24 hb (by kernel_rfl) z32 24 (hp_dr BE.out) (hbs zh) (by kernel_rfl) (by rw [hbs_size]; simp) (hbs_one _) z32_size ?_ AllReadyH.nil
  intro w5 j5 f5
  have n5 : Nw w w5 := (NE.out.tr nb).trans f5 (fun k hk e => by have := HHB.out; omega)
  have c5 : w5.cell? ⟨0, 0, none⟩ = some (sen (a 0)) := n5.cellOf CW.out
  refine ⟨c5, fun hS0 => ?_⟩
  try simp only [Act.put, List.setIfInBounds_toArray, List.set_cons_zero, List.set_cons_succ]
  refine wpAnyH_ready (rs := [3]) (by kernel_rfl) (by simp) ?_
  refine AllReadyH.cons rfl (fun K' hK => ?_) AllReadyH.nil
  go_simp
  refine hK.out _ _ c5 (fun hS0 => ?_)
  try simp only [Act.put, List.setIfInBounds_toArray, List.set_cons_zero, List.set_cons_succ]
  refine wpAnyH_done (by kernel_rfl) ?_ _
  try go_wp2_with fail
  exact bodyPost_ret (results_cell_slot Tryd.results11 Tryd.isAgg24 Tryd.sizeOf24 rfl _ rfl j5 (by rw [hbs_size]; simp)) rfl ⟨rfl, n5⟩
set_option maxRecDepth 100000 in
set_option maxHeartbeats 1000000 in
theorem rroot_range {w : World} {b base : Nat} {v : Value} {B E : Nat} {T : List Tre} (h : Rg w b base v B E T) (hB : B ≠ 0) {B0 : Nat} {a : Nat → Addr} (hS : Sent B0 w a) :
    Calls Tryd.prog 11 #[.pointer (some ⟨b, 0, none⟩)] w fun e w' => e = .returned (.tuple #[.agg (hbs zh), sen (a 4)]) ∧ Nw w w' := by
  have HR : Hid (Rg w b base v B E T) := h
  have CW : Hid (w.cell? ⟨3, 0, none⟩ = some (sen (a 4))) := hS.c4
  have hBi : ¬ (B : Int) = 0 := by omega
  clear h hS
  go_enter Tryd.func11, Tryd.ntmps11
  go_upto_region 1 with fail
  rw [z32_h]
  obtain ⟨w0, hw0⟩ : ∃ q, w.alloc (.cells z32 24) = q := ⟨_, rfl⟩
  have n0 : Nw w w0 := by rw [← hw0]; exact nwa w _
  have b0 : w0.heap[w.heap.size]? = some (.cells z32 24) := by rw [← hw0]; exact heap_new _ _
  rw [hw0]
  clear hw0
  obtain ⟨hb, hhb⟩ : ∃ q, q = w.heap.size := ⟨_, rfl⟩
  rw [← hhb] at b0 ⊢
  have HHB : Hid (hb = w.heap.size) := hhb
  clear hhb
  have R0 := HR.out.nw n0
  have q := rthere_any b true _ _ v w0 R0.blk
  have c1 := R0.cs.2.1
  have lb := heap_lt R0.blk
  clear R0
  go_wp2_with fail
  refine q.mono ?_
  rintro e w1 ⟨rfl, rfl⟩
  have NE : Hid (Nw w w1) := n0
  have BE : Hid (w1.heap[hb]? = some (.cells z32 24)) := b0
  have CE : Hid (w1.cell? ⟨3, 0, none⟩ = some (sen (a 4))) := n0.cellOf CW.out
  clear n0 b0 q
  have KP : Hid (∀ V, Nw w1 V → V.cell? ⟨3, 0, none⟩ = some (sen (a 4))) := fun V nV => nV.cellOf CE.out
  have nb : Nw w1 w1.drew := (Fr.refl _ _).drew
  go_upto_region 4 with fail
  refine wp_region_held_drew (S := fun V => V.cell? ⟨3, 0, none⟩ = some (sen (a 4))) (by kernel_rfl) (KP.out _ nb) ?_
  intro hS0
  refine wpAnyH_take (i := 0) (v := .agg (hbs zh)) rfl (by kernel_rfl) (by kernel_rfl) (by kernel_rfl) (fun _ _ _ h => h) (yields_build rfl 24 #[] rfl #[] (by kernel_rfl) (hbs zh) build_zero) hS0 ?_
  try simp only [Act.put, List.setIfInBounds_toArray, List.set_cons_zero, List.set_cons_succ]
  refine wpAnyH_take (i := 1) (v := sen (a 4)) rfl (by kernel_rfl) (by kernel_rfl) (by kernel_rfl) (fun _ _ _ h => h) (Or.inl ⟨by rfl, by intro w hw; have hc := hw; go_simp⟩) hS0 ?_
  try simp only [Act.put, List.setIfInBounds_toArray, List.set_cons_zero, List.set_cons_succ]
  refine wpAnyH_ready (rs := [2]) (by kernel_rfl) (by simp) ?_
  refine ready_store rfl rfl (.tmp 2) (.tmp 19) 24 32 rfl Tryd.sizeOf24 hb (by kernel_rfl) z32 24 (hp_dr BE.out) (hbs zh) (by kernel_rfl) (by rw [hbs_size]; simp) (hbs_one _) z32_size ?_ AllReadyH.nil
  intro w5 j5 f5
  have n5 : Nw w w5 := (NE.out.tr nb).trans f5 (fun k hk e => by have := HHB.out; omega)
  have c5 : w5.cell? ⟨3, 0, none⟩ = some (sen (a 4)) := n5.cellOf CW.out
  refine ⟨c5, fun hS0 => ?_⟩
  try simp only [Act.put, List.setIfInBounds_toArray, List.set_cons_zero, List.set_cons_succ]
  refine wpAnyH_ready (rs := [3]) (by kernel_rfl) (by simp) ?_
  refine AllReadyH.cons rfl (fun K' hK => ?_) AllReadyH.nil
  go_simp
  refine hK.out _ _ c5 (fun hS0 => ?_)
  try simp only [Act.put, List.setIfInBounds_toArray, List.set_cons_zero, List.set_cons_succ]
  refine wpAnyH_done (by kernel_rfl) ?_ _
  try go_wp2_with fail
  exact bodyPost_ret (results_cell_slot Tryd.results11 Tryd.isAgg24 Tryd.sizeOf24 rfl _ rfl j5 (by rw [hbs_size]; simp)) rfl ⟨rfl, n5⟩
end Go.Proofs.YthbimomhbeoieaaDoor
