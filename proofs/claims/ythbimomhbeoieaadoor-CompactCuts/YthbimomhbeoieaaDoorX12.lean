/- compact: Copy. -/
import Derived.Test.YthbimomhbeoieaaDoorX11
namespace Go.Proofs.YthbimomhbeoieaaDoor
open Go.RowKit
set_option linter.unusedVariables false
set_option linter.unusedSimpArgs false
set_option maxRecDepth 100000 in
set_option maxHeartbeats 1000000 in
theorem rcopy_yes {w : World} {b base : Nat} {v : Value} {B E : Nat} {T : List Tre} (h : Rg w b base v B E T) (hl : T.length ≤ 1000000) (hL : Laid w) :
    Calls Tryd.prog 12 #[.pointer (some ⟨b, 0, none⟩)] w fun e w' => ∃ b' v', e = .returned (.pointer (some ⟨b', 0, none⟩)) ∧ w.heap.size ≤ b' ∧ Rg w' b' w.heap.size v' B E T ∧ Nw w w' := by
  obtain ⟨va, vc, rfl⟩ := ownsRow_form h.own
  have HR : Hid (Rg w b base (.slice va T.length vc) B E T) := h
  have NBW : Hid (20 ≤ w.heap.size) := hL.lt
  have q := rthere_any b true _ _ _ w h.blk
  obtain ⟨n, hn⟩ : ∃ n, n = T.length := ⟨_, rfl⟩
  have HN : Hid (n = T.length) := hn
  have QC : Hid (∀ V, Nw w V → Calls Tryd.prog 30 #[.slice va n vc] V fun e w' => ∃ v', e = .returned v' ∧ w'.ownsRow V.heap.size 68 34 v' T.length (tsc T) ∧ Nw V w') := fun V nV => by rw [HN.out]; exact tclone_any (HR.out.nw nV) hl
  have KP : Hid (∀ V, Nw w V → V.cell? ⟨b, 1, none⟩ = some (.int .u64 (B : Int)) ∧ V.cell? ⟨b, 2, none⟩ = some (.int .u64 (E : Int)) ∧ V.cell? ⟨b, 3, none⟩ = some (.slice va n vc)) := fun V nV => by rw [HN.out]; exact ⟨(HR.out.nw nV).cs.2.1, (HR.out.nw nV).cs.2.2.1, (HR.out.nw nV).cs.2.2.2⟩
  have lb := heap_lt h.blk
  clear h hl hn hL
  go_enter Tryd.func12, Tryd.ntmps12
  go_wp2_with fail
  refine q.mono ?_
  rintro e w1 ⟨rfl, rfl⟩
  clear q
  have nb : Nw w1 w1.drew := (Fr.refl _ _).drew
  go_upto_region 3 with fail
  refine wp_region_held_drew (S := fun V => V.cell? ⟨b, 1, none⟩ = some (.int .u64 (B : Int)) ∧ V.cell? ⟨b, 2, none⟩ = some (.int .u64 (E : Int)) ∧ V.cell? ⟨b, 3, none⟩ = some (.slice va n vc)) (by kernel_rfl) (KP.out _ nb) ?_
  intro hS0
  refine wpAnyH_take (i := 0) (v := .pointer (some ⟨b, 0, none⟩)) rfl (by kernel_rfl) (by kernel_rfl) (by kernel_rfl) (fun _ _ _ h => h) (Or.inl ⟨by rfl, by intro w hw; go_simp⟩) hS0 ?_
  try simp only [Act.put, List.setIfInBounds_toArray, List.set_cons_zero, List.set_cons_succ]
  refine wpAnyH_take (i := 1) (v := .pointer (some ⟨b, 0, none⟩)) rfl (by kernel_rfl) (by kernel_rfl) (by kernel_rfl) (fun _ _ _ h => h) (Or.inl ⟨by rfl, by intro w hw; go_simp⟩) hS0 ?_
  try simp only [Act.put, List.setIfInBounds_toArray, List.set_cons_zero, List.set_cons_succ]
  refine wpAnyH_take (i := 2) (v := .pointer (some ⟨b, 1, none⟩)) rfl (by kernel_rfl) (by kernel_rfl) (by kernel_rfl) (fun _ _ _ h => h) (Or.inl ⟨by rfl, by intro w hw; go_simp⟩) hS0 ?_
  try simp only [Act.put, List.setIfInBounds_toArray, List.set_cons_zero, List.set_cons_succ]
  refine wpAnyH_take (i := 3) (v := .agg #[.int .u64 (B : Int), .int .u64 (E : Int)]) rfl (by kernel_rfl) (by kernel_rfl) (by kernel_rfl) (fun _ _ _ h => h) (Or.inl ⟨by rfl, by intro w hw; have h1 := hw.1; have h2 := hw.2.1; go_simp⟩) hS0 ?_
  try simp only [Act.put, List.setIfInBounds_toArray, List.set_cons_zero, List.set_cons_succ]
  refine wpAnyH_take (i := 4) (v := .pointer (some ⟨b, 0, none⟩)) rfl (by kernel_rfl) (by kernel_rfl) (by kernel_rfl) (fun _ _ _ h => h) (Or.inl ⟨by rfl, by intro w hw; go_simp⟩) hS0 ?_
  try simp only [Act.put, List.setIfInBounds_toArray, List.set_cons_zero, List.set_cons_succ]
  refine wpAnyH_take (i := 5) (v := .pointer (some ⟨b, 0, none⟩)) rfl (by kernel_rfl) (by kernel_rfl) (by kernel_rfl) (fun _ _ _ h => h) (Or.inl ⟨by rfl, by intro w hw; go_simp⟩) hS0 ?_
  try simp only [Act.put, List.setIfInBounds_toArray, List.set_cons_zero, List.set_cons_succ]
  refine wpAnyH_take (i := 6) (v := .pointer (some ⟨b, 3, none⟩)) rfl (by kernel_rfl) (by kernel_rfl) (by kernel_rfl) (fun _ _ _ h => h) (Or.inl ⟨by rfl, by intro w hw; go_simp⟩) hS0 ?_
  try simp only [Act.put, List.setIfInBounds_toArray, List.set_cons_zero, List.set_cons_succ]
  refine wpAnyH_take (i := 7) (v := .slice va n vc) rfl (by kernel_rfl) (by kernel_rfl) (by kernel_rfl) (fun _ _ _ h => h) (Or.inl ⟨by rfl, by intro w hw; have h3 := hw.2.2; go_simp⟩) hS0 ?_
  try simp only [Act.put, List.setIfInBounds_toArray, List.set_cons_zero, List.set_cons_succ]
  refine wpAnyH_ready (rs := [8]) (by kernel_rfl) (by simp) ?_
  refine AllReadyH.cons rfl (fun K' hK => ?_) AllReadyH.nil
  go_simp
  go_wp2_with (go_at_call 30; refine (QC.out _ nb).mono ?_; rintro e4 w4 ⟨v', rfl, o4, m4⟩)
  obtain ⟨xa, xc, rfl⟩ := ownsRow_form o4
  have n4 : Nw w1 w4 := nb.tr m4
  refine hK.out _ _ (KP.out _ (n4)) (fun hS0 => ?_)
  try simp only [Act.put, List.setIfInBounds_toArray, List.set_cons_zero, List.set_cons_succ]
  refine wpAnyH_take (i := 9) (v := .agg #[.bool true, .int .u64 (B : Int), .int .u64 (E : Int), .slice xa T.length xc]) rfl (by kernel_rfl) (by kernel_rfl) (by kernel_rfl) (fun _ _ _ h => h) (Or.inl ⟨by rfl, by intro w hw; go_simp⟩) hS0 ?_
  try simp only [Act.put, List.setIfInBounds_toArray, List.set_cons_zero, List.set_cons_succ]
  refine wpAnyH_ready (rs := [10]) (by kernel_rfl) (by simp) ?_
  refine AllReadyH.cons rfl (fun K' hK => ?_) AllReadyH.nil
  go_simp
  have n5 : Nw w1 (w4.alloc (.cells #[.bool true, .int .u64 (B : Int), .int .u64 (E : Int), .slice xa T.length xc] 30)) := n4.tr (nwa _ _)
  refine hK.out _ _ (KP.out _ (n5)) (fun hS0 => ?_)
  try simp only [Act.put, List.setIfInBounds_toArray, List.set_cons_zero, List.set_cons_succ]
  refine wpAnyH_ready (rs := [11]) (by kernel_rfl) (by simp) ?_
  refine AllReadyH.cons rfl (fun K' hK => ?_) AllReadyH.nil
  go_simp
  refine hK.out _ _ (KP.out _ (n5)) (fun hS0 => ?_)
  try simp only [Act.put, List.setIfInBounds_toArray, List.set_cons_zero, List.set_cons_succ]
  refine wpAnyH_done (by kernel_rfl) ?_ _
  try go_wp2_with fail
  go_ret
  have hz := n4.size
  refine ⟨w4.heap.size, .slice xa T.length xc, rfl, hz, ⟨heap_new _ _, ?_, ?_, HR.out.ok, ?_, ?_⟩, n5⟩
  · exact (own_mono o4 (Nat.le_of_eq rfl)).alloc _
  · simp; omega
  · have := NBW.out; exact ⟨by omega, by omega⟩
  · intro g hg e
    have := (o4.lt g hg).2
    omega
end Go.Proofs.YthbimomhbeoieaaDoor
