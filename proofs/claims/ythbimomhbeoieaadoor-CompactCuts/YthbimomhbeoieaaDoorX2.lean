/- compact: join. -/
import Derived.Test.YthbimomhbeoieaaDoorX1
namespace Go.Proofs.YthbimomhbeoieaaDoor
open Go.RowKit
set_option linter.unusedVariables false
set_option linter.unusedSimpArgs false
set_option maxRecDepth 100000 in
set_option maxHeartbeats 4000000 in
theorem join_no (a b : Tre) (ha : a.ok) (hb : b.ok) (hn : ¬ Sib a b) (w : World) :
    Calls Tryd.prog 36 #[.agg a.c, .agg b.c] w fun e w' => e = .returned (.tuple #[.agg zt.c, .bool false]) ∧ Nw w w' := by
  have HA : Hid a.ok := ha
  have HN : Hid (¬ Sib a b) := hn
  have h1 := may_bd ha.may
  have h2 := may_bd hb.may
  have h3 := ha.may.1
  have h4 := hb.may.1
  rw [p63] at h1 h2
  clear ha hb hn
  go_enter Tryd.func36, Tryd.ntmps36
  go_upto_region 1 with fail
  rw [zt_h]
  obtain ⟨w0, hw0⟩ : ∃ x, ((w.alloc (.cells a.c 68)).alloc (.cells b.c 68)).alloc (.cells zt.c 68) = x := ⟨_, rfl⟩
  obtain ⟨_, b0, b1, b2, n0⟩ := three_made (w := w) (w1 := w0) (by rw [hw0]; exact Fr.refl _ _)
  rw [hw0]
  clear hw0
  have N0 : Hid (Nw w w0) := n0
  have B0 : Hid (w0.heap[w.heap.size]? = some (.cells a.c 68)) := b0
  have B1 : Hid (w0.heap[w.heap.size + 1]? = some (.cells b.c 68)) := b1
  have B2 : Hid (w0.heap[w.heap.size + 1 + 1]? = some (.cells zt.c 68)) := b2
  have c0 := (Tre.cells b0).1
  have c1 := (Tre.cells b0).2.1
  have l0 := heap_lt b0
  clear b0 b1 b2 n0
  go_wp2_with fail
  by_cases h63 : a.L < 63
  · refine (sibling_yes a.L a.I HA.out.may h63 _).mono ?_
    rintro e w1 ⟨rfl, n1⟩
    have b1 := (n1.block _ (heap_lt B1.out) (fun f => f)).trans B1.out
    have b2 := (n1.block _ (heap_lt B2.out) (fun f => f)).trans B2.out
    have N1 : Hid (Nw w w1) := N0.out.tr n1
    have hne : ¬ (a.L = b.L ∧ sib a.I = b.I) := fun q => HN.out ⟨h63, q.1.symm, q.2.symm⟩
    have d0 := (Tre.cells b1).1
    have d1 := (Tre.cells b1).2.1
    have l1 := heap_lt b1
    have l2 := heap_lt b2
    clear c0 c1 n1 l0 N0 B0 B1 B2 b1
    have HB3 : Hid (∀ V, Nw w1 V → V.heap[w.heap.size + 1 + 1]? = some (.cells zt.c 68)) := fun V n => (n.block _ (heap_lt b2) (fun f => f)).trans b2
    clear b2
    go_wp2_with (refine wp_store_agg rfl (.tmp 4) (.tmp 24) 68 34 rfl Tryd.sizeOf68 (w.heap.size + 1 + 1) 0 rfl zt.c 68 (HB3.out _ (nwa w1 _)) zt.c (congrArg Value.agg zt_h) zt34 (Tre.one _) (Nat.le_of_eq zt34.symm) zt.c (by rw [dropAll zt34]; simp) ?_; intro w5 j5 f5 _; have n5 : Nw w w5 := (N1.out.tr (nwa w1 _)).trans f5 (fun k hk q => by omega); clear f5)
    all_goals exact bodyPost_ret (results_cell_slot Tryd.results36 Tryd.isAgg68 Tryd.sizeOf68 rfl _ rfl j5 zt34) rfl ⟨rfl, n5⟩
  · refine (sibling_no a.L a.I (fun q => h63 q.1) (by omega) (by omega) _).mono ?_
    rintro e w1 ⟨rfl, n1⟩
    have b2 := (n1.block _ (heap_lt B2.out) (fun f => f)).trans B2.out
    have N1 : Hid (Nw w w1) := N0.out.tr n1
    have l2 := heap_lt b2
    clear c0 c1 n1 l0 N0 B0 B1 B2
    have HB3 : Hid (∀ V, Nw w1 V → V.heap[w.heap.size + 1 + 1]? = some (.cells zt.c 68)) := fun V n => (n.block _ (heap_lt b2) (fun f => f)).trans b2
    clear b2
    go_wp2_with (refine wp_store_agg rfl (.tmp 4) (.tmp 24) 68 34 rfl Tryd.sizeOf68 (w.heap.size + 1 + 1) 0 rfl zt.c 68 (HB3.out _ (nwa w1 _)) zt.c (congrArg Value.agg zt_h) zt34 (Tre.one _) (Nat.le_of_eq zt34.symm) zt.c (by rw [dropAll zt34]; simp) ?_; intro w5 j5 f5 _; have n5 : Nw w w5 := (N1.out.tr (nwa w1 _)).trans f5 (fun k hk q => by omega); clear f5)
    all_goals exact bodyPost_ret (results_cell_slot Tryd.results36 Tryd.isAgg68 Tryd.sizeOf68 rfl _ rfl j5 zt34) rfl ⟨rfl, n5⟩
set_option maxRecDepth 100000 in
set_option maxHeartbeats 4000000 in
theorem join_yes (a b : Tre) (ha : a.ok) (hb : b.ok) (hs : Sib a b) (w : World) (hL : Laid w) :
    Calls Tryd.prog 36 #[.agg a.c, .agg b.c] w fun e w' => e = .returned (.tuple #[.agg (both a b).c, .bool true]) ∧ Nw w w' := by
  have HA : Hid a.ok := ha
  have HB : Hid b.ok := hb
  have HL : Hid (Laid w) := hL
  have h1 := may_bd ha.may
  have h63 := hs.1
  have e1 := hs.2.1
  have e2 := hs.2.2
  rw [p63] at h1
  clear ha hb hL hs
  go_enter Tryd.func36, Tryd.ntmps36
  go_upto_region 1 with fail
  rw [zt_h]
  obtain ⟨w0, hw0⟩ : ∃ x, ((w.alloc (.cells a.c 68)).alloc (.cells b.c 68)).alloc (.cells zt.c 68) = x := ⟨_, rfl⟩
  obtain ⟨_, b0, b1, b2, n0⟩ := three_made (w := w) (w1 := w0) (by rw [hw0]; exact Fr.refl _ _)
  rw [hw0]
  clear hw0
  have N0 : Hid (Nw w w0) := n0
  have BB : Hid (∀ V, Nw w0 V → V.heap[w.heap.size]? = some (.cells a.c 68) ∧ V.heap[w.heap.size + 1]? = some (.cells b.c 68) ∧ V.heap[w.heap.size + 1 + 1]? = some (.cells zt.c 68)) := fun V n => ⟨(n.block _ (heap_lt b0) (fun f => f)).trans b0, (n.block _ (heap_lt b1) (fun f => f)).trans b1, (n.block _ (heap_lt b2) (fun f => f)).trans b2⟩
  have c0 := (Tre.cells b0).1
  have c1 := (Tre.cells b0).2.1
  have l0 := heap_lt b0
  clear b0 b1 b2 n0
  go_wp2_with fail
  refine (sibling_yes a.L a.I HA.out.may h63 _).mono ?_
  rintro e w1 ⟨rfl, n1⟩
  obtain ⟨b0, b1, b2⟩ := BB.out _ n1
  have N1 : Hid (Nw w0 w1) := n1
  have c0 := (Tre.cells b0).1
  have c1 := (Tre.cells b0).2.1
  have d0 := (Tre.cells b1).1
  have d1 := (Tre.cells b1).2.1
  rw [e1] at d0
  rw [e2] at d1
  have l0 := heap_lt b0
  have l1 := heap_lt b1
  clear n1 b0 b1 b2
  go_wp2_with fail
  obtain ⟨L1, hL1⟩ : ∃ x, x = a.L + 1 := ⟨_, rfl⟩
  obtain ⟨I1, hI1⟩ : ∃ x, x = a.I / 2 := ⟨_, rfl⟩
  obtain ⟨X, hX⟩ : ∃ x, x = nod a.H b.H := ⟨_, rfl⟩
  have X32 : X.length = 32 := by rw [hX]; exact nod_len _ _
  have HBO : Hid (both a b = ⟨L1, I1, X⟩) := by show both a b = _; rw [hL1, hI1, hX]; rfl
  have HX : Hid (X = nod a.H b.H) := hX
  have QP := parent_yes a.L a.I HA.out.may h63 (w1.alloc (.cells #[.int .u8 (a.L : Int), .int .u64 ((sib a.I : Nat) : Int)] 52))
  rw [← hL1, ← hI1] at QP
  clear hL1 hI1 hX
  refine QP.mono ?_
  rintro e w2 ⟨rfl, n2⟩
  have N2 : Hid (Nw w0 w2) := N1.out.tr ((nwa w1 _).tr n2)
  clear c0 c1 d0 d1 l0 l1 n2 N1
  go_upto_region 5 with fail
  obtain ⟨w3, hw3⟩ : ∃ x, w2.alloc (.cells #[.int .u8 (L1 : Int), .int .u64 (I1 : Int)] 52) = x := ⟨_, rfl⟩
  have g3 : w3.heap[w2.heap.size]? = some (.cells #[.int .u8 (L1 : Int), .int .u64 (I1 : Int)] 52) := by rw [← hw3]; exact heap_new _ _
  have n3 : Nw w2 w3 := by rw [← hw3]; exact nwa w2 _
  rw [hw3]
  obtain ⟨cb, hcb⟩ : ∃ x, x = w2.heap.size := ⟨_, rfl⟩
  rw [← hcb] at g3 ⊢
  have N3 : Hid (Nw w0 w3) := N2.out.tr n3
  have KP : Hid (∀ V, Nw w3 V → V.heap[w.heap.size]? = some (.cells a.c 68) ∧ V.heap[w.heap.size + 1]? = some (.cells b.c 68) ∧ V.heap[cb]? = some (.cells #[.int .u8 (L1 : Int), .int .u64 (I1 : Int)] 52)) := fun V n => ⟨(BB.out _ (N3.out.tr n)).1, (BB.out _ (N3.out.tr n)).2.1, (n.block _ (heap_lt g3) (fun f => f)).trans g3⟩
  have BZ : Hid (∀ V, Nw w3 V → V.heap[w.heap.size + 1 + 1]? = some (.cells zt.c 68)) := fun V n => (BB.out _ (N3.out.tr n)).2.2
  have QN : Hid (∀ V, Nw w3 V → Calls Tryd.prog 29 #[.agg (hbs a.H), .agg (hbs b.H)] V fun e w' => e = .returned (.agg (hbs X)) ∧ Nw V w') := fun V n => by rw [HX.out]; exact node_any a.H b.H HA.out.h32 HB.out.h32 V (HL.out.nw ((N0.out.tr N3.out).tr n))
  have hc34 : (Tre.mk L1 I1 X).c.size = 34 := Tre.size X32
  have HCB : Hid (w.heap.size + 1 + 1 < cb) := by
    have q1 := heap_lt (BB.out _ N2.out).2.2
    show w.heap.size + 1 + 1 < cb
    omega
  clear n3 g3 hw3 N2 QP hcb
  have nb : Nw w3 w3.drew := (Fr.refl _ _).drew
  refine wp_region_held_drew (S := fun V => V.heap[w.heap.size]? = some (.cells a.c 68) ∧ V.heap[w.heap.size + 1]? = some (.cells b.c 68) ∧ V.heap[cb]? = some (.cells #[.int .u8 (L1 : Int), .int .u64 (I1 : Int)] 52)) (by kernel_rfl) (KP.out _ nb) ?_
  intro hS0
  refine wpAnyH_take (i := 0) (v := .agg #[.int .u8 (L1 : Int), .int .u64 (I1 : Int)]) rfl (by kernel_rfl) (by kernel_rfl) (by kernel_rfl) (fun _ _ _ h => h) (Or.inl ⟨by rfl, by intro w hw; have q0 := cell2a hw.2.2; have q1 := cell2b hw.2.2; have q2 := heap_lt hw.2.2; go_simp⟩) hS0 ?_
  try simp only [Act.put, List.setIfInBounds_toArray, List.set_cons_zero, List.set_cons_succ]
  refine wpAnyH_take (i := 1) (v := .pointer (some ⟨w.heap.size, 2, none⟩)) rfl (by kernel_rfl) (by kernel_rfl) (by kernel_rfl) (fun _ _ _ h => h) (Or.inl ⟨by rfl, by intro w hw; go_simp⟩) hS0 ?_
  try simp only [Act.put, List.setIfInBounds_toArray, List.set_cons_zero, List.set_cons_succ]
  refine wpAnyH_take (i := 2) (v := .agg (hbs a.H)) rfl (by kernel_rfl) (by kernel_rfl) (by kernel_rfl) (fun _ _ _ h => h) (yields_load_at rfl (.tmp 32) 24 32 rfl Tryd.isAgg24 Tryd.sizeOf24 w.heap.size 2 rfl (hbs a.H) (by rw [hbs_size, HA.out.h32]) (fun V hV => (Tre.cells hV.1).2.2)) hS0 ?_
  try simp only [Act.put, List.setIfInBounds_toArray, List.set_cons_zero, List.set_cons_succ]
  refine wpAnyH_take (i := 3) (v := .pointer (some ⟨w.heap.size + 1, 2, none⟩)) rfl (by kernel_rfl) (by kernel_rfl) (by kernel_rfl) (fun _ _ _ h => h) (Or.inl ⟨by rfl, by intro w hw; go_simp⟩) hS0 ?_
  try simp only [Act.put, List.setIfInBounds_toArray, List.set_cons_zero, List.set_cons_succ]
  refine wpAnyH_take (i := 4) (v := .agg (hbs b.H)) rfl (by kernel_rfl) (by kernel_rfl) (by kernel_rfl) (fun _ _ _ h => h) (yields_load_at rfl (.tmp 34) 24 32 rfl Tryd.isAgg24 Tryd.sizeOf24 (w.heap.size + 1) 2 rfl (hbs b.H) (by rw [hbs_size, HB.out.h32]) (fun V hV => (Tre.cells hV.2.1).2.2)) hS0 ?_
  try simp only [Act.put, List.setIfInBounds_toArray, List.set_cons_zero, List.set_cons_succ]
  refine wpAnyH_take (i := 7) (v := .bool true) rfl (by kernel_rfl) (by kernel_rfl) (by kernel_rfl) (fun _ _ _ h => h) (Or.inl ⟨by rfl, by intro w hw; go_simp⟩) hS0 ?_
  try simp only [Act.put, List.setIfInBounds_toArray, List.set_cons_zero, List.set_cons_succ]
  refine wpAnyH_ready (rs := [5]) (by kernel_rfl) (by simp) ?_
  refine AllReadyH.cons rfl (fun K' hK => ?_) AllReadyH.nil
  go_simp
  go_wp2_with (go_at_call 29; refine (QN.out _ nb).mono ?_; rintro e4 w4 ⟨rfl, m4⟩)
  have n4 : Nw w3 w4 := nb.tr m4
  refine hK.out _ _ (KP.out _ (n4)) (fun hS0 => ?_)
  try simp only [Act.put, List.setIfInBounds_toArray, List.set_cons_zero, List.set_cons_succ]
  refine wpAnyH_take (i := 6) (v := .agg (Tre.mk L1 I1 X).c) rfl (by kernel_rfl) (by kernel_rfl) (by kernel_rfl) (fun _ _ _ h => h) (yields_build rfl 68 #[(0, .tmp 31), (1, .tmp 36)] rfl #[(0, .agg #[.int .u8 (L1 : Int), .int .u64 (I1 : Int)]), (1, .agg (hbs X))] (by kernel_rfl) _ (fun W => built_t ⟨L1, I1, X⟩ X32 W)) hS0 ?_
  try simp only [Act.put, List.setIfInBounds_toArray, List.set_cons_zero, List.set_cons_succ]
  refine wpAnyH_ready (rs := [8]) (by kernel_rfl) (by simp) ?_
  refine AllReadyH.cons rfl (fun K' hK => ?_) AllReadyH.nil
  refine step_store_agg rfl (.tmp 4) (.tmp 37) 68 34 rfl Tryd.sizeOf68 (w.heap.size + 1 + 1) 0 rfl zt.c 68 (BZ.out _ n4) (Tre.mk L1 I1 X).c rfl hc34 (Tre.one _) (Nat.le_of_eq zt34.symm) (Tre.mk L1 I1 X).c (by rw [dropAll zt34]; simp) ?_
  intro w5 j5 f5 z5
  have hcb := HCB.out
  have n5 : Nw w w5 := ((N0.out.tr N3.out).tr n4).trans f5 (fun k hk q => by omega)
  have k5 := KP.out _ n4
  refine hK.out _ _ ⟨(f5.block _ (heap_lt k5.1) (fun q => by omega)).trans k5.1, (f5.block _ (heap_lt k5.2.1) (fun q => by omega)).trans k5.2.1, (f5.block _ (heap_lt k5.2.2) (fun q => by omega)).trans k5.2.2⟩ (fun hS0 => ?_)
  try simp only [Act.put, List.setIfInBounds_toArray, List.set_cons_zero, List.set_cons_succ]
  refine wpAnyH_ready (rs := [9]) (by kernel_rfl) (by simp) ?_
  refine AllReadyH.cons rfl (fun K' hK => ?_) AllReadyH.nil
  go_simp
  refine hK.out _ _ hS0 (fun hS0 => ?_)
  try simp only [Act.put, List.setIfInBounds_toArray, List.set_cons_zero, List.set_cons_succ]
  refine wpAnyH_done (by kernel_rfl) ?_ _
  try go_wp2_with fail
  exact bodyPost_ret (results_cell_slot Tryd.results36 Tryd.isAgg68 Tryd.sizeOf68 rfl _ rfl j5 hc34) rfl ⟨by rw [HBO.out]; rfl, n5⟩
end Go.Proofs.YthbimomhbeoieaaDoor
