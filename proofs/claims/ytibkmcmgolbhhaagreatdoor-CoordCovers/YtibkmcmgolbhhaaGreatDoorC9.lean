/- What the statements look at first: some trees of the document's. -/
import Derived.Test.YtibkmcmgolbhhaaGreatDoorC5
import Derived.Test.YtibkmcmgolbhhaaGreatDoorC6
import Derived.Test.YtibkmcmgolbhhaaGreatDoorC8
namespace Go.Proofs.YtibkmcmgolbhhaaGreatDoor
open Go.RowKit
set_option linter.unusedVariables false
set_option linter.unusedSimpArgs false

theorem lit_span (w : World) : Calls Tryz.prog 66 #[.agg #[.int .u8 3, .int .u64 1]] w fun e w' => e = .returned (.tuple #[.agg #[.int .u64 8, .int .u64 16], .bool true]) ∧ Nw w w' :=
  span_yes 3 1 (by unfold may; decide) w
theorem lit_of (w : World) (hT : TabAt w) : Calls Tryz.prog 67 #[.agg #[.int .u64 8, .int .u64 16]] w fun e w' => e = .returned (.tuple #[.agg #[.int .u8 3, .int .u64 1], .bool true]) ∧ Nw w w' :=
  of_yes 3 1 (by unfold may; decide) w hT
theorem cov05 : cov 0 5 = [(2, 0), (0, 4)] := by
  have a : IsW 0 5 2 := ⟨⟨by decide, by decide⟩, fun h => by have := h.2; simp at this⟩
  have b : IsW 4 5 0 := ⟨⟨by decide, by decide⟩, fun h => by have := h.2; simp at this⟩
  rw [cov_step a]
  show _ :: cov 4 5 = _
  rw [cov_step b]
  show _ :: _ :: cov 5 5 = _
  rw [cov_nil (by omega)]
theorem lit_cover (w : World) (hT : TabAt w) : Calls Tryz.prog 5 #[.agg #[.int .u64 0, .int .u64 5]] w fun e w' => ∃ v, e = .returned (.tuple #[v, .nilIface]) ∧ Crd w' v [(2, 0), (0, 4)] ∧ Nw w w' := by
  have q := cover_yes 0 5 (by omega) (by omega) w hT
  rw [cov05] at q
  refine q.mono ?_
  rintro e w' ⟨v, rfl, ho, n⟩
  exact ⟨v, rfl, Crd.of ho, n⟩
theorem isC03 : IsC 0 0 0 3 2 := by
  refine ⟨by decide, by decide, by decide, fun k _ _ h => ?_⟩
  have : k = 0 ∨ k = 1 := by omega
  rcases this with rfl | rfl <;> decide
theorem lit_common (w : World) : Calls Tryz.prog 68 #[.agg #[.int .u8 0, .int .u64 0], .agg #[.int .u8 0, .int .u64 3]] w fun e w' => e = .returned (.tuple #[.agg #[.int .u8 2, .int .u64 0], .bool true]) ∧ Nw w w' :=
  common_yes 0 0 0 3 2 (by unfold may; decide) (by unfold may; decide) isC03 w
theorem lit_cmp (w : World) : Calls Tryz.prog 69 #[.agg #[.int .u8 1, .int .u64 0], .agg #[.int .u8 0, .int .u64 0]] w fun e w' => e = .returned (.int .i64 (-1)) ∧ Nw w w' := by
  have q := cmp_any 1 0 0 0 (by omega) (by omega) (by omega) (by omega) w
  have e : cmpT 1 0 0 0 = -1 := by decide
  rw [e] at q
  exact q
theorem crd_lit (w : World) : Crd (w.alloc (.cells #[.int .u8 2, .int .u64 0, .int .u8 0, .int .u64 4] 59)) (.slice (some ⟨w.heap.size, 0, none⟩) 2 2) [(2, 0), (0, 4)] := by
  refine ⟨_, _, rfl, fun k t h => ⟨w.heap.size, 0, rfl, by simp, ?_⟩⟩
  match k, h with
  | 0, h => injection h with h; subst h; exact ⟨(cell_of (heap_new w _) _).trans rfl, (cell_of (heap_new w _) _).trans rfl⟩
  | 1, h => injection h with h; subst h; exact ⟨(cell_of (heap_new w _) _).trans rfl, (cell_of (heap_new w _) _).trans rfl⟩

set_option maxRecDepth 100000 in
set_option maxHeartbeats 4000000 in
theorem alive_any (w : World) (hT : TabAt w) : Calls Tryz.prog 10 #[] w fun e w' => e = .returned (.bool true) ∧ Nw w w' := by
  have HT : Hid (TabAt w) := hT
  clear hT
  go_enter Tryz.func10, Tryz.ntmps10
  go_wp2_with fail
  refine (lit_span _).mono ?_
  rintro e w1 ⟨rfl, n1⟩
  go_wp2_with fail
  have n1' : Nw w (w1.alloc (.cells #[.int .u64 8, .int .u64 16] 24)) := n1.alloc _
  refine (lit_of _ (HT.out.nw n1')).mono ?_
  rintro e w2 ⟨rfl, n2⟩
  obtain ⟨l1, b1, n3⟩ := one_made n2
  have n4 : Nw w w2 := n1.tr n3
  clear n1' n1 n2 n3
  go_wp2_with fail
  have n4' : Nw w (w2.alloc (.cells #[.int .u8 3, .int .u64 1] 59)) := n4.alloc _
  refine (lit_cover _ (HT.out.nw n4')).mono ?_
  rintro e w3 ⟨v, rfl, hv, n5⟩
  obtain ⟨l2, b2, n6⟩ := one_made n5
  have b1' := (n6.block _ l1 (fun f => f)).trans b1
  have l1' := Nat.lt_of_lt_of_le l1 n6.size
  have n7 : Nw w w3 := n4.tr n6
  clear n4' n4 n5 n6 b1
  go_wp2_with fail
  refine (lit_common _).mono ?_
  rintro e w4 ⟨rfl, n8⟩
  have b1'' := (n8.block _ l1' (fun f => f)).trans b1'
  have b2' := (n8.block _ l2 (fun f => f)).trans b2
  have hv' := hv.nw n8
  have n9 : Nw w w4 := n7.tr n8
  have l1'' := Nat.lt_of_lt_of_le l1' n8.size
  have l2' := Nat.lt_of_lt_of_le l2 n8.size
  clear n7 n8 b1' b2 hv l1' l2
  have c0 := cell2a b1''
  have c1 := cell2b b1''
  have d0 := cell2a b2'
  have d1 := cell2b b2'
  have HV : Hid (Crd w4 v [(2, 0), (0, 4)]) := hv'
  clear hv'
  go_wp2_with fail
  have hc := crd_lit (w4.alloc (.cells #[.int .u8 2, .int .u64 0] 59))
  rw [World.size_alloc] at hc
  refine (same_yes _ _ [(2, 0), (0, 4)] _ (HV.out.nw ((nwa w4 _).alloc _)) hc (by simp)).mono ?_
  rintro e w5 ⟨rfl, n10⟩
  obtain ⟨⟨l3, l4⟩, b3, _, n11⟩ := two_made n10
  have n12 : Nw w w5 := n9.tr n11
  clear hc n10 n11 n9 c0 c1 d0 d1 b1'' b2' l1'' l2'
  have g0 := cell2a b3
  have g1 := cell2b b3
  go_wp2_with fail
  refine (lit_cmp _).mono ?_
  rintro e w6 ⟨rfl, n13⟩
  have n14 : Nw w w6 := n12.tr n13
  clear n13 n12 g0 g1 b3
  go_wp2
  go_ret
  exact ⟨rfl, n14⟩
end Go.Proofs.YtibkmcmgolbhhaaGreatDoor
