/- lives. -/
import Derived.Test.YtambfmohhflimabDoorH3
namespace Go.Proofs.YtambfmohhflimabDoor
open Go.RowKit
set_option linter.unusedVariables false
set_option linter.unusedSimpArgs false

theorem em_0 : (Sh []).getD 0 0 = 227 := by decide +kernel
theorem em_1 : (Sh []).getD 1 0 = 176 := by decide +kernel
theorem em_30 : (Sh []).getD 30 0 = 184 := by decide +kernel
theorem em_31 : (Sh []).getD 31 0 = 85 := by decide +kernel
theorem lf_0 : (Sh [0]).getD 0 0 = 110 := by decide +kernel
theorem lf_1 : (Sh [0]).getD 1 0 = 52 := by decide +kernel
theorem lf_30 : (Sh [0]).getD 30 0 = 160 := by decide +kernel
theorem lf_31 : (Sh [0]).getD 31 0 = 29 := by decide +kernel

set_option maxRecDepth 100000 in
set_option maxHeartbeats 1000000 in
theorem lives_any (w : World) (hL : Laid w) {B : Nat} {a : Nat → Addr} (hS : Sent B w a) :
    Calls Tryd.prog 8 #[] w fun e w' => e = .returned (.bool true) ∧ Nw w w' := by
  have HL : Hid (Laid w) := hL
  have HS : Hid (Sent B w a) := hS
  clear hL hS
  go_enter Tryd.func8, Tryd.ntmps8
  go_wp2_with fail
  refine (empty_any w HL.out).mono ?_
  rintro e1 w1 ⟨rfl, n1⟩
  obtain ⟨E, hE⟩ : ∃ E, E = Sh [] := ⟨_, rfl⟩
  rw [← hE]
  have t0 : E.getD 0 0 = 227 := by rw [hE]; exact em_0
  have t1 : E.getD 1 0 = 176 := by rw [hE]; exact em_1
  have t30 : E.getD 30 0 = 184 := by rw [hE]; exact em_30
  have t31 : E.getD 31 0 = 85 := by rw [hE]; exact em_31
  have hEl : E.length = 32 := by rw [hE]; exact Sh_len _
  have hEs : (hbs E).size = 32 := by rw [hbs_size, hEl]
  clear hE
  go_wp2_with (refine wp_store_agg rfl (.tmp 1) (.tmp 5) 23 32 rfl Tryd.sizeOf23 w1.heap.size 0 rfl _ 23 (heap_new _ _) (hbs E) rfl hEs (hbs_one _) (by decide) (hbs E) (by simp) ?_; intro w2 j2 f2 z2; have n2 : Nw w w2 := (n1.alloc _).trans f2 (fun k hk q => by have := n1.size; omega); clear z2 f2)
  have q3 := leaf_any ⟨#[]⟩ w2 (HL.out.nw n2) (by decide)
  refine q3.mono ?_
  rintro e3 w3 ⟨rfl, n3⟩
  have j3 := (n3.block _ (heap_lt j2) (fun f => f)).trans j2
  have hb1 : w1.heap.size < w3.heap.size := heap_lt j3
  have n3' : Nw w w3 := n2.tr n3
  clear q3 n3 n2 j2
  obtain ⟨b, hb⟩ : ∃ b, b = w1.heap.size := ⟨_, rfl⟩
  rw [← hb] at j3 hb1 ⊢
  have hwb : w.heap.size ≤ b := by rw [hb]; exact n1.size
  clear hb n1
  obtain ⟨F, hF⟩ : ∃ F, F = Sh [0] := ⟨_, rfl⟩
  have e0 : Sh (0 :: (⟨#[]⟩ : ByteArray).data.toList) = F := hF.symm
  rw [e0]
  have u0 : F.getD 0 0 = 110 := by rw [hF]; exact lf_0
  have u1 : F.getD 1 0 = 52 := by rw [hF]; exact lf_1
  have u30 : F.getD 30 0 = 160 := by rw [hF]; exact lf_30
  have u31 : F.getD 31 0 = 29 := by rw [hF]; exact lf_31
  have hFl : F.length = 32 := by rw [hF]; exact Sh_len _
  have hFs : (hbs F).size = 32 := by rw [hbs_size, hFl]
  clear hF e0
  go_wp2_with first
    | (refine wp_store_agg rfl (.tmp 2) (.tmp 6) 23 32 rfl Tryd.sizeOf23 w3.heap.size 0 rfl _ 23 (heap_new _ _) (hbs F) rfl hFs (hbs_one _) (by decide) (hbs F) (by simp) ?_; intro w4 j4 f4 z4; have n4 : Nw w w4 := (n3'.alloc _).trans f4 (fun k hk q => by have := n3'.size; omega); have i4 := (f4.block b (by simp; omega) (by omega)).trans ((Below.heap_alloc _ _ _ hb1).trans j3); clear z4 f4)
    | (refine wp_load_agg rfl (.tmp 1) 23 32 rfl Tryd.isAgg23 Tryd.sizeOf23 b 0 rfl (hbs E) 23 (0, 0) i4 (hbs E) hEs (fun j _ => by rw [Nat.zero_add]) ?_)
  have hb4 : w3.heap.size < w4.heap.size := heap_lt j4
  have q5 := chain_out (hbs E) hEs 256 (.inr (by decide)) w4 (HS.out.fr n4 (fun _ _ f => f))
  refine q5.mono ?_
  rintro e5 w5 ⟨rfl, n5⟩
  have j5 := (n5.block _ (heap_lt j4) (fun f => f)).trans j4
  have i5 := (n5.block _ (heap_lt i4) (fun f => f)).trans i4
  have n5' : Nw w w5 := n4.tr n5
  have h35 : w3.heap.size < w5.heap.size := heap_lt j5
  clear q5 n5 n4 j4 i4 j3 hb4
  obtain ⟨c, hc⟩ : ∃ c, c = w3.heap.size := ⟨_, rfl⟩
  rw [← hc] at j5 hb1 h35 ⊢
  have hwc : w.heap.size ≤ c := by rw [hc]; exact n3'.size
  clear hc n3'
  rw [← z32_hbs]
  have hz32 : z32.size = 32 := by simp [z32]
  have hz1 : ∀ u ∈ z32.toList, u.oneCell' = true := by rw [z32_hbs]; exact hbs_one _
  go_wp2_with (refine wp_store_agg rfl (.tmp 3) (.tmp 10) 23 32 rfl Tryd.sizeOf23 w5.heap.size 0 rfl _ 23 (heap_new _ _) z32 rfl hz32 hz1 (by decide) z32 (by simp) ?_; intro w6 j6 f6 z6; have n6 : Nw w w6 := (n5'.alloc _).trans f6 (fun k hk q => by have := n5'.size; omega); have i6 := (f6.block b (by simp; omega) (by omega)).trans ((Below.heap_alloc _ _ _ (heap_lt i5)).trans i5); have k6 := (f6.block c (by simp; omega) (by omega)).trans ((Below.heap_alloc _ _ _ (heap_lt j5)).trans j5); clear z6 f6; have x0 : w6.cell? ⟨b, 0, none⟩ = some (.int .u8 227) := (cell_of i6 0).trans (by rw [hbs_get E 0 (by omega), t0]; rfl); have x1 : w6.cell? ⟨b, 1, none⟩ = some (.int .u8 176) := (cell_of i6 1).trans (by rw [hbs_get E 1 (by omega), t1]; rfl); have x30 : w6.cell? ⟨b, 30, none⟩ = some (.int .u8 184) := (cell_of i6 30).trans (by rw [hbs_get E 30 (by omega), t30]; rfl); have x31 : w6.cell? ⟨b, 31, none⟩ = some (.int .u8 85) := (cell_of i6 31).trans (by rw [hbs_get E 31 (by omega), t31]; rfl); have y0 : w6.cell? ⟨c, 0, none⟩ = some (.int .u8 110) := (cell_of k6 0).trans (by rw [hbs_get F 0 (by omega), u0]; rfl); have y1 : w6.cell? ⟨c, 1, none⟩ = some (.int .u8 52) := (cell_of k6 1).trans (by rw [hbs_get F 1 (by omega), u1]; rfl); have y30 : w6.cell? ⟨c, 30, none⟩ = some (.int .u8 160) := (cell_of k6 30).trans (by rw [hbs_get F 30 (by omega), u30]; rfl); have y31 : w6.cell? ⟨c, 31, none⟩ = some (.int .u8 29) := (cell_of k6 31).trans (by rw [hbs_get F 31 (by omega), u31]; rfl); clear i6 k6 j6; have ev : EV w6 a (sen (a 1)) 2 none := .inr (.inl ⟨1, by decide, rfl, rfl, rfl⟩))
  have q7 := isE_any (HS.out.fr n6 (fun _ _ f => f)) ev 2
  refine q7.mono ?_
  rintro e7 w7 ⟨rfl, n7⟩
  have hsb : sameB 2 none 2 (-1) = true := by decide
  rw [hsb]
  clear q7
  go_wp2
  go_ret
  exact ⟨rfl, n6.tr n7⟩
end Go.Proofs.YtambfmohhflimabDoor
