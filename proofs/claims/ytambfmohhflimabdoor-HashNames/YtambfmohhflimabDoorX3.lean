/- HashNames. -/
import Derived.Test.YtambfmohhflimabDoorH6
import Derived.Test.YtambfmohhflimabDoorS5
namespace Go.Proofs.YtambfmohhflimabDoor
open Go.RowKit
set_option linter.unusedVariables false
set_option linter.unusedSimpArgs false

theorem la_is : Sh [0, 97] = [2, 42, 105, 121, 230, 218, 183, 170, 90, 228, 195, 229, 228, 95, 126, 151, 113, 18, 167, 230, 53, 147, 130, 13, 190, 193, 236, 115, 138, 36, 249, 60] := by decide +kernel
theorem lb_is : Sh [0, 98] = [87, 235, 53, 97, 93, 71, 243, 78, 199, 20, 202, 205, 245, 253, 116, 96, 138, 94, 142, 16, 39, 36, 232, 11, 36, 178, 135, 192, 194, 123, 106, 49] := by decide +kernel
theorem nd_is : Sh (1 :: ([2, 42, 105, 121, 230, 218, 183, 170, 90, 228, 195, 229, 228, 95, 126, 151, 113, 18, 167, 230, 53, 147, 130, 13, 190, 193, 236, 115, 138, 36, 249, 60] ++ [87, 235, 53, 97, 93, 71, 243, 78, 199, 20, 202, 205, 245, 253, 116, 96, 138, 94, 142, 16, 39, 36, 232, 11, 36, 178, 135, 192, 194, 123, 106, 49])) = [177, 55, 152, 95, 244, 132, 251, 96, 13, 185, 49, 7, 199, 123, 3, 101, 200, 13, 120, 245, 180, 41, 222, 208, 253, 151, 54, 29, 7, 121, 153, 235] := by decide +kernel
theorem hla_is : hex [2, 42, 105, 121, 230, 218, 183, 170, 90, 228, 195, 229, 228, 95, 126, 151, 113, 18, 167, 230, 53, 147, 130, 13, 190, 193, 236, 115, 138, 36, 249, 60] = [48, 50, 50, 97, 54, 57, 55, 57, 101, 54, 100, 97, 98, 55, 97, 97, 53, 97, 101, 52, 99, 51, 101, 53, 101, 52, 53, 102, 55, 101, 57, 55, 55, 49, 49, 50, 97, 55, 101, 54, 51, 53, 57, 51, 56, 50, 48, 100, 98, 101, 99, 49, 101, 99, 55, 51, 56, 97, 50, 52, 102, 57, 51, 99] := by decide +kernel
theorem hnd_is : hex [177, 55, 152, 95, 244, 132, 251, 96, 13, 185, 49, 7, 199, 123, 3, 101, 200, 13, 120, 245, 180, 41, 222, 208, 253, 151, 54, 29, 7, 121, 153, 235] = [98, 49, 51, 55, 57, 56, 53, 102, 102, 52, 56, 52, 102, 98, 54, 48, 48, 100, 98, 57, 51, 49, 48, 55, 99, 55, 55, 98, 48, 51, 54, 53, 99, 56, 48, 100, 55, 56, 102, 53, 98, 52, 50, 57, 100, 101, 100, 48, 102, 100, 57, 55, 51, 54, 49, 100, 48, 55, 55, 57, 57, 57, 101, 98] := by decide +kernel
theorem nd_of : Sh (1 :: (Sh [0, 97] ++ Sh [0, 98])) = [177, 55, 152, 95, 244, 132, 251, 96, 13, 185, 49, 7, 199, 123, 3, 101, 200, 13, 120, 245, 180, 41, 222, 208, 253, 151, 54, 29, 7, 121, 153, 235] := by rw [la_is, lb_is]; exact nd_is
theorem ha_of : hex (Sh [0, 97]) = [48, 50, 50, 97, 54, 57, 55, 57, 101, 54, 100, 97, 98, 55, 97, 97, 53, 97, 101, 52, 99, 51, 101, 53, 101, 52, 53, 102, 55, 101, 57, 55, 55, 49, 49, 50, 97, 55, 101, 54, 51, 53, 57, 51, 56, 50, 48, 100, 98, 101, 99, 49, 101, 99, 55, 51, 56, 97, 50, 52, 102, 57, 51, 99] := by rw [la_is]; exact hla_is
theorem hn_of : hex (Sh (1 :: (Sh [0, 97] ++ Sh [0, 98]))) = [98, 49, 51, 55, 57, 56, 53, 102, 102, 52, 56, 52, 102, 98, 54, 48, 48, 100, 98, 57, 51, 49, 48, 55, 99, 55, 55, 98, 48, 51, 54, 53, 99, 56, 48, 100, 55, 56, 102, 53, 98, 52, 50, 57, 100, 101, 100, 48, 102, 100, 57, 55, 51, 54, 49, 100, 48, 55, 55, 57, 57, 57, 101, 98] := by rw [nd_of]; exact hnd_is
theorem ha_size : (⟨(hex (Sh [0, 97])).toArray⟩ : ByteArray).size = 64 := by rw [ha_of]; rfl
theorem ha_head : (⟨(hex (Sh [0, 97])).toArray⟩ : ByteArray).extract 0 4 = ⟨#[48, 50, 50, 97]⟩ := by rw [ha_of]; decide +kernel
theorem ha_tail : (⟨(hex (Sh [0, 97])).toArray⟩ : ByteArray).extract 62 64 = ⟨#[51, 99]⟩ := by rw [ha_of]; decide +kernel
theorem hn_size : (⟨(hex (Sh (1 :: (Sh [0, 97] ++ Sh [0, 98])))).toArray⟩ : ByteArray).size = 64 := by rw [hn_of]; rfl
theorem hn_head : (⟨(hex (Sh (1 :: (Sh [0, 97] ++ Sh [0, 98])))).toArray⟩ : ByteArray).extract 0 4 = ⟨#[98, 49, 51, 55]⟩ := by rw [hn_of]; decide +kernel
theorem hn_tail : (⟨(hex (Sh (1 :: (Sh [0, 97] ++ Sh [0, 98])))).toArray⟩ : ByteArray).extract 62 64 = ⟨#[101, 98]⟩ := by rw [hn_of]; decide +kernel
theorem read_bad (s : ByteArray) (p : Nat) (hs : s.size ≤ 140737488355328) (hb : Bad s.data.toList p) (w : World) {Bd : Nat} {a : Nat → Addr} (hS : Sent Bd w a) :
    Calls Tryd.prog 9 #[.string s] w fun e w' => ∃ v, e = .returned (.tuple #[.agg z32, v]) ∧ EV w' a v 3 (some (p : Int)) ∧ Nw w w' := by
  have := read_any s hs w hS p false (fun h => by cases h) (fun _ => hb)
  rw [if_neg (by decide), if_neg (by decide), if_neg (by decide), ← z32_hbs] at this
  exact this
instance (L : List UInt8) (p : Nat) : Decidable (Bad L p) := by unfold Bad; infer_instance
set_option maxRecDepth 100000 in
set_option maxHeartbeats 4000000 in
theorem names_any (w : World) (hL : Laid w) {Bd : Nat} {a : Nat → Addr} (hS : Sent Bd w a) :
    Calls Tryd.prog 5 #[] w fun e w' => e = .returned (.bool true) ∧ Nw w w' := by
  have HL : Hid (Laid w) := hL
  have HS : Hid (Sent Bd w a) := hS
  clear hL hS
  have hz32 : z32.size = 32 := by simp [z32]
  have hz1 : ∀ u ∈ z32.toList, u.oneCell' = true := by rw [z32_hbs]; exact hbs_one _
  obtain ⟨LA, hLA⟩ : ∃ x, x = Sh [0, 97] := ⟨_, rfl⟩
  obtain ⟨LB, hLB⟩ : ∃ x, x = Sh [0, 98] := ⟨_, rfl⟩
  obtain ⟨ND, hND⟩ : ∃ x, x = Sh (1 :: (LA ++ LB)) := ⟨_, rfl⟩
  obtain ⟨XA, hXA⟩ : ∃ x : ByteArray, x = ⟨(hex LA).toArray⟩ := ⟨_, rfl⟩
  obtain ⟨XN, hXN⟩ : ∃ x : ByteArray, x = ⟨(hex ND).toArray⟩ := ⟨_, rfl⟩
  have QA : Hid (∀ W, Nw w W → Calls Tryd.prog 14 #[.string ⟨#[97]⟩] W fun e w' => e = .returned (.agg (hbs LA)) ∧ Nw W w') := fun W hW => by rw [hLA]; exact leaf_any ⟨#[97]⟩ W (HL.out.nw hW) (by decide)
  have QB : Hid (∀ W, Nw w W → Calls Tryd.prog 14 #[.string ⟨#[98]⟩] W fun e w' => e = .returned (.agg (hbs LB)) ∧ Nw W w') := fun W hW => by rw [hLB]; exact leaf_any ⟨#[98]⟩ W (HL.out.nw hW) (by decide)
  have lA : LA.length = 32 := by rw [hLA]; exact Sh_len _
  have lB : LB.length = 32 := by rw [hLB]; exact Sh_len _
  have lN : ND.length = 32 := by rw [hND]; exact Sh_len _
  have QN : Hid (∀ W, Nw w W → Calls Tryd.prog 15 #[.agg (hbs LA), .agg (hbs LB)] W fun e w' => e = .returned (.agg (hbs ND)) ∧ Nw W w') := fun W hW => by rw [hND]; exact node_any LA LB lA lB W (HL.out.nw hW)
  have QS : Hid (∀ W, Calls Tryd.prog 10 #[.agg (hbs LA)] W fun e w' => e = .returned (.string XA) ∧ Nw W w') := fun W => by rw [hXA]; exact show_any LA lA W
  have QT : Hid (∀ W, Calls Tryd.prog 10 #[.agg (hbs ND)] W fun e w' => e = .returned (.string XN) ∧ Nw W w') := fun W => by rw [hXN]; exact show_any ND lN W
  have a1 : XA.size = 64 := by rw [hXA, hLA]; exact ha_size
  have a2 : XA.extract 0 4 = ⟨#[48, 50, 50, 97]⟩ := by rw [hXA, hLA]; exact ha_head
  have a3 : XA.extract 62 64 = ⟨#[51, 99]⟩ := by rw [hXA, hLA]; exact ha_tail
  have b1 : XN.size = 64 := by rw [hXN, hND, hLA, hLB]; exact hn_size
  have b2 : XN.extract 0 4 = ⟨#[98, 49, 51, 55]⟩ := by rw [hXN, hND, hLA, hLB]; exact hn_head
  have b3 : XN.extract 62 64 = ⟨#[101, 98]⟩ := by rw [hXN, hND, hLA, hLB]; exact hn_tail
  clear hLA hLB hND hXA hXN lA lB lN
  go_enter Tryd.func5, Tryd.ntmps5
  go_wp2_with fail
  refine (QA.out _ (Fr.refl _ w)).mono ?_
  rintro e1 w1 ⟨rfl, k1⟩
  have nb : Nw w w1 := k1
  go_wp2_with fail
  refine (QS.out _).mono ?_
  rintro e2 w2 ⟨rfl, k2⟩
  have nb : Nw w w2 := nb.tr k2
  go_wp2_with fail
  refine (QA.out _ nb).mono ?_
  rintro e3 w3 ⟨rfl, k3⟩
  have nb : Nw w w3 := nb.tr k3
  go_wp2_with fail
  refine (QB.out _ nb).mono ?_
  rintro e4 w4 ⟨rfl, k4⟩
  have nb : Nw w w4 := nb.tr k4
  go_wp2_with fail
  refine (QN.out _ nb).mono ?_
  rintro e5 w5 ⟨rfl, k5⟩
  have nb : Nw w w5 := nb.tr k5
  go_wp2_with fail
  refine (QT.out _).mono ?_
  rintro e6 w6 ⟨rfl, k6⟩
  have nb : Nw w w6 := nb.tr k6
  go_wp2_with fail
  refine (read_bad _ 0 (by decide) (by decide +kernel) _ (HS.out.fr nb (fun _ _ f => f))).mono ?_
  rintro e7 w7 ⟨v0, rfl, E0, k7⟩
  have E0 : Hid (EV w7 a v0 3 (some ((0 : Nat) : Int))) := E0
  have nb : Nw w w7 := nb.tr k7
  clear k7
  go_wp2_with (refine wp_store_agg rfl (.tmp 3) (.tmp 22) 23 32 rfl Tryd.sizeOf23 w7.heap.size 0 rfl _ 23 (heap_new _ _) z32 rfl hz32 hz1 (by decide) z32 (by simp) ?_; intro w7s j7 f7 z7; have k7 : Nw w7 w7s := ((Fr.refl _ _).alloc _).trans f7 (fun k hk q => by omega); clear z7 f7 j7)
  have E0 : Hid (EV w7s a v0 3 (some ((0 : Nat) : Int))) := E0.out.fr k7
  have nb : Nw w w7s := nb.tr k7
  clear k7
  go_wp2_with fail
  refine (read_bad _ 1 (by decide) (by decide +kernel) _ (HS.out.fr nb (fun _ _ f => f))).mono ?_
  rintro e8 w8 ⟨v1, rfl, E1, k8⟩
  have E1 : Hid (EV w8 a v1 3 (some ((1 : Nat) : Int))) := E1
  have E0 : Hid (EV w8 a v0 3 (some ((0 : Nat) : Int))) := E0.out.fr k8
  have nb : Nw w w8 := nb.tr k8
  clear k8
  go_wp2_with (refine wp_store_agg rfl (.tmp 5) (.tmp 26) 23 32 rfl Tryd.sizeOf23 w8.heap.size 0 rfl _ 23 (heap_new _ _) z32 rfl hz32 hz1 (by decide) z32 (by simp) ?_; intro w8s j8 f8 z8; have k8 : Nw w8 w8s := ((Fr.refl _ _).alloc _).trans f8 (fun k hk q => by omega); clear z8 f8 j8)
  have E0 : Hid (EV w8s a v0 3 (some ((0 : Nat) : Int))) := E0.out.fr k8
  have E1 : Hid (EV w8s a v1 3 (some ((1 : Nat) : Int))) := E1.out.fr k8
  have nb : Nw w w8s := nb.tr k8
  clear k8
  go_wp2_with fail
  refine (read_bad _ 62 (by decide) (by decide +kernel) _ (HS.out.fr nb (fun _ _ f => f))).mono ?_
  rintro e9 w9 ⟨v2, rfl, E2, k9⟩
  have E2 : Hid (EV w9 a v2 3 (some ((62 : Nat) : Int))) := E2
  have E0 : Hid (EV w9 a v0 3 (some ((0 : Nat) : Int))) := E0.out.fr k9
  have E1 : Hid (EV w9 a v1 3 (some ((1 : Nat) : Int))) := E1.out.fr k9
  have nb : Nw w w9 := nb.tr k9
  clear k9
  go_wp2_with (refine wp_store_agg rfl (.tmp 7) (.tmp 30) 23 32 rfl Tryd.sizeOf23 w9.heap.size 0 rfl _ 23 (heap_new _ _) z32 rfl hz32 hz1 (by decide) z32 (by simp) ?_; intro w9s j9 f9 z9; have k9 : Nw w9 w9s := ((Fr.refl _ _).alloc _).trans f9 (fun k hk q => by omega); clear z9 f9 j9)
  have E0 : Hid (EV w9s a v0 3 (some ((0 : Nat) : Int))) := E0.out.fr k9
  have E1 : Hid (EV w9s a v1 3 (some ((1 : Nat) : Int))) := E1.out.fr k9
  have E2 : Hid (EV w9s a v2 3 (some ((62 : Nat) : Int))) := E2.out.fr k9
  have nb : Nw w w9s := nb.tr k9
  clear k9
  go_wp2_with fail
  refine (read_bad _ 64 (by decide) (by decide +kernel) _ (HS.out.fr nb (fun _ _ f => f))).mono ?_
  rintro e10 w10 ⟨v3, rfl, E3, k10⟩
  have E3 : Hid (EV w10 a v3 3 (some ((64 : Nat) : Int))) := E3
  have E0 : Hid (EV w10 a v0 3 (some ((0 : Nat) : Int))) := E0.out.fr k10
  have E1 : Hid (EV w10 a v1 3 (some ((1 : Nat) : Int))) := E1.out.fr k10
  have E2 : Hid (EV w10 a v2 3 (some ((62 : Nat) : Int))) := E2.out.fr k10
  have nb : Nw w w10 := nb.tr k10
  clear k10
  go_wp2_with (refine wp_store_agg rfl (.tmp 9) (.tmp 34) 23 32 rfl Tryd.sizeOf23 w10.heap.size 0 rfl _ 23 (heap_new _ _) z32 rfl hz32 hz1 (by decide) z32 (by simp) ?_; intro w10s j10 f10 z10; have k10 : Nw w10 w10s := ((Fr.refl _ _).alloc _).trans f10 (fun k hk q => by omega); clear z10 f10 j10)
  have E0 : Hid (EV w10s a v0 3 (some ((0 : Nat) : Int))) := E0.out.fr k10
  have E1 : Hid (EV w10s a v1 3 (some ((1 : Nat) : Int))) := E1.out.fr k10
  have E2 : Hid (EV w10s a v2 3 (some ((62 : Nat) : Int))) := E2.out.fr k10
  have E3 : Hid (EV w10s a v3 3 (some ((64 : Nat) : Int))) := E3.out.fr k10
  have nb : Nw w w10s := nb.tr k10
  clear k10
  go_wp2_with fail
  refine (read_bad _ 63 (by decide) (by decide +kernel) _ (HS.out.fr nb (fun _ _ f => f))).mono ?_
  rintro e11 w11 ⟨v4, rfl, E4, k11⟩
  have E4 : Hid (EV w11 a v4 3 (some ((63 : Nat) : Int))) := E4
  have E0 : Hid (EV w11 a v0 3 (some ((0 : Nat) : Int))) := E0.out.fr k11
  have E1 : Hid (EV w11 a v1 3 (some ((1 : Nat) : Int))) := E1.out.fr k11
  have E2 : Hid (EV w11 a v2 3 (some ((62 : Nat) : Int))) := E2.out.fr k11
  have E3 : Hid (EV w11 a v3 3 (some ((64 : Nat) : Int))) := E3.out.fr k11
  have nb : Nw w w11 := nb.tr k11
  clear k11
  go_wp2_with (refine wp_store_agg rfl (.tmp 11) (.tmp 38) 23 32 rfl Tryd.sizeOf23 w11.heap.size 0 rfl _ 23 (heap_new _ _) z32 rfl hz32 hz1 (by decide) z32 (by simp) ?_; intro w11s j11 f11 z11; have k11 : Nw w11 w11s := ((Fr.refl _ _).alloc _).trans f11 (fun k hk q => by omega); clear z11 f11 j11)
  have E0 : Hid (EV w11s a v0 3 (some ((0 : Nat) : Int))) := E0.out.fr k11
  have E1 : Hid (EV w11s a v1 3 (some ((1 : Nat) : Int))) := E1.out.fr k11
  have E2 : Hid (EV w11s a v2 3 (some ((62 : Nat) : Int))) := E2.out.fr k11
  have E3 : Hid (EV w11s a v3 3 (some ((64 : Nat) : Int))) := E3.out.fr k11
  have E4 : Hid (EV w11s a v4 3 (some ((63 : Nat) : Int))) := E4.out.fr k11
  have nb : Nw w w11s := nb.tr k11
  clear k11
  refine (lives_any w11s (HL.out.nw nb) (HS.out.fr nb (fun _ _ f => f))).mono ?_
  rintro e20 w20 ⟨rfl, k20⟩
  have E0 : Hid (EV w20 a v0 3 (some ((0 : Nat) : Int))) := E0.out.fr k20
  have E1 : Hid (EV w20 a v1 3 (some ((1 : Nat) : Int))) := E1.out.fr k20
  have E2 : Hid (EV w20 a v2 3 (some ((62 : Nat) : Int))) := E2.out.fr k20
  have E3 : Hid (EV w20 a v3 3 (some ((64 : Nat) : Int))) := E3.out.fr k20
  have E4 : Hid (EV w20 a v4 3 (some ((63 : Nat) : Int))) := E4.out.fr k20
  have nb : Nw w w20 := nb.tr k20
  clear k20
  have q21 := isAt_any (HS.out.fr nb (fun _ _ f => f)) E0.out 3 0
  have t21 : atB 3 (some ((0 : Nat) : Int)) 3 0 = true := by decide
  rw [t21] at q21
  go_wp2_with fail
  refine q21.mono ?_
  rintro e21 w21 ⟨rfl, k21⟩
  have E1 : Hid (EV w21 a v1 3 (some ((1 : Nat) : Int))) := E1.out.fr k21
  have E2 : Hid (EV w21 a v2 3 (some ((62 : Nat) : Int))) := E2.out.fr k21
  have E3 : Hid (EV w21 a v3 3 (some ((64 : Nat) : Int))) := E3.out.fr k21
  have E4 : Hid (EV w21 a v4 3 (some ((63 : Nat) : Int))) := E4.out.fr k21
  have nb : Nw w w21 := nb.tr k21
  clear k21 q21
  have q22 := isAt_any (HS.out.fr nb (fun _ _ f => f)) E1.out 3 1
  have t22 : atB 3 (some ((1 : Nat) : Int)) 3 1 = true := by decide
  rw [t22] at q22
  go_wp2_with fail
  refine q22.mono ?_
  rintro e22 w22 ⟨rfl, k22⟩
  have E2 : Hid (EV w22 a v2 3 (some ((62 : Nat) : Int))) := E2.out.fr k22
  have E3 : Hid (EV w22 a v3 3 (some ((64 : Nat) : Int))) := E3.out.fr k22
  have E4 : Hid (EV w22 a v4 3 (some ((63 : Nat) : Int))) := E4.out.fr k22
  have nb : Nw w w22 := nb.tr k22
  clear k22 q22
  have q23 := isAt_any (HS.out.fr nb (fun _ _ f => f)) E2.out 3 62
  have t23 : atB 3 (some ((62 : Nat) : Int)) 3 62 = true := by decide
  rw [t23] at q23
  go_wp2_with fail
  refine q23.mono ?_
  rintro e23 w23 ⟨rfl, k23⟩
  have E3 : Hid (EV w23 a v3 3 (some ((64 : Nat) : Int))) := E3.out.fr k23
  have E4 : Hid (EV w23 a v4 3 (some ((63 : Nat) : Int))) := E4.out.fr k23
  have nb : Nw w w23 := nb.tr k23
  clear k23 q23
  have q24 := isAt_any (HS.out.fr nb (fun _ _ f => f)) E3.out 3 64
  have t24 : atB 3 (some ((64 : Nat) : Int)) 3 64 = true := by decide
  rw [t24] at q24
  go_wp2_with fail
  refine q24.mono ?_
  rintro e24 w24 ⟨rfl, k24⟩
  have E4 : Hid (EV w24 a v4 3 (some ((63 : Nat) : Int))) := E4.out.fr k24
  have nb : Nw w w24 := nb.tr k24
  clear k24 q24
  have q25 := isAt_any (HS.out.fr nb (fun _ _ f => f)) E4.out 3 63
  have t25 : atB 3 (some ((63 : Nat) : Int)) 3 63 = true := by decide
  rw [t25] at q25
  go_wp2_with fail
  refine q25.mono ?_
  rintro e25 w25 ⟨rfl, k25⟩
  have nb : Nw w w25 := nb.tr k25
  clear k25 q25
  go_wp2
  go_ret
  exact ⟨rfl, nb⟩
end Go.Proofs.YtambfmohhflimabDoor
