/- The chapter's longest form, its refusals; an object that nobody made. -/
import Derived.Test.YtlkkadkdanjfoabDoorL1
namespace Go.Proofs.YtlkkadkdanjfoabDoor
open Go.RowKit
set_option linter.unusedVariables false
set_option linter.unusedSimpArgs false
theorem varBmax : varB 18446744073709551615 = [255, 255, 255, 255, 255, 255, 255, 255, 255, 1] := by
  rw [varB_ge (by omega), varB_ge (by omega), varB_ge (by omega), varB_ge (by omega), varB_ge (by omega), varB_ge (by omega), varB_ge (by omega), varB_ge (by omega), varB_ge (by omega), varB_lt (by omega)]
  rfl
def namesH : List UInt8 := [1, 0, 0, 0, 0, 0, 0, 0, 0, 0, 0, 0, 0, 0, 0, 0, 0, 0, 0, 0, 0, 0, 0, 0, 0, 0, 0, 0, 0, 0, 0, 9]
def namesS : ByteArray := ⟨#[255, 255, 255, 255, 255, 255, 255, 255, 255, 1, 1, 0, 0, 0, 0, 0, 0, 0, 0, 0, 0, 0, 0, 0, 0, 0, 0, 0, 0, 0, 0, 0, 0, 0, 0, 0, 0, 0, 0, 0, 0, 9]⟩
theorem namesS_x : namesS.extract 0 10 = ⟨#[255, 255, 255, 255, 255, 255, 255, 255, 255, 1]⟩ := by rfl
theorem namesS_l : namesS.size = 42 := by rfl
theorem namesS_10 (h : 10 < namesS.size) : namesS[10]'h = 1 := rfl
theorem namesS_41 (h : 41 < namesS.size) : namesS[41]'h = 9 := rfl
def namesL : ByteArray := ⟨#[255, 255, 255, 255, 255, 255, 255, 255, 255, 2]⟩
def namesM : ByteArray := ⟨#[2, 97, 98, 7]⟩
def namesN : ByteArray := ⟨#[3, 97]⟩
theorem rvL : rvGo 0 (namesL.data.toList.drop 0) = none := by rfl
theorem rvM : rvGo 0 (namesM.data.toList.drop 0) = some (2, 1) := by rfl
theorem rvN : rvGo 0 (namesN.data.toList.drop 0) = some (3, 1) := by rfl

set_option maxRecDepth 100000 in
set_option maxHeartbeats 8000000 in
theorem names_any (B : Nat) (w : World) (a : Nat → Addr) (hS : Sent B w a) :
    Calls Tryd.prog 3 #[] w fun e w' => e = .returned (.bool true) ∧ Fr (fun _ => False) w w' := by
  have hsz := hS.hsz
  have hNB := hS.hB
  have x1 := namesS_x
  have x2 := namesS_l
  have x3 := namesS_10
  have x4 := namesS_41
  go_enter Tryd.func3, Tryd.ntmps3
  go_wp2_with fail
  refine (newW w).mono ?_
  rintro e w1 ⟨rfl, h1, f1, z1⟩
  go_wp2_with fail
  have q2 : Calls Tryd.prog 5 #[.pointer (some ⟨w.heap.size, 0, none⟩), .int .u64 18446744073709551615] w1 fun e w' => e = .returned (.tuple #[]) ∧ ∃ v', Wr w' w.heap.size v' ([] ++ varB 18446744073709551615) ∧ Fr (WS w.heap.size) w1 w' := wvar _ _ [] 18446744073709551615 w1 h1 (by omega) (by simp)
  rw [varBmax] at q2
  refine q2.mono ?_
  rintro e w2 ⟨rfl, v2, h2, f2⟩
  clear q2 h1
  have g2 : Fr (fun _ => False) w w2 := f1.trans f2 (fun k hk q => by have : w.heap.size ≤ k := q; omega)
  go_wp2_with fail
  refine (whash w.heap.size v2 _ namesH w2 h2 rfl (by simp)).mono ?_
  rintro e w3 ⟨rfl, v3, h3, f3⟩
  clear h2
  have g3 : Fr (fun _ => False) w w3 := g2.trans f3 (fun k hk q => by have : w.heap.size ≤ k := q; omega)
  go_wp2_with fail
  have q4 : Calls Tryd.prog 7 #[.pointer (some ⟨w.heap.size, 0, none⟩)] w3 fun e w' => e = .returned (.string namesS) ∧ w' = w3 := wdone _ _ _ w3 h3
  refine q4.mono ?_
  rintro e w4 ⟨rfl, rfl⟩
  clear q4
  go_wp2_with fail
  refine (newR namesL w4).mono ?_
  rintro e w5 ⟨rfl, h5, f5, z5⟩
  have g5 := g3.trans f5 (fun _ _ q => q)
  have s5 := hS.fr g5 (nofalse B)
  have l4 := g3.size
  go_wp2_with fail
  refine (rvar_no _ namesL 0 0 (a 2) w5 h5 (by decide) (by decide) rvL s5.c2 (by omega) (by omega)).mono ?_
  rintro e w6 ⟨rfl, ⟨p6, h6⟩, f6⟩
  clear h5
  have g6 : Fr (fun _ => False) w w6 := g5.trans f6 (fun k hk q => by omega)
  have b4 : w4.heap.size < w6.heap.size := heap_lt h6
  go_wp2_with fail
  refine (newR namesM w6).mono ?_
  rintro e w7 ⟨rfl, h7, f7, z7⟩
  have g7 := g6.trans f7 (fun _ _ q => q)
  have s7 := hS.fr g7 (nofalse B)
  have k7 := h6.fr f7 (fun f => f)
  go_wp2_with fail
  have q8 : Calls Tryd.prog 10 #[.pointer (some ⟨w6.heap.size, 0, none⟩), .int .i64 1] w7 fun e w' => e = .returned (.string ⟨#[]⟩) ∧ (∃ q : Int, Rd w' w6.heap.size namesM q (sen (a 3)) 0) ∧ Fr (fun j => j = w6.heap.size) w7 w' := rtext_limit _ namesM 0 2 1 1 0 (a 3) w7 h7 (by decide) (by decide) rvM (by omega) (by omega) s7.c3 (by omega) (by omega)
  refine q8.mono ?_
  rintro e w8 ⟨rfl, ⟨p8, h8⟩, f8⟩
  clear q8 h7
  have g8 : Fr (fun _ => False) w w8 := g7.trans f8 (fun k hk q => by omega)
  have k8 := k7.fr f8 (fun (q : w4.heap.size = w6.heap.size) => by omega)
  have b6 : w6.heap.size < w8.heap.size := heap_lt h8
  go_wp2_with fail
  refine (newR namesN w8).mono ?_
  rintro e w9 ⟨rfl, h9, f9, z9⟩
  have g9 := g8.trans f9 (fun _ _ q => q)
  have s9 := hS.fr g9 (nofalse B)
  have k9 := k8.fr f9 (fun f => f)
  have m9 := h8.fr f9 (fun f => f)
  go_wp2_with fail
  have q10 : Calls Tryd.prog 10 #[.pointer (some ⟨w8.heap.size, 0, none⟩), .int .i64 9] w9 fun e w' => e = .returned (.string ⟨#[]⟩) ∧ (∃ q : Int, Rd w' w8.heap.size namesN q (sen (a 2)) 0) ∧ Fr (fun j => j = w8.heap.size) w9 w' := rtext_short _ namesN 0 3 1 9 0 (a 2) w9 h9 (by decide) (by decide) rvN (by omega) (by omega) (by decide) s9.c2 (by omega) (by omega)
  refine q10.mono ?_
  rintro e w10 ⟨rfl, ⟨p10, n10⟩, f10⟩
  clear q10 h9
  have g10 : Fr (fun _ => False) w w10 := g9.trans f10 (fun k hk q => by omega)
  have s10 := hS.fr g10 (nofalse B)
  have k10 := k9.fr f10 (fun (q : w4.heap.size = w8.heap.size) => by omega)
  have m10 := m9.fr f10 (fun (q : w6.heap.size = w8.heap.size) => by omega)
  clear k7 k8 k9 m9 h6 h8
  go_wp2_with fail
  refine (end_input _ namesL p6 0 (a 2) w10 k10 s10.c2).mono ?_
  rintro e w11 ⟨rfl, h11, f11, z11⟩
  have g11 := g10.trans f11 (fun _ _ q => q)
  have s11 := hS.fr g11 (nofalse B)
  have m11 := m10.fr f11 (fun f => f)
  have n11 := n10.fr f11 (fun f => f)
  go_wp2_with fail
  have q12 : Calls Tryd.prog 11 #[.iface 58 (.pointer (some ⟨w10.heap.size, 0, none⟩)), .int .i64 3, .int .i64 0] w11 fun e w' => e = .returned (.bool true) ∧ Fr (fun _ => False) w11 w' := lawAt_any s11 (.inr (.inr ⟨2, _, 0, by omega, rfl, h11, rfl, rfl⟩)) 3 0
  refine q12.mono ?_
  rintro e w12 ⟨rfl, f12⟩
  clear q12
  have g12 := g11.trans f12 (fun _ _ q => q)
  have s12 := hS.fr g12 (nofalse B)
  have m12 := m11.fr f12 (fun f => f)
  have n12 := n11.fr f12 (fun f => f)
  clear k10 m10 m11 n10 n11
  obtain ⟨_, cc2, ct2, hb2⟩ := s12.blk 2 (by omega)
  obtain ⟨_, cc3, ct3, hb3⟩ := s12.blk 3 (by omega)
  go_wp2_with fail
  refine (end_other _ namesM p8 0 (a 2) (a 3) cc2 cc3 ct2 ct3 w12 m12 s12.c2 (s12.ne 3 2 (by omega) (by omega) (by omega)) hb2 hb3).mono ?_
  rintro e w13 ⟨rfl, f13⟩
  clear hb2 hb3
  have g13 := g12.trans f13 (fun _ _ q => q)
  have s13 := hS.fr g13 (nofalse B)
  have m13 := m12.fr f13 (fun f => f)
  have n13 := n12.fr f13 (fun f => f)
  go_wp2_with fail
  have q14 : Calls Tryd.prog 13 #[sen (a 3), .int .i64 4] w13 fun e w' => e = .returned (.bool true) ∧ Fr (fun _ => False) w13 w' := lawIs_any s13 (.inr (.inl ⟨3, by omega, rfl, rfl, rfl⟩)) 4 (by omega)
  refine q14.mono ?_
  rintro e w14 ⟨rfl, f14⟩
  clear q14
  have g14 := g13.trans f14 (fun _ _ q => q)
  have m14 := m13.fr f14 (fun f => f)
  have n14 := n13.fr f14 (fun f => f)
  clear m12 m13 n12 n13
  go_wp2_with fail
  refine (left_no _ namesM p8 0 (a 3) w14 m14).mono ?_
  rintro e w15 ⟨rfl, rfl⟩
  have s14 := hS.fr g14 (nofalse B)
  go_wp2_with fail
  refine (end_input _ namesN p10 0 (a 2) w15 n14 s14.c2).mono ?_
  rintro e w16 ⟨rfl, h16, f16, z16⟩
  have g16 := g14.trans f16 (fun _ _ q => q)
  have s16 := hS.fr g16 (nofalse B)
  go_wp2_with fail
  have q17 : Calls Tryd.prog 11 #[.iface 58 (.pointer (some ⟨w15.heap.size, 0, none⟩)), .int .i64 3, .int .i64 0] w16 fun e w' => e = .returned (.bool true) ∧ Fr (fun _ => False) w16 w' := lawAt_any s16 (.inr (.inr ⟨2, _, 0, by omega, rfl, h16, rfl, rfl⟩)) 3 0
  refine q17.mono ?_
  rintro e w17 ⟨rfl, f17⟩
  clear q17
  have g17 := g16.trans f17 (fun _ _ q => q)
  have s17 := hS.fr g17 (nofalse B)
  go_wp2_with fail
  refine (lives_any B w17 a s17).mono ?_
  rintro e w18 ⟨rfl, f18⟩
  have g18 := g17.trans f18 (fun _ _ q => q)
  have s18 := hS.fr g18 (nofalse B)
  go_wp2_with fail
  refine (end_nil (a 0) w18 s18.c0).mono ?_
  rintro e w19 ⟨rfl, rfl⟩
  go_wp2_with fail
  have q20 : Calls Tryd.prog 13 #[sen (a 0), .int .i64 1] w19 fun e w' => e = .returned (.bool true) ∧ Fr (fun _ => False) w19 w' := lawIs_any s18 (.inr (.inl ⟨0, by omega, rfl, rfl, rfl⟩)) 1 (by omega)
  refine q20.mono ?_
  rintro e w20 ⟨rfl, f20⟩
  clear q20
  have g20 := g18.trans f20 (fun _ _ q => q)
  have s20 := hS.fr g20 (nofalse B)
  go_wp2_with fail
  refine (wfixed_nil (a 0) 0 0 w20 s20.c0).mono ?_
  rintro e w21 ⟨rfl, rfl⟩
  go_wp2_with fail
  have q22 : Calls Tryd.prog 13 #[sen (a 0), .int .i64 1] w21 fun e w' => e = .returned (.bool true) ∧ Fr (fun _ => False) w21 w' := lawIs_any s20 (.inr (.inl ⟨0, by omega, rfl, rfl, rfl⟩)) 1 (by omega)
  refine q22.mono ?_
  rintro e w22 ⟨rfl, f22⟩
  clear q22
  have g22 := g20.trans f22 (fun _ _ q => q)
  have f23 : Fr (fun _ => False) w22 (w22.alloc (.cells #[.bool false, .string ⟨#[]⟩, .int .i64 0, .nilIface, .int .i64 0] 43)) := (Fr.refl _ _).alloc _
  have g23 := g22.trans f23 (fun _ _ q => q)
  have s23 := hS.fr g23 (nofalse B)
  have q23 := end_unmade w22.heap.size (a 0) _ ((cell_of (heap_alloc_new w22 (.cells #[.bool false, .string ⟨#[]⟩, .int .i64 0, .nilIface, .int .i64 0] 43)) 0).trans rfl) s23.c0
  go_wp2_with fail
  refine q23.mono ?_
  rintro e w24 ⟨rfl, rfl⟩
  clear q23
  have q24 : Calls Tryd.prog 13 #[sen (a 0), .int .i64 1] (w22.alloc (.cells #[.bool false, .string ⟨#[]⟩, .int .i64 0, .nilIface, .int .i64 0] 43)) fun e w' => e = .returned (.bool true) ∧ Fr (fun _ => False) (w22.alloc (.cells #[.bool false, .string ⟨#[]⟩, .int .i64 0, .nilIface, .int .i64 0] 43)) w' := lawIs_any s23 (.inr (.inl ⟨0, by omega, rfl, rfl, rfl⟩)) 1 (by omega)
  go_wp2_with fail
  refine q24.mono ?_
  rintro e w25 ⟨rfl, f25⟩
  clear q24
  have g25 := g23.trans f25 (fun _ _ q => q)
  go_wp2_with fail
  refine (wdone_nil w25).mono ?_
  rintro e w26 ⟨rfl, rfl⟩
  go_wp2_with fail
  go_ret
  exact ⟨rfl, g25⟩
end Go.Proofs.YtlkkadkdanjfoabDoor
