/- lives: the chapter's first examples. -/
import Derived.Test.YtebbgpnhkpbefaaDoorcW4
import Derived.Test.YtebbgpnhkpbefaaDoorcR5
import Derived.Test.YtebbgpnhkpbefaaDoorcE5
namespace Go.Proofs.YtebbgpnhkpbefaaDoor
open Go.RowKit
set_option linter.unusedVariables false
set_option linter.unusedSimpArgs false
theorem varB300 : varB 300 = [172, 2] := by rw [varB_ge (by omega), varB_lt (by omega)]; rfl
theorem varB2 : varB 2 = [2] := by rw [varB_lt (by omega)]; rfl
theorem rv300 : rvGo 0 ([172, 2, 1, 2, 2, 97, 98, 9] : List UInt8) = some (300, 2) := by rfl
theorem rv2 : rvGo 0 ([2, 97, 98, 9] : List UInt8) = some (2, 1) := by rfl
def livesS : ByteArray := ⟨#[172, 2, 1, 2, 2, 97, 98, 9]⟩

/-- What a frame over new memory alone says below a bound. -/
theorem nofalse (B : Nat) : ∀ k, k < B → ¬ (fun (_ : Nat) => False) k := fun _ _ f => f

set_option maxRecDepth 100000 in
set_option maxHeartbeats 4000000 in
theorem lives_any (B : Nat) (w : World) (a : Nat → Addr) (hS : Sent B w a) :
    Calls Tryd.prog 15 #[] w fun e w' => e = .returned (.bool true) ∧ Fr (fun _ => False) w w' := by
  have hsz := hS.hsz
  have hNB := hS.hB
  go_enter Tryd.func15, Tryd.ntmps15
  go_wp2_with fail
  refine (newW w).mono ?_
  rintro e w1 ⟨rfl, h1, f1, z1⟩
  have s1 := hS.fr f1 (nofalse B)
  go_wp2_with fail
  have q2 : Calls Tryd.prog 35 #[.pointer (some ⟨w.heap.size, 0, none⟩), .int .u64 300] w1 fun e w' => e = .returned (.tuple #[]) ∧ ∃ v', Wr w' w.heap.size v' ([] ++ varB 300) ∧ Fr (WS w.heap.size) w1 w' := wvar _ _ [] 300 w1 h1 (by omega) (by simp)
  rw [varB300] at q2
  refine q2.mono ?_
  rintro e w2 ⟨rfl, v2, h2, f2⟩
  clear q2 h1
  have g2 : Fr (fun _ => False) w w2 := f1.trans f2 (fun k hk q => by have : w.heap.size ≤ k := q; omega)
  have s2 := hS.fr g2 (nofalse B)
  go_wp2_with fail
  have q3 : Calls Tryd.prog 36 #[.pointer (some ⟨w.heap.size, 0, none⟩), .int .u64 256, .int .i64 1] w2 fun e w' => e = .returned (sen (a 1)) ∧ w' = w2 := wfixed_big _ (a 1) 256 1 w2 ((cell_of h2.blk 0).trans rfl) (by omega) (by omega) (by omega) (by omega) s2.c1
  refine q3.mono ?_
  rintro e w3 ⟨rfl, rfl⟩
  clear q3
  go_wp2_with fail
  have q4 : Calls Tryd.prog 36 #[.pointer (some ⟨w.heap.size, 0, none⟩), .int .u64 258, .int .i64 2] w3 fun e w' => e = .returned .nilIface ∧ ∃ v', Wr w' w.heap.size v' (([] ++ [172, 2]) ++ fixB 2 258) ∧ Fr (WS w.heap.size) w3 w' := wfixed_yes _ _ _ 258 2 w3 h2 (by omega) (by omega) (by omega) (by omega) (by simp)
  refine q4.mono ?_
  rintro e w4 ⟨rfl, v4, h4, f4⟩
  clear q4 h2
  have g4 : Fr (fun _ => False) w w4 := g2.trans f4 (fun k hk q => by have : w.heap.size ≤ k := q; omega)
  go_wp2_with fail
  have q5 : Calls Tryd.prog 37 #[.pointer (some ⟨w.heap.size, 0, none⟩), .string ⟨#[97, 98]⟩] w4 fun e w' => e = .returned (.tuple #[]) ∧ ∃ v', Wr w' w.heap.size v' ((([] ++ [172, 2]) ++ fixB 2 258) ++ (varB 2 ++ [97, 98])) ∧ Fr (WS w.heap.size) w4 w' := wtext _ _ _ ⟨#[97, 98]⟩ w4 h4 (by decide) (by decide)
  rw [varB2] at q5
  refine q5.mono ?_
  rintro e w5 ⟨rfl, v5, h5, f5⟩
  clear q5 h4
  have g5 : Fr (fun _ => False) w w5 := g4.trans f5 (fun k hk q => by have : w.heap.size ≤ k := q; omega)
  go_wp2_with fail
  have q6 : Calls Tryd.prog 38 #[.pointer (some ⟨w.heap.size, 0, none⟩)] w5 fun e w' => e = .returned (.string ⟨#[172, 2, 1, 2, 2, 97, 98]⟩) ∧ w' = w5 := wdone _ _ _ w5 h5
  refine q6.mono ?_
  rintro e w6 ⟨rfl, rfl⟩
  clear q6
  go_wp2_with fail
  refine (newR livesS w6).mono ?_
  rintro e w7 ⟨rfl, h7, f7, z7⟩
  have g7 := g5.trans f7 (fun _ _ q => q)
  have s7 := hS.fr g7 (nofalse B)
  go_wp2_with fail
  refine (rvar_yes _ livesS 0 300 2 0 w7 h7 (by decide) (by decide) rv300).mono ?_
  rintro e w8 ⟨rfl, h8, _, f8⟩
  clear h7
  have k8 : ∀ k, k < w.heap.size → ¬ k = w6.heap.size := fun k hk => by have := g5.size; omega
  have g8 : Fr (fun _ => False) w w8 := g7.trans f8 (fun k hk q => k8 k hk q)
  go_wp2_with fail
  have q9 : Calls Tryd.prog 21 #[.pointer (some ⟨w6.heap.size, 0, none⟩), .int .i64 2] w8 fun e w' => e = .returned (.int .u64 258) ∧ Rd w' w6.heap.size livesS 4 .nilIface 0 ∧ Fr (fun j => j = w6.heap.size) w8 w' := rfixed_yes _ livesS 2 2 0 w8 h8 (by decide) (by omega) (by omega) (by decide)
  refine q9.mono ?_
  rintro e w9 ⟨rfl, h9, f9⟩
  clear q9 h8
  have g9 : Fr (fun _ => False) w w9 := g8.trans f9 (fun k hk q => k8 k hk q)
  go_wp2_with fail
  have q10 : Calls Tryd.prog 23 #[.pointer (some ⟨w6.heap.size, 0, none⟩), .int .i64 2] w9 fun e w' => e = .returned (.string (sub livesS 5 2)) ∧ Rd w' w6.heap.size livesS 7 .nilIface 0 ∧ Fr (fun j => j = w6.heap.size) w9 w' := rtext_yes _ livesS 4 2 1 2 0 w9 h9 (by decide) (by decide) rv2 (by omega) (by omega) (by decide)
  rw [show sub livesS 5 2 = ⟨#[97, 98]⟩ from rfl] at q10
  refine q10.mono ?_
  rintro e w10 ⟨rfl, h10, f10⟩
  clear q10 h9
  have g10 : Fr (fun _ => False) w w10 := g9.trans f10 (fun k hk q => k8 k hk q)
  have s10 := hS.fr g10 (nofalse B)
  go_wp2_with fail
  have q11 : Calls Tryd.prog 39 #[sen (a 1), .int .i64 2] w10 fun e w' => e = .returned (.bool true) ∧ Fr (fun _ => False) w10 w' := lawIs_any s10 (.inr (.inl ⟨1, by omega, rfl, rfl, rfl⟩)) 2 (by omega)
  refine q11.mono ?_
  rintro e w11 ⟨rfl, f11⟩
  clear q11
  have h11 := h10.fr f11 (fun f => f)
  have g11 := g10.trans f11 (fun _ _ q => q)
  go_wp2_with fail
  have q12 : Calls Tryd.prog 12 #[.pointer (some ⟨w6.heap.size, 0, none⟩)] w11 fun e w' => e = .returned (.int .i64 1) ∧ Rd w' w6.heap.size livesS 7 .nilIface 0 ∧ Fr (fun j => False) w11 w' := left_yes _ livesS 7 0 w11 h11 (by decide) (by decide)
  refine q12.mono ?_
  rintro e w12 ⟨rfl, h12, f12⟩
  clear q12
  have g12 := g11.trans f12 (fun _ _ q => q)
  have s12 := hS.fr g12 (nofalse B)
  go_wp2_with fail
  have q13 : Calls Tryd.prog 14 #[.pointer (some ⟨w6.heap.size, 0, none⟩)] w12 fun e w' => e = .returned (.iface 64 (.pointer (some ⟨w12.heap.size, 0, none⟩))) ∧ Flt w' w12.heap.size (a 2) 7 ∧ Fr (fun j => False) w12 w' ∧ w'.heap.size = w12.heap.size + 1 := end_left _ livesS 7 0 (a 2) w12 h12 (by decide) (by decide) s12.c2
  refine q13.mono ?_
  rintro e w13 ⟨rfl, h13, f13, z13⟩
  clear q13
  have g13 := g12.trans f13 (fun _ _ q => q)
  have s13 := hS.fr g13 (nofalse B)
  go_wp2_with fail
  have q14 : Calls Tryd.prog 40 #[.iface 64 (.pointer (some ⟨w12.heap.size, 0, none⟩)), .int .i64 3, .int .i64 7] w13 fun e w' => e = .returned (.bool true) ∧ Fr (fun _ => False) w13 w' := lawAt_any s13 (.inr (.inr ⟨2, _, 7, by omega, rfl, h13, rfl, rfl⟩)) 3 7
  refine q14.mono ?_
  rintro e w14 ⟨rfl, f14⟩
  clear q14
  go_wp2_with fail
  go_ret
  exact ⟨rfl, g13.trans f14 (fun _ _ q => q)⟩
end Go.Proofs.YtebbgpnhkpbefaaDoor
