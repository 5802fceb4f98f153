/- Whether it is the error that the document's answer tells. -/
import Derived.Test.YtebbgpnhkpbefaaGreatDoorE5
namespace Go.Proofs.YtebbgpnhkpbefaaGreatDoor
open Go.RowKit
set_option linter.unusedVariables false
set_option linter.unusedSimpArgs false

set_option maxHeartbeats 1000000 in
theorem isE_any {B : Nat} {w : World} {a : Nat → Addr} {v : Value} {code : Nat} {pl : Option Int} (hS : Sent B w a) (hv : EV w a v code pl) (c : Int) :
    Calls Tryz.prog 19 #[v, .int .i64 c] w fun e w' => e = .returned (.bool (sameB code pl c (-1))) ∧ Fr (fun _ => False) w w' := by
  have hat := at_any hS hv
  obtain ⟨n, hn⟩ : ∃ n, n = pl.getD 0 := ⟨_, rfl⟩
  obtain ⟨o, ho⟩ : ∃ o, o = pl.isSome := ⟨_, rfl⟩
  have hno : o = false → n = 0 := by rw [hn, ho]; cases pl <;> simp
  have HS : Hid (sameB code pl c (-1) = (decide ((code : Int) = c) && decide (n = 0))) := by unfold Hid sameB; rw [if_pos rfl, hn]
  rw [← hn, ← ho] at hat
  clear hn ho
  have Hno : Hid (o = false → n = 0) := hno
  clear hno
  cases o
  all_goals
    by_cases hc : (code : Int) = c
    all_goals
      go_enter Tryz.func19, Tryz.ntmps19
      go_wp2_with (first
        | (go_at_call 81; refine hat.mono ?_; rintro e w2 ⟨rfl, hf2⟩; have hco := code_any (hS.fr hf2 (fun _ _ f => f)) (hv.fr hf2))
        | (go_at_call 82; refine hco.mono ?_; rintro e w3 ⟨rfl, hf3⟩))
      go_ret
      refine ⟨?_, hf2.trans hf3 (fun _ _ q => q)⟩
      rw [HS.out]
      first
        | (have h0 := Hno.out trivial; simp [hc, h0]; done)
        | (simp [hc]; done)
        | (simp [hc]; rw [Bool.eq_iff_iff]; simp)

set_option maxHeartbeats 1000000 in
theorem same_any {B : Nat} {w : World} {a : Nat → Addr} {v : Value} {code : Nat} {pl : Option Int} (hS : Sent B w a) (hv : EV w a v code pl) (c p : Int) :
    Calls Tryz.prog 6 #[v, .agg #[.int .i64 c, .int .i64 p]] w fun e w' => e = .returned (.bool (sameB code pl c p)) ∧ Fr (fun _ => False) w w' := by
  have hfr : Fr (fun _ => False) w (w.alloc (.cells #[.int .i64 c, .int .i64 p] 24)) := (Fr.refl _ _).alloc _
  have hS1 := hS.fr hfr (fun _ _ f => f)
  have hv1 := hv.fr hfr
  by_cases hp : p = -1
  · subst hp
    have h1 := isE_any hS1 hv1 c
    clear hS1 hv1
    go_enter Tryz.func6, Tryz.ntmps6
    go_wp2_with (go_at_call 19; refine h1.mono ?_; rintro e w2 ⟨rfl, hf2⟩)
    go_ret
    exact ⟨rfl, hfr.trans hf2 (fun _ _ q => q)⟩
  · have h1 := isAt_any hS1 hv1 c p
    rw [sameB_at code pl c p hp]
    clear hS1 hv1
    go_enter Tryz.func6, Tryz.ntmps6
    go_wp2_with (go_at_call 20; refine h1.mono ?_; rintro e w2 ⟨rfl, hf2⟩)
    go_ret
    exact ⟨rfl, hfr.trans hf2 (fun _ _ q => q)⟩

theorem placed_any (c p : Int) (w : World) : Calls Tryz.prog 13 #[.int .i64 c, .int .i64 p] w fun e w' => e = .returned (.agg #[.int .i64 c, .int .i64 p]) ∧ Fr (fun _ => False) w w' := by
  go_enter Tryz.func13, Tryz.ntmps13
  go_wp2
  exact bodyPost_ret (v := .agg #[.int .i64 c, .int .i64 p]) (by simp [results, Tryz.results13, go_sem]) rfl ⟨rfl, (Fr.refl _ _).alloc _⟩
theorem plain_any (c : Int) (w : World) (h : c ≠ 0) : Calls Tryz.prog 12 #[.int .i64 c] w fun e w' => e = .returned (.agg #[.int .i64 c, .int .i64 (-1)]) ∧ Fr (fun _ => False) w w' := by
  go_enter Tryz.func12, Tryz.ntmps12
  go_wp2
  exact bodyPost_ret (v := .agg #[.int .i64 c, .int .i64 (-1)]) (by simp [results, Tryz.results12, go_sem]) rfl ⟨rfl, (Fr.refl _ _).alloc _⟩

end Go.Proofs.YtebbgpnhkpbefaaGreatDoor
