/- Whether it is the error that the document's answer tells. -/
import Derived.Test.YthkkjpefealdgaaDoorE5
namespace Go.Proofs.YthkkjpefealdgaaDoor
open Go.RowKit
set_option linter.unusedVariables false
set_option linter.unusedSimpArgs false

set_option maxHeartbeats 1000000 in
theorem isE_any {B : Nat} {w : World} {a : Nat → Addr} {v : Value} {code : Nat} {pl : Option Int} (hS : Sent B w a) (hv : EV w a v code pl) (c : Int) :
    Calls Tryd.prog 11 #[v, .int .i64 c] w fun e w' => e = .returned (.bool (sameB code pl c (-1))) ∧ Fr (fun _ => False) w w' := by
  have hat := at_any hS hv
  obtain ⟨n, hn⟩ : ∃ n, n = pl.getD 0 := ⟨_, rfl⟩
  obtain ⟨o, ho⟩ : ∃ o, o = pl.isSome := ⟨_, rfl⟩
  have hno : o = false → n = 0 := by rw [hn, ho]; cases pl <;> simp
  have HS : Hid (sameB code pl c (-1) = (decide ((code : Int) = c) && decide (n = 0))) := by unfold Hid sameB; rw [if_pos rfl, hn]
  rw [← hn, ← ho] at hat
  clear hn ho
  have Hno : Hid (o = false → n = 0) := hno
  clear hno
  cases o
  all_goals
    by_cases hc : (code : Int) = c
    all_goals
      go_enter Tryd.func11, Tryd.ntmps11
      go_wp2_with (first
        | (go_at_call 32; refine hat.mono ?_; rintro e w2 ⟨rfl, hf2⟩; have hco := code_any (hS.fr hf2 (fun _ _ f => f)) (hv.fr hf2))
        | (go_at_call 33; refine hco.mono ?_; rintro e w3 ⟨rfl, hf3⟩))
      go_ret
      refine ⟨?_, hf2.trans hf3 (fun _ _ q => q)⟩
      rw [HS.out]
      first
        | (have h0 := Hno.out trivial; simp [hc, h0]; done)
        | (simp [hc]; done)
        | (simp [hc]; rw [Bool.eq_iff_iff]; simp)

end Go.Proofs.YthkkjpefealdgaaDoor
