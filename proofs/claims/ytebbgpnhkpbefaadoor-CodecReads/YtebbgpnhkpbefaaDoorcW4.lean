/- What Fixed says when it puts nothing; a hash is put. -/
import Derived.Test.YtebbgpnhkpbefaaDoorcW3
import Derived.Test.YtebbgpnhkpbefaaDoorcE4
namespace Go.Proofs.YtebbgpnhkpbefaaDoor
open Go.RowKit Go.Lib
set_option linter.unusedVariables false
set_option linter.unusedSimpArgs false

set_option maxHeartbeats 1000000 in
theorem wfixed_big (b : Nat) (x : Addr) (n width : Nat) (w : World) (h0 : w.cell? ⟨b, 0, none⟩ = some (.bool true)) (hn : n < 18446744073709551616) (h1 : 1 ≤ width) (h8 : width ≤ 8) (hf : ¬ n < 256 ^ width) (hg : w.cell? ⟨3, 0, none⟩ = some (sen x)) :
    Calls Tryd.prog 36 #[.pointer (some ⟨b, 0, none⟩), .int .u64 n, .int .i64 width] w fun e w' => e = .returned (sen x) ∧ w' = w := by
  have hfd : decide (n < 256 ^ width) = false := decide_eq_false hf
  have hfits := fits_any n width w hn h1 h8
  rw [hfd] at hfits
  clear hfd hf
  go_enter Tryd.func36, Tryd.ntmps36
  go_wp2_with (first
    | (go_at_call 58; refine (there_yes b _ h0).mono ?_; rintro e w' ⟨rfl, rfl⟩)
    | (go_at_call 48; refine (mayBe_yes width _ (by omega) (by omega)).mono ?_; rintro e w' ⟨rfl, rfl⟩)
    | (go_at_call 59; refine hfits.mono ?_; rintro e w' ⟨rfl, rfl⟩))
  go_ret
  exact ⟨rfl, rfl⟩
set_option maxHeartbeats 1000000 in
theorem wfixed_width (b : Nat) (x : Addr) (n width : Int) (w : World) (h0 : w.cell? ⟨b, 0, none⟩ = some (.bool true)) (h1 : width < 1 ∨ 8 < width) (hg : w.cell? ⟨3, 0, none⟩ = some (sen x)) :
    Calls Tryd.prog 36 #[.pointer (some ⟨b, 0, none⟩), .int .u64 n, .int .i64 width] w fun e w' => e = .returned (sen x) ∧ w' = w := by
  go_enter Tryd.func36, Tryd.ntmps36
  go_wp2_with (first
    | (go_at_call 58; refine (there_yes b _ h0).mono ?_; rintro e w' ⟨rfl, rfl⟩)
    | (go_at_call 48; refine (mayBe_no width _ h1).mono ?_; rintro e w' ⟨rfl, rfl⟩))
  go_ret
  exact ⟨rfl, rfl⟩
theorem wfixed_nil (x : Addr) (n width : Int) (w : World) (hg : w.cell? ⟨0, 0, none⟩ = some (sen x)) :
    Calls Tryd.prog 36 #[.pointer none, .int .u64 n, .int .i64 width] w fun e w' => e = .returned (sen x) ∧ w' = w := by
  go_enter Tryd.func36, Tryd.ntmps36
  go_wp2_with (go_at_call 58; refine (there_nil _).mono ?_; rintro e w' ⟨rfl, rfl⟩)
  go_ret
  exact ⟨rfl, rfl⟩

theorem add_zero (g j : Nat) : (⟨g, 0, none⟩ : Addr).add j = ⟨g, j, none⟩ := by unfold Addr.add; split <;> simp_all
theorem bc_one (l : List UInt8) : ∀ u ∈ bc l, u.oneCell' = true := by
  intro u hu
  obtain ⟨_, _, rfl⟩ := List.mem_map.1 hu
  rfl
end Go.Proofs.YtebbgpnhkpbefaaDoor
