/- CoordRow: a stretch that may not be. -/
import Derived.Test.YtibkmcmgolbhhaaGreatDoorC9
import Derived.Test.YtibkmcmgolbhhaaGreatDoorE6
namespace Go.Proofs.YtibkmcmgolbhhaaGreatDoor
open Go.RowKit
set_option linter.unusedVariables false
set_option linter.unusedSimpArgs false

set_option maxHeartbeats 1000000 in
theorem cover_no (b e : Nat) (h : ¬ (b ≤ e ∧ e ≤ 9223372036854775808)) (hb : b < 18446744073709551616) (he : e < 18446744073709551616) (w : World) {B : Nat} {a : Nat → Addr} (hS : Sent B w a) :
    Calls Tryz.prog 5 #[sp b e] w fun x w' => x = .returned (.tuple #[.slice none 0 0, sen (a 4)]) ∧ Nw w w' := by
  go_enter Tryz.func5, Tryz.ntmps5
  go_wp2_with fail
  refine (smb b e false (by simp; omega) (by omega) (by omega) _).mono ?_
  rintro x w1 ⟨rfl, n1⟩
  obtain ⟨l0, b0, n2⟩ := one_made n1
  have hc := (hS.fr n2 (fun _ _ f => f)).c4
  clear n1 b0 hS
  go_wp2
  go_quiet (fail)
  go_wp2
  exact bodyPost_ret (v := .tuple #[.slice none 0 0, sen (a 4)]) (by simp [results, Tryz.results5]) rfl ⟨rfl, n2.drewN nq⟩

end Go.Proofs.YtibkmcmgolbhhaaGreatDoor
