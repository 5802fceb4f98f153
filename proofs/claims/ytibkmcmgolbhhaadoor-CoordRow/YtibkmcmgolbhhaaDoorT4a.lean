/- CoordRow: a stretch that may not be. -/
import Derived.Test.YtibkmcmgolbhhaaDoorC9
import Derived.Test.YtibkmcmgolbhhaaDoorE6
namespace Go.Proofs.YtibkmcmgolbhhaaDoor
open Go.RowKit
set_option linter.unusedVariables false
set_option linter.unusedSimpArgs false

set_option maxHeartbeats 1000000 in
theorem cover_no (b e : Nat) (h : ¬ (b ≤ e ∧ e ≤ 9223372036854775808)) (hb : b < 18446744073709551616) (he : e < 18446744073709551616) (w : World) {B : Nat} {a : Nat → Addr} (hS : Sent B w a) :
    Calls Tryd.prog 23 #[sp b e] w fun x w' => x = .returned (.tuple #[.slice none 0 0, sen (a 4)]) ∧ Nw w w' := by
  go_enter Tryd.func23, Tryd.ntmps23
  go_wp2_with fail
  refine (smb b e false (by simp; omega) (by omega) (by omega) _).mono ?_
  rintro x w1 ⟨rfl, n1⟩
  obtain ⟨l0, b0, n2⟩ := one_made n1
  have hc := (hS.fr n2 (fun _ _ f => f)).c4
  clear n1 b0 hS
  go_wp2
  go_quiet (fail)
  go_wp2
  exact bodyPost_ret (v := .tuple #[.slice none 0 0, sen (a 4)]) (by simp [results, Tryd.results23]) rfl ⟨rfl, n2.drewN nq⟩

set_option maxRecDepth 100000 in
set_option maxHeartbeats 2000000 in
theorem row_no (b e : Nat) (h : ¬ (b ≤ e ∧ e ≤ 9223372036854775808)) (hb : b < 18446744073709551616) (he : e < 18446744073709551616) (w : World) (hT : TabAt w) {B : Nat} {a : Nat → Addr} (hS : Sent B w a) :
    Calls Tryd.prog 6 #[sp b e] w fun x w' => x = .returned (.bool true) ∧ Nw w w' := by
  have HT : Hid (TabAt w) := hT
  have HS : Hid (Sent B w a) := hS
  clear hT hS
  have q1 := cover_no b e h hb he (w.alloc (.cells #[.int .u64 (b : Int), .int .u64 (e : Int)] 26)) (HS.out.fr (nwa w _) (fun _ _ f => f))
  have hbad : (b : Int) > (e : Int) ∨ (¬ (b : Int) > (e : Int) ∧ (e : Int) > 9223372036854775808) := by omega
  clear h
  go_enter Tryd.func6, Tryd.ntmps6
  go_wp2_with fail
  refine q1.mono ?_
  rintro x w1 ⟨rfl, n1⟩
  obtain ⟨l0, b0, n2⟩ := one_made n1
  have c0 := cell2a b0
  have c1 := cell2b b0
  clear n1 q1
  have ev : EV w1 a (sen (a 4)) 5 none := .inr (.inl ⟨4, by decide, rfl, rfl, rfl⟩)
  have q2 := isE_any (HS.out.fr n2 (fun _ _ f => f)) ev 5
  have hsb : sameB 5 none 5 (-1) = true := by decide
  rw [hsb] at q2
  clear hsb ev
  rcases hbad with hi | ⟨hi, hj⟩
  all_goals
    go_wp2_with fail
    refine q2.mono ?_
    rintro x w2 ⟨rfl, n3⟩
    have n4 : Nw w w2 := n2.tr n3
    clear n3
    go_wp2_with fail
    refine (alive_any _ (HT.out.nw n4)).mono ?_
    rintro x w3 ⟨rfl, n5⟩
    go_wp2
    go_ret
    exact ⟨rfl, n4.tr n5⟩
end Go.Proofs.YtibkmcmgolbhhaaDoor
