/- What package shape refuses; Peaks. -/
import Derived.Test.YtlaiomgebkeldaaGreatDoorS4
import Derived.Test.YtlaiomgebkeldaaGreatDoorS5
import Derived.Test.YtlaiomgebkeldaaGreatDoorEg
namespace Go.Proofs.YtlaiomgebkeldaaGreatDoor
open Go.RowKit
set_option linter.unusedVariables false
set_option linter.unusedSimpArgs false

set_option maxHeartbeats 1000000 in
theorem cover_no (b e : Nat) (h : ¬ (b ≤ e ∧ e ≤ 9223372036854775808)) (hb : b < 18446744073709551616) (he : e < 18446744073709551616) (w : World) {B : Nat} {a : Nat → Addr} (hS : Sent B w a) :
    Calls Tryz.prog 103 #[sp b e] w fun x w' => x = .returned (.tuple #[.slice none 0 0, sen (a 4)]) ∧ Nw w w' := by
  go_enter Tryz.func103, Tryz.ntmps103
  go_wp2_with fail
  refine (smb b e false (by simp; omega) (by omega) (by omega) _).mono ?_
  rintro x w1 ⟨rfl, n1⟩
  obtain ⟨l0, b0, n2⟩ := one_made n1
  have hc := (hS.fr n2 (fun _ _ f => f)).c4
  clear n1 b0 hS
  go_wp2
  go_quiet (fail)
  go_wp2
  exact bodyPost_ret (v := .tuple #[.slice none 0 0, sen (a 4)]) (by simp [results, Tryz.results103]) rfl ⟨rfl, n2.drewN nq⟩
set_option maxHeartbeats 1000000 in
theorem path_no (i n : Nat) (h : ¬ (i < n ∧ n ≤ 9223372036854775808)) (hi : i < 18446744073709551616) (hn : n < 18446744073709551616) (w : World) {B : Nat} {a : Nat → Addr} (hS : Sent B w a) :
    Calls Tryz.prog 34 #[.int .u64 (i : Int), .int .u64 (n : Int)] w fun x w' => x = .returned (.tuple #[.slice none 0 0, sen (a 4)]) ∧ Nw w w' := by
  have hc := (hS.fr (nwa w (.cells #[.int .u64 (i : Int)] 22)) (fun _ _ f => f)).c4
  have hw : (9223372036854775808 : Int) < (n : Int) ∨ (¬ (9223372036854775808 : Int) < (n : Int) ∧ (n : Int) ≤ (i : Int)) := by omega
  clear h hS
  rcases hw with hw | ⟨hw1, hw2⟩
  all_goals
    go_enter Tryz.func34, Tryz.ntmps34
    go_wp2
    go_quiet (fail)
    go_wp2
    exact bodyPost_ret (v := .tuple #[.slice none 0 0, sen (a 4)]) (by simp [results, Tryz.results34]) rfl ⟨rfl, (nwa w _).drewN nq⟩
set_option maxHeartbeats 1000000 in
theorem proof_no (i n : Nat) (h : ¬ (0 < i ∧ i ≤ n ∧ n ≤ 9223372036854775808)) (hi : i < 18446744073709551616) (hn : n < 18446744073709551616) (w : World) {B : Nat} {a : Nat → Addr} (hS : Sent B w a) :
    Calls Tryz.prog 37 #[.int .u64 (i : Int), .int .u64 (n : Int)] w fun x w' => x = .returned (.tuple #[.slice none 0 0, sen (a 4)]) ∧ Nw w w' := by
  have hc := (hS.fr (nwa w (.cells #[.int .u64 (i : Int)] 22)) (fun _ _ f => f)).c4
  have hw : (9223372036854775808 : Int) < (n : Int) ∨ (¬ (9223372036854775808 : Int) < (n : Int) ∧ ((i : Int) == 0) = true) ∨ (¬ (9223372036854775808 : Int) < (n : Int) ∧ ((i : Int) == 0) = false ∧ (n : Int) < (i : Int)) := by simp; omega
  clear h hS
  rcases hw with hw | ⟨hw1, hw2⟩ | ⟨hw1, hw2, hw3⟩
  all_goals
    go_enter Tryz.func37, Tryz.ntmps37
    go_wp2
    go_quiet (fail)
    go_wp2
    exact bodyPost_ret (v := .tuple #[.slice none 0 0, sen (a 4)]) (by simp [results, Tryz.results37]) rfl ⟨rfl, (nwa w _).drewN nq⟩
set_option maxHeartbeats 1000000 in
theorem batch_no (x y n : Nat) (h : ¬ (x < y ∧ y ≤ n ∧ n ≤ 9223372036854775808)) (hx : x < 18446744073709551616) (hy : y < 18446744073709551616) (hn : n < 18446744073709551616) (w : World) {B : Nat} {a : Nat → Addr} (hS : Sent B w a) :
    Calls Tryz.prog 39 #[.int .u64 (x : Int), .int .u64 (y : Int), .int .u64 (n : Int)] w fun z w' => z = .returned (.tuple #[.slice none 0 0, sen (a 4)]) ∧ Nw w w' := by
  have hc := hS.c4
  have hw : (9223372036854775808 : Int) < (n : Int) ∨ (¬ (9223372036854775808 : Int) < (n : Int) ∧ (n : Int) < (y : Int)) ∨ (¬ (9223372036854775808 : Int) < (n : Int) ∧ ¬ (n : Int) < (y : Int) ∧ (y : Int) ≤ (x : Int)) := by omega
  clear h hS
  rcases hw with hw | ⟨hw1, hw2⟩ | ⟨hw1, hw2, hw3⟩
  all_goals
    go_enter Tryz.func39, Tryz.ntmps39
    go_wp2
    go_quiet (fail)
    go_wp2
    exact bodyPost_ret (v := .tuple #[.slice none 0 0, sen (a 4)]) (by simp [results, Tryz.results39]) rfl ⟨rfl, (nwr w).drewN nq⟩

end Go.Proofs.YtlaiomgebkeldaaGreatDoor
