/- What package shape refuses; Peaks. -/
import Derived.Test.YthkkjpefealdgaaDoorS4
import Derived.Test.YthkkjpefealdgaaDoorS5
import Derived.Test.YthkkjpefealdgaaDoorEg
namespace Go.Proofs.YthkkjpefealdgaaDoor
open Go.RowKit
set_option linter.unusedVariables false
set_option linter.unusedSimpArgs false

set_option maxHeartbeats 1000000 in
theorem path_no (i n : Nat) (h : ¬ (i < n ∧ n ≤ 9223372036854775808)) (hi : i < 18446744073709551616) (hn : n < 18446744073709551616) (w : World) {B : Nat} {a : Nat → Addr} (hS : Sent B w a) :
    Calls Tryd.prog 21 #[.int .u64 (i : Int), .int .u64 (n : Int)] w fun x w' => x = .returned (.tuple #[.slice none 0 0, sen (a 4)]) ∧ Nw w w' := by
  have hc := (hS.fr (nwa w (.cells #[.int .u64 (i : Int)] 23)) (fun _ _ f => f)).c4
  have hw : (9223372036854775808 : Int) < (n : Int) ∨ (¬ (9223372036854775808 : Int) < (n : Int) ∧ (n : Int) ≤ (i : Int)) := by omega
  clear h hS
  rcases hw with hw | ⟨hw1, hw2⟩
  all_goals
    go_enter Tryd.func21, Tryd.ntmps21
    go_wp2
    go_quiet (fail)
    go_wp2
    exact bodyPost_ret (v := .tuple #[.slice none 0 0, sen (a 4)]) (by simp [results, Tryd.results21]) rfl ⟨rfl, (nwa w _).drewN nq⟩
set_option maxHeartbeats 1000000 in
theorem proof_no (i n : Nat) (h : ¬ (0 < i ∧ i ≤ n ∧ n ≤ 9223372036854775808)) (hi : i < 18446744073709551616) (hn : n < 18446744073709551616) (w : World) {B : Nat} {a : Nat → Addr} (hS : Sent B w a) :
    Calls Tryd.prog 22 #[.int .u64 (i : Int), .int .u64 (n : Int)] w fun x w' => x = .returned (.tuple #[.slice none 0 0, sen (a 4)]) ∧ Nw w w' := by
  have hc := (hS.fr (nwa w (.cells #[.int .u64 (i : Int)] 23)) (fun _ _ f => f)).c4
  have hw : (9223372036854775808 : Int) < (n : Int) ∨ (¬ (9223372036854775808 : Int) < (n : Int) ∧ ((i : Int) == 0) = true) ∨ (¬ (9223372036854775808 : Int) < (n : Int) ∧ ((i : Int) == 0) = false ∧ (n : Int) < (i : Int)) := by simp; omega
  clear h hS
  rcases hw with hw | ⟨hw1, hw2⟩ | ⟨hw1, hw2, hw3⟩
  all_goals
    go_enter Tryd.func22, Tryd.ntmps22
    go_wp2
    go_quiet (fail)
    go_wp2
    exact bodyPost_ret (v := .tuple #[.slice none 0 0, sen (a 4)]) (by simp [results, Tryd.results22]) rfl ⟨rfl, (nwa w _).drewN nq⟩
set_option maxHeartbeats 1000000 in
theorem batch_no (x y n : Nat) (h : ¬ (x < y ∧ y ≤ n ∧ n ≤ 9223372036854775808)) (hx : x < 18446744073709551616) (hy : y < 18446744073709551616) (hn : n < 18446744073709551616) (w : World) {B : Nat} {a : Nat → Addr} (hS : Sent B w a) :
    Calls Tryd.prog 23 #[.int .u64 (x : Int), .int .u64 (y : Int), .int .u64 (n : Int)] w fun z w' => z = .returned (.tuple #[.slice none 0 0, sen (a 4)]) ∧ Nw w w' := by
  have hc := hS.c4
  have hw : (9223372036854775808 : Int) < (n : Int) ∨ (¬ (9223372036854775808 : Int) < (n : Int) ∧ (n : Int) < (y : Int)) ∨ (¬ (9223372036854775808 : Int) < (n : Int) ∧ ¬ (n : Int) < (y : Int) ∧ (y : Int) ≤ (x : Int)) := by omega
  clear h hS
  rcases hw with hw | ⟨hw1, hw2⟩ | ⟨hw1, hw2, hw3⟩
  all_goals
    go_enter Tryd.func23, Tryd.ntmps23
    go_wp2
    go_quiet (fail)
    go_wp2
    exact bodyPost_ret (v := .tuple #[.slice none 0 0, sen (a 4)]) (by simp [results, Tryd.results23]) rfl ⟨rfl, (nwr w).drewN nq⟩

end Go.Proofs.YthkkjpefealdgaaDoor
