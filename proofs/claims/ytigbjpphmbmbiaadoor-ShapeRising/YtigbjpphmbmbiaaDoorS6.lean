/- What package shape refuses; Peaks. -/
import Derived.Test.YtigbjpphmbmbiaaDoorS4
import Derived.Test.YtigbjpphmbmbiaaDoorS5
import Derived.Test.YtigbjpphmbmbiaaDoorE6
namespace Go.Proofs.YtigbjpphmbmbiaaDoor
open Go.RowKit
set_option linter.unusedVariables false
set_option linter.unusedSimpArgs false

set_option maxHeartbeats 1000000 in
theorem cover_no (b e : Nat) (h : ¬ (b ≤ e ∧ e ≤ 9223372036854775808)) (hb : b < 18446744073709551616) (he : e < 18446744073709551616) (w : World) {B : Nat} {a : Nat → Addr} (hS : Sent B w a) :
    Calls Tryd.prog 24 #[sp b e] w fun x w' => x = .returned (.tuple #[.slice none 0 0, sen (a 4)]) ∧ Nw w w' := by
  go_enter Tryd.func24, Tryd.ntmps24
  go_wp2_with fail
  refine (smb b e false (by simp; omega) (by omega) (by omega) _).mono ?_
  rintro x w1 ⟨rfl, n1⟩
  obtain ⟨l0, b0, n2⟩ := one_made n1
  have hc := (hS.fr n2 (fun _ _ f => f)).c4
  clear n1 b0 hS
  go_wp2
  go_quiet (fail)
  go_wp2
  exact bodyPost_ret (v := .tuple #[.slice none 0 0, sen (a 4)]) (by simp [results, Tryd.results24]) rfl ⟨rfl, n2.drewN nq⟩
set_option maxHeartbeats 1000000 in
theorem path_no (i n : Nat) (h : ¬ (i < n ∧ n ≤ 9223372036854775808)) (hi : i < 18446744073709551616) (hn : n < 18446744073709551616) (w : World) {B : Nat} {a : Nat → Addr} (hS : Sent B w a) :
    Calls Tryd.prog 5 #[.int .u64 (i : Int), .int .u64 (n : Int)] w fun x w' => x = .returned (.tuple #[.slice none 0 0, sen (a 4)]) ∧ Nw w w' := by
  have hc := (hS.fr (nwa w (.cells #[.int .u64 (i : Int)] 22)) (fun _ _ f => f)).c4
  have hw : (9223372036854775808 : Int) < (n : Int) ∨ (¬ (9223372036854775808 : Int) < (n : Int) ∧ (n : Int) ≤ (i : Int)) := by omega
  clear h hS
  rcases hw with hw | ⟨hw1, hw2⟩
  all_goals
    go_enter Tryd.func5, Tryd.ntmps5
    go_wp2
    go_quiet (fail)
    go_wp2
    exact bodyPost_ret (v := .tuple #[.slice none 0 0, sen (a 4)]) (by simp [results, Tryd.results5]) rfl ⟨rfl, (nwa w _).drewN nq⟩
set_option maxHeartbeats 1000000 in
theorem proof_no (i n : Nat) (h : ¬ (0 < i ∧ i ≤ n ∧ n ≤ 9223372036854775808)) (hi : i < 18446744073709551616) (hn : n < 18446744073709551616) (w : World) {B : Nat} {a : Nat → Addr} (hS : Sent B w a) :
    Calls Tryd.prog 15 #[.int .u64 (i : Int), .int .u64 (n : Int)] w fun x w' => x = .returned (.tuple #[.slice none 0 0, sen (a 4)]) ∧ Nw w w' := by
  have hc := (hS.fr (nwa w (.cells #[.int .u64 (i : Int)] 22)) (fun _ _ f => f)).c4
  have hw : (9223372036854775808 : Int) < (n : Int) ∨ (¬ (9223372036854775808 : Int) < (n : Int) ∧ ((i : Int) == 0) = true) ∨ (¬ (9223372036854775808 : Int) < (n : Int) ∧ ((i : Int) == 0) = false ∧ (n : Int) < (i : Int)) := by simp; omega
  clear h hS
  rcases hw with hw | ⟨hw1, hw2⟩ | ⟨hw1, hw2, hw3⟩
  all_goals
    go_enter Tryd.func15, Tryd.ntmps15
    go_wp2
    go_quiet (fail)
    go_wp2
    exact bodyPost_ret (v := .tuple #[.slice none 0 0, sen (a 4)]) (by simp [results, Tryd.results15]) rfl ⟨rfl, (nwa w _).drewN nq⟩
set_option maxHeartbeats 1000000 in
theorem batch_no (x y n : Nat) (h : ¬ (x < y ∧ y ≤ n ∧ n ≤ 9223372036854775808)) (hx : x < 18446744073709551616) (hy : y < 18446744073709551616) (hn : n < 18446744073709551616) (w : World) {B : Nat} {a : Nat → Addr} (hS : Sent B w a) :
    Calls Tryd.prog 9 #[.int .u64 (x : Int), .int .u64 (y : Int), .int .u64 (n : Int)] w fun z w' => z = .returned (.tuple #[.slice none 0 0, sen (a 4)]) ∧ Nw w w' := by
  have hc := hS.c4
  have hw : (9223372036854775808 : Int) < (n : Int) ∨ (¬ (9223372036854775808 : Int) < (n : Int) ∧ (n : Int) < (y : Int)) ∨ (¬ (9223372036854775808 : Int) < (n : Int) ∧ ¬ (n : Int) < (y : Int) ∧ (y : Int) ≤ (x : Int)) := by omega
  clear h hS
  rcases hw with hw | ⟨hw1, hw2⟩ | ⟨hw1, hw2, hw3⟩
  all_goals
    go_enter Tryd.func9, Tryd.ntmps9
    go_wp2
    go_quiet (fail)
    go_wp2
    exact bodyPost_ret (v := .tuple #[.slice none 0 0, sen (a 4)]) (by simp [results, Tryd.results9]) rfl ⟨rfl, (nwr w).drewN nq⟩

set_option maxHeartbeats 1000000 in
theorem peaks_yes (n : Nat) (hn : n ≤ 9223372036854775808) (w : World) (hT : TabAt w) :
    Calls Tryd.prog 16 #[.int .u64 (n : Int)] w fun x w' => ∃ v, x = .returned (.tuple #[v, .nilIface]) ∧ w'.ownsRow w.heap.size 48 2 v (cov 0 n).length (fl (cov 0 n)) ∧ Nw w w' := by
  have q := cover_yes 0 n (by omega) hn w hT
  clear hT
  go_enter Tryd.func16, Tryd.ntmps16
  go_wp2_with fail
  refine q.mono ?_
  rintro x w1 ⟨v, rfl, o1, n1⟩
  obtain ⟨va, vc, rfl⟩ := ownsRow_form o1
  have O1 := show Hid _ from o1
  have N1 : Hid (Nw w w1) := n1
  clear o1 n1
  go_wp2_with fail
  exact bodyPost_ret (v := .tuple #[.slice va (cov 0 n).length vc, .nilIface]) (by simp [results, Tryd.results16]) rfl ⟨_, rfl, O1.out, N1.out⟩
set_option maxHeartbeats 1000000 in
theorem peaks_no (n : Nat) (h : ¬ n ≤ 9223372036854775808) (hn : n < 18446744073709551616) (w : World) {B : Nat} {a : Nat → Addr} (hS : Sent B w a) :
    Calls Tryd.prog 16 #[.int .u64 (n : Int)] w fun x w' => x = .returned (.tuple #[.slice none 0 0, sen (a 4)]) ∧ Nw w w' := by
  have q := cover_no 0 n (by omega) (by omega) hn w hS
  clear hS
  go_enter Tryd.func16, Tryd.ntmps16
  go_wp2_with fail
  refine q.mono ?_
  rintro x w1 ⟨rfl, n1⟩
  have N1 : Hid (Nw w w1) := n1
  clear n1
  go_wp2_with fail
  exact bodyPost_ret (v := .tuple #[.slice none 0 0, sen (a 4)]) (by simp [results, Tryd.results16]) rfl ⟨rfl, N1.out⟩
end Go.Proofs.YtigbjpphmbmbiaaDoor
