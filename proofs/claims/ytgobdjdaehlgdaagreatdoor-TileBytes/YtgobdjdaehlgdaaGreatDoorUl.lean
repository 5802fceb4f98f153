/- tile: names that are none, Decode refused. -/
import Derived.Test.YtgobdjdaehlgdaaGreatDoorUi
import Derived.Test.YtgobdjdaehlgdaaGreatDoorUc
import Derived.Test.YtgobdjdaehlgdaaGreatDoorTz
namespace Go.Proofs.YtgobdjdaehlgdaaGreatDoor
open Go.RowKit
open Go.Lib (decDigits nDigits)
set_option linter.unusedVariables false
set_option linter.unusedSimpArgs false
theorem dg0 : decDigits 0 = [48] := by rw [Go.Lib.decDigits_one (by decide)]; decide
theorem dg1 : decDigits 1 = [49] := by rw [Go.Lib.decDigits_one (by decide)]; decide
theorem nm_c : nm 0 1 256 = [116, 105, 108, 101, 47, 48, 47, 48, 48, 49] := by
  unfold nm
  rw [dg0, dg1, if_neg (by decide), show pad3 [49] = [48, 48, 49] from by decide, thrL_le _ (by decide)]
  decide
theorem nm_d : nm 0 0 256 = [116, 105, 108, 101, 47, 48, 47, 48, 48, 48] := by
  unfold nm
  rw [dg0, if_neg (by decide), show pad3 [48] = [48, 48, 48] from by decide, thrL_le _ (by decide)]
  decide
theorem nm_e : nm 1 1000 1 = [116, 105, 108, 101, 47, 49, 47, 120, 48, 48, 49, 47, 48, 48, 48, 46, 112, 47, 49] := by
  have d : decDigits 1000 = [49, 48, 48, 48] := by
    rw [dec_big (by decide), dec_big (by decide), dec_big (by decide), Go.Lib.decDigits_one (by decide)]
    decide
  unfold nm
  rw [d, dg1, if_pos (by decide), show pad3 [49, 48, 48, 48] = [48, 48, 49, 48, 48, 48] from by decide, thrL_gt _ (by decide)]
  simp only [List.take, List.drop]
  rw [thrL_le _ (by decide)]
  decide
/-- The names that are none. -/
def bads : List ByteArray := [⟨#[116, 105, 108, 101, 47, 48, 47, 49]⟩, ⟨#[116, 105, 108, 101, 47, 48, 47, 48, 48, 48, 49]⟩, ⟨#[116, 105, 108, 101, 47, 48, 47, 120, 48, 48, 48, 47, 48, 48, 49]⟩, ⟨#[116, 105, 108, 101, 47, 48, 47, 48, 48, 49, 46, 112, 47, 50, 53, 54]⟩, ⟨#[116, 105, 108, 101, 47, 48, 47, 48, 48, 49, 46, 112, 47, 48, 52, 52]⟩, ⟨#[116, 105, 108, 101, 47, 56, 47, 48, 48, 48]⟩, ⟨#[116, 105, 108, 101, 47, 48, 47, 48, 48, 49, 47]⟩, ⟨#[]⟩]
theorem bad_no {s : ByteArray} (hs : s ∈ bads) (V : World) (hP : TX.Pow V) (hM : MaxL V) {B : Nat} {a : Nat → Addr} (hS : Sent B V a) : Calls Tryz.prog 15 #[.string s] V fun e w' => e = .returned (.tuple #[tl 0 0 0, sen (a 2)]) ∧ Nw V w' := by
  simp only [bads, List.mem_cons, List.not_mem_nil, or_false] at hs
  rcases hs with rfl | rfl | rfl | rfl | rfl | rfl | rfl | rfl
  · have q := parse_any ⟨#[116, 105, 108, 101, 47, 48, 47, 49]⟩ (by decide) 0 1 256 false (by decide +kernel) (by decide +kernel) (by decide +kernel) ⟨(fun h => by cases h), fun ⟨h1, h2⟩ => (show False from by rw [show (256 : Int).toNat = 256 from rfl, nm_c] at h2; revert h2; decide).elim⟩ V hP hM hS
    simp only [Bool.false_eq_true, if_false] at q
    exact q
  · have q := parse_any ⟨#[116, 105, 108, 101, 47, 48, 47, 48, 48, 48, 49]⟩ (by decide) 0 1 256 false (by decide +kernel) (by decide +kernel) (by decide +kernel) ⟨(fun h => by cases h), fun ⟨h1, h2⟩ => (show False from by rw [show (256 : Int).toNat = 256 from rfl, nm_c] at h2; revert h2; decide).elim⟩ V hP hM hS
    simp only [Bool.false_eq_true, if_false] at q
    exact q
  · have q := parse_any ⟨#[116, 105, 108, 101, 47, 48, 47, 120, 48, 48, 48, 47, 48, 48, 49]⟩ (by decide) 0 1 256 false (by decide +kernel) (by decide +kernel) (by decide +kernel) ⟨(fun h => by cases h), fun ⟨h1, h2⟩ => (show False from by rw [show (256 : Int).toNat = 256 from rfl, nm_c] at h2; revert h2; decide).elim⟩ V hP hM hS
    simp only [Bool.false_eq_true, if_false] at q
    exact q
  · have q := parse_any ⟨#[116, 105, 108, 101, 47, 48, 47, 48, 48, 49, 46, 112, 47, 50, 53, 54]⟩ (by decide) 0 1 256 false (by decide +kernel) (by decide +kernel) (by decide +kernel) ⟨(fun h => by cases h), fun ⟨h1, h2⟩ => (show False from by rw [show (256 : Int).toNat = 256 from rfl, nm_c] at h2; revert h2; decide).elim⟩ V hP hM hS
    simp only [Bool.false_eq_true, if_false] at q
    exact q
  · have q := parse_any ⟨#[116, 105, 108, 101, 47, 48, 47, 48, 48, 49, 46, 112, 47, 48, 52, 52]⟩ (by decide) 0 1 44 false (by decide +kernel) (by decide +kernel) (by decide +kernel) ⟨(fun h => by cases h), fun ⟨h1, h2⟩ => (show False from by rw [show (44 : Int).toNat = 44 from rfl, nm_b] at h2; revert h2; decide).elim⟩ V hP hM hS
    simp only [Bool.false_eq_true, if_false] at q
    exact q
  · have q := parse_any ⟨#[116, 105, 108, 101, 47, 56, 47, 48, 48, 48]⟩ (by decide) 8 0 256 false (by decide +kernel) (by decide +kernel) (by decide +kernel) ⟨(fun h => by cases h), fun ⟨h1, h2⟩ => (show False from by revert h1; decide +kernel).elim⟩ V hP hM hS
    simp only [Bool.false_eq_true, if_false] at q
    exact q
  · have q := parse_any ⟨#[116, 105, 108, 101, 47, 48, 47, 48, 48, 49, 47]⟩ (by decide) 0 1 256 false (by decide +kernel) (by decide +kernel) (by decide +kernel) ⟨(fun h => by cases h), fun ⟨h1, h2⟩ => (show False from by rw [show (256 : Int).toNat = 256 from rfl, nm_c] at h2; revert h2; decide).elim⟩ V hP hM hS
    simp only [Bool.false_eq_true, if_false] at q
    exact q
  · have q := parse_any ⟨#[]⟩ (by decide) 0 0 256 false (by decide +kernel) (by decide +kernel) (by decide +kernel) ⟨(fun h => by cases h), fun ⟨h1, h2⟩ => (show False from by rw [show (256 : Int).toNat = 256 from rfl, nm_d] at h2; revert h2; decide).elim⟩ V hP hM hS
    simp only [Bool.false_eq_true, if_false] at q
    exact q
set_option maxRecDepth 100000 in
theorem dec_arg (s : ByteArray) (W : Int) (h : W < 1) (w : World) {B : Nat} {a : Nat → Addr} (hS : Sent B w a) :
    Calls Tryz.prog 21 #[.string s, .int .i64 W] w fun e w' => e = .returned (.tuple #[.slice none 0 0, sen (a 1)]) ∧ Nw w w' := by
  have e1 := hS.c1
  clear hS
  go_enter Tryz.func21, Tryz.ntmps21
  go_wp2_with fail
  go_quiet (fail)
  go_wp2
  go_ret2
  exact ⟨rfl, (nwr w).drewN nq⟩
set_option maxRecDepth 100000 in
theorem dec_in (s : ByteArray) (W : Nat) (h1 : 1 ≤ W) (h2 : W ≤ 256) (hs : s.size ≤ 1048576) (h : s.size ≠ 32 * W) (w : World) {B : Nat} {a : Nat → Addr} (hS : Sent B w a) :
    Calls Tryz.prog 21 #[.string s, .int .i64 (W : Int)] w fun e w' => e = .returned (.tuple #[.slice none 0 0, sen (a 2)]) ∧ Nw w w' := by
  have e1 := hS.c2
  have hn : ((s.size : Int) != 32 * (W : Int)) = true := by simp; omega
  clear hS h
  go_enter Tryz.func21, Tryz.ntmps21
  go_wp2_with fail
  go_quiet (fail)
  go_wp2
  go_ret2
  exact ⟨rfl, (nwr w).drewN nq⟩
end Go.Proofs.YtgobdjdaehlgdaaGreatDoor
