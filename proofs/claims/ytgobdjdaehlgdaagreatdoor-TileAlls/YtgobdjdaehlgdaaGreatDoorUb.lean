/- tile: some of the chapter's examples. -/
import Derived.Test.YtgobdjdaehlgdaaGreatDoorUa
namespace Go.Proofs.YtgobdjdaehlgdaaGreatDoor
open Go.RowKit
open Go.Lib (decDigits nDigits)
set_option linter.unusedVariables false
set_option linter.unusedSimpArgs false
theorem dec_big {u : Nat} (h : ¬ u < 10) : decDigits u = decDigits (u / 10) ++ [UInt8.ofNat (48 + u % 10)] := by rw [decDigits, dif_neg h]
theorem nm_a : nm 3 1234067 256 = [116, 105, 108, 101, 47, 51, 47, 120, 48, 48, 49, 47, 120, 50, 51, 52, 47, 48, 54, 55] := by
  have d : decDigits 1234067 = [49, 50, 51, 52, 48, 54, 55] := by
    rw [dec_big (by decide), dec_big (by decide), dec_big (by decide), dec_big (by decide), dec_big (by decide), dec_big (by decide), Go.Lib.decDigits_one (by decide)]
    decide
  have d3 : decDigits 3 = [51] := by rw [Go.Lib.decDigits_one (by decide)]; decide
  unfold nm
  rw [d, d3, if_neg (by decide), show pad3 [49, 50, 51, 52, 48, 54, 55] = [48, 48, 49, 50, 51, 52, 48, 54, 55] from by decide]
  rw [thrL_gt _ (by decide)]
  simp only [List.take, List.drop]
  rw [thrL_gt _ (by decide)]
  simp only [List.take, List.drop]
  rw [thrL_le _ (by decide)]
  decide
theorem nm_b : nm 0 1 44 = [116, 105, 108, 101, 47, 48, 47, 48, 48, 49, 46, 112, 47, 52, 52] := by
  have d : decDigits 44 = [52, 52] := by
    rw [dec_big (by decide), Go.Lib.decDigits_one (by decide)]
    decide
  have d0 : decDigits 0 = [48] := by rw [Go.Lib.decDigits_one (by decide)]; decide
  have d1 : decDigits 1 = [49] := by rw [Go.Lib.decDigits_one (by decide)]; decide
  unfold nm
  rw [d, d0, d1, if_pos (by decide), show pad3 [49] = [48, 48, 49] from by decide]
  rw [thrL_le _ (by decide)]
  decide
theorem rd_b : rdL [116, 105, 108, 101, 47, 48, 47, 48, 48, 49, 46, 112, 47, 52, 52] = 0 ∧ rdI [116, 105, 108, 101, 47, 48, 47, 48, 48, 49, 46, 112, 47, 52, 52] = 1 ∧ rdW [116, 105, 108, 101, 47, 48, 47, 48, 48, 49, 46, 112, 47, 52, 52] = 44 := by decide +kernel
theorem may_a : mayT 3 1234067 ((256 : Nat) : Int) := by decide +kernel
theorem may_b : mayT 0 1 44 := by decide +kernel
theorem mayc : may 9 1 := by unfold may; decide
theorem lit_of (V : World) : Calls Tryz.prog 80 #[.agg #[.int .u8 9, .int .u64 1]] V fun e w' => e = .returned (.tuple #[.agg #[.int .u8 1, .int .u64 0, .int .i64 256], .int .i64 2, .int .i64 2, .bool true]) ∧ Nw V w' := tof_yes 9 1 mayc V
theorem lit_in (V : World) : Calls Tryz.prog 26 #[.int .u8 0, .int .u64 1, .int .u64 300] V fun e w' => e = .returned (.tuple #[.agg #[.int .u8 0, .int .u64 1, .int .i64 44], .bool true]) ∧ Nw V w' := in_yes 0 1 300 44 (by decide) (by decide +kernel) (by decide) V
theorem lit_path (V : World) (hP : TX.Pow V) : Calls Tryz.prog 13 #[.agg #[.int .u8 3, .int .u64 1234067, .int .i64 256]] V fun e w' => e = .returned (.tuple #[.string ⟨#[116, 105, 108, 101, 47, 51, 47, 120, 48, 48, 49, 47, 120, 50, 51, 52, 47, 48, 54, 55]⟩, .nilIface]) ∧ Nw V w' := by
  have q := path_yes 3 1234067 256 may_a V hP
  rw [nm_a] at q
  exact q
theorem lit_parse (V : World) (hP : TX.Pow V) (hM : MaxL V) {B : Nat} {a : Nat → Addr} (hS : Sent B V a) : Calls Tryz.prog 15 #[.string ⟨#[116, 105, 108, 101, 47, 48, 47, 48, 48, 49, 46, 112, 47, 52, 52]⟩] V fun e w' => e = .returned (.tuple #[.agg #[.int .u8 0, .int .u64 1, .int .i64 44], .nilIface]) ∧ Nw V w' := by
  have q := parse_any ⟨#[116, 105, 108, 101, 47, 48, 47, 48, 48, 49, 46, 112, 47, 52, 52]⟩ (by decide) 0 1 44 true rd_b.1 rd_b.2.1 rd_b.2.2 (by
    refine ⟨fun _ => ⟨may_b, nm_b⟩, fun _ => rfl⟩) V hP hM hS
  simp only [if_true] at q
  exact q
end Go.Proofs.YtgobdjdaehlgdaaGreatDoor
