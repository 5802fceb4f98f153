/- What the parts of package coord answer: which trees and stretches may be. -/
import Derived.Test.YthkkjpefealdgaaDoorBase
import Derived.Test.YthkkjpefealdgaaDoorM1
import Derived.Test.YthkkjpefealdgaaDoorLb
import Derived.WalkSpells
import Derived.WalkLawsBesides
namespace Go.Proofs.YthkkjpefealdgaaDoor
open Go.RowKit
set_option linter.unusedVariables false
set_option linter.unusedSimpArgs false

/-- A tree, and a stretch, as values. -/
abbrev cd (L I : Nat) : Value := .agg #[.int .u8 (L : Int), .int .u64 (I : Int)]
abbrev sp (b e : Nat) : Value := .agg #[.int .u64 (b : Int), .int .u64 (e : Int)]

theorem nwa (w : World) (o : Obj) : Nw w (w.alloc o) := (Fr.refl _ _).alloc _
theorem nwr (w : World) : Nw w w := Fr.refl _ _
theorem ret_b {a b : Bool} (h : a = b) : Ending.returned (.bool a) = .returned (.bool b) := by rw [h]
theorem castd (I k : Nat) : (I : Int) / 2 ^ k = ((I / 2 ^ k : Nat) : Int) := by rw [← pow_cast]; exact (Int.natCast_ediv _ _).symm
theorem castm (I k : Nat) : (I : Int) * 2 ^ k = ((I * 2 ^ k : Nat) : Int) := by rw [← pow_cast]; exact (Int.natCast_mul _ _).symm
theorem p63 : (2 : Nat) ^ 63 = 9223372036854775808 := by decide
set_option maxHeartbeats 1000000 in
theorem tmb (L I : Nat) (b : Bool) (hb : b = true ↔ may L I) (hL : L ≤ 255) (hI : I < 18446744073709551616) (w : World) :
    Calls Tryd.prog 48 #[cd L I] w fun e w' => e = .returned (.bool b) ∧ Nw w w' := by
  have HB : Hid (b = true ↔ may L I) := hb
  clear hb
  by_cases h : L ≤ 63
  · go_enter Tryd.func48, Tryd.ntmps48
    go_wp2
    go_ret
    refine ⟨ret_b ?_, nwa w _⟩
    rw [Bool.eq_iff_iff, HB.out, may_div h, castd, beq_iff_eq]
    omega
  · have hn : ¬ may L I := fun k => h k.1
    obtain rfl : b = false := by rcases b with _ | _; rfl; exact absurd (HB.out.1 rfl) hn
    go_enter Tryd.func48, Tryd.ntmps48
    go_wp2
    go_ret
    exact ⟨rfl, nwa w _⟩

end Go.Proofs.YthkkjpefealdgaaDoor
