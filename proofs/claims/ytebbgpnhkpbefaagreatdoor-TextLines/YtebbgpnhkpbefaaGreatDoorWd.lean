/- The marks of texts. -/
import Derived.Test.YtebbgpnhkpbefaaGreatDoorSh
import Derived.Test.YtebbgpnhkpbefaaGreatDoorBase
import Derived.Lib.AppendIntMem
import Derived.Lib.ItoaLen
import Derived.Laws.Concat
namespace Go.Proofs.YtebbgpnhkpbefaaGreatDoor
open Go.RowKit
set_option linter.unusedVariables false
set_option linter.unusedSimpArgs false

/-- The powers of ten lie as the library lays them. -/
abbrev Pow (w : World) : Prop := Lib.TabIs Tryz.prog w "internal/strconv.uint64pow10" .u64 Lib.pow10Tab
/-- The mark of a number. -/
def mkw (m : Nat) : ByteArray := (⟨#[35]⟩ : ByteArray) ++ ⟨(Lib.itoa (m : Int)).toArray⟩
/-- As a value. -/
abbrev mkt (m : Nat) : Value := .string (mkw m)
theorem add_any (a b : ByteArray) (h : a.size + b.size ≤ 9223372036854775807) : ∀ W : World, (Op.stringOp .add a b).run Tryz.prog W = .ok (.string (a ++ b)) W := fun W => run_string_add_sum W a b h
theorem mark_small (m : Nat) (hm : m ≤ 100) : (⟨(Lib.itoa (m : Int)).toArray⟩ : ByteArray).size ≤ 21 := by
  have := Lib.itoa_length_le (m : Int) (by omega) (by omega)
  show (Lib.itoa (m : Int)).toArray.size ≤ 21
  simpa using this
set_option maxRecDepth 100000 in
theorem word_m (m : Nat) (hm : m ≤ 100) (w : World) (hP : Pow w) : Calls Tryz.prog 126 #[.int .i64 (m : Int)] w fun e w' => e = .returned (.string (mkw m)) ∧ Nw w w' := by
  have q1 := Tryz.strconv_Itoa (m : Int) (by omega) (by omega) w hP
  have hs := mark_small m hm
  unfold mkw
  generalize (⟨(Lib.itoa (m : Int)).toArray⟩ : ByteArray) = X at q1 hs ⊢
  have hadd := add_any ⟨#[35]⟩ X (by have h1 : (⟨#[35]⟩ : ByteArray).size = 1 := rfl; omega)
  go_enter Tryz.func126, Tryz.ntmps126
  go_wp2_with fail
  refine q1.mono ?_
  rintro e1 w1 ⟨rfl, k, os, rfl⟩
  have n1 : Nw w (Go.Sort.grow (w.drewN k) os) := Fr.ofBelow (Lib.below_grow _ w (Nat.le_refl _) k os)
  generalize Go.Sort.grow (w.drewN k) os = w1 at n1 ⊢
  clear q1
  go_wp2_with fail
  go_ret
  exact ⟨rfl, n1⟩
theorem mark_m (m : Nat) (hm : m ≤ 100) (w : World) (hP : Pow w) : Calls Tryz.prog 85 #[.int .i64 (m : Int)] w fun e w' => e = .returned (mkt m) ∧ Nw w w' := by
  have q1 := word_m m hm w hP
  unfold mkt
  generalize mkw m = X at q1 ⊢
  go_enter Tryz.func85, Tryz.ntmps85
  go_wp2_with fail
  refine q1.mono ?_
  rintro e1 w1 ⟨rfl, n1⟩
  clear q1
  go_wp2_with fail
  go_ret
  exact ⟨rfl, n1⟩
theorem is_mark (m : Nat) (hm : m ≤ 100) (w : World) (hP : Pow w) : Calls Tryz.prog 101 #[mkt m, .int .i64 (m : Int)] w fun e w' => e = .returned (.bool true) ∧ Nw w w' := by
  have q1 := word_m m hm w hP
  unfold mkt
  generalize mkw m = X at q1 ⊢
  go_enter Tryz.func101, Tryz.ntmps101
  go_wp2_with fail
  refine q1.mono ?_
  rintro e1 w1 ⟨rfl, n1⟩
  clear q1
  go_wp2_with fail
  go_ret
  exact ⟨by simp, n1⟩
end Go.Proofs.YtebbgpnhkpbefaaGreatDoor
