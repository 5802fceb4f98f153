/- What math/bits answers at every number (how many bits, how many ones, how many noughts at the end), and what the program's Below and Log make of it. -/
import Derived.Test.YtaeocbdphfkflaaDoorProg
import Derived.Test.YtaeocbdphfkflaaDoorBpl
import Derived.Test.YtaeocbdphfkflaaDoorLen
import Derived.WalkKit
import Derived.WalkSpells
import Derived.WalkLawsBesides
import Derived.Laws.Bits64b
import Derived.Laws.Bits64
namespace Go.Proofs.YtaeocbdphfkflaaDoor
open Go.RowKit
set_option linter.unusedVariables false

theorem w64 (n : Int) : IntKind.u64.wrap n = n % 18446744073709551616 := by simp [IntKind.wrap, IntKind.bits, IntKind.signed]
theorem ret_i {k : IntKind} {a b : Int} (h : a = b) : Ending.returned (.int k a) = .returned (.int k b) := by rw [h]

theorem pow_cast (k : Nat) : ((2 ^ k : Nat) : Int) = 2 ^ k := by norm_cast
/- how many noughts at the end: the table lies in its variable -/
/- the walk, step by step: the lowest one alone, the product, the place in the table, what stands there -/
/- the ones at a number's end, as the program asks for them: of all bits turned -/
theorem not_nat (X : Nat) (h : X < 18446744073709551616) : 18446744073709551615 ^^^ X = 18446744073709551615 - X := by
  have h1 : (~~~ (BitVec.ofNat 64 X)).toNat = 2 ^ 64 - 1 - (BitVec.ofNat 64 X).toNat := BitVec.toNat_not
  have h2 : (BitVec.ofNat 64 X).toNat = X := by rw [BitVec.toNat_ofNat]; exact Nat.mod_eq_of_lt (by omega)
  have h3 : ~~~ (BitVec.ofNat 64 X) = BitVec.allOnes 64 ^^^ BitVec.ofNat 64 X := BitVec.not_def
  rw [h3, BitVec.toNat_xor, h2, BitVec.toNat_allOnes] at h1
  exact h1
theorem not_u64 (x : Int) (h0 : 0 ≤ x) (h1 : x ≤ 18446744073709551615) : bits BinOp.xor IntKind.u64 IntKind.u64.max x = 18446744073709551615 - x := by
  obtain ⟨X, rfl⟩ : ∃ X : Nat, x = X := ⟨x.toNat, by omega⟩
  have e : IntKind.u64.max = ((18446744073709551615 : Nat) : Int) := by decide
  rw [e, bits_xor_u64_nat _ X (by omega) (by omega), not_nat X (by omega)]
  omega
end Go.Proofs.YtaeocbdphfkflaaDoor
