/- What math/bits answers at every number (how many bits, how many ones, how many noughts at the end), and what the program's Below and Log make of it. -/
import Derived.Test.YtjkhcplnedcmeaaGreatDoorProg
import Derived.Test.YtjkhcplnedcmeaaGreatDoorBpl
import Derived.Test.YtjkhcplnedcmeaaGreatDoorLen
import Derived.WalkKit
import Derived.WalkSpells
import Derived.WalkLawsBesides
import Derived.Laws.Bits64b
import Derived.Laws.Bits64
namespace Go.Proofs.YtjkhcplnedcmeaaGreatDoor
open Go.RowKit
set_option linter.unusedVariables false

theorem w64 (n : Int) : IntKind.u64.wrap n = n % 18446744073709551616 := by simp [IntKind.wrap, IntKind.bits, IntKind.signed]
theorem pow_cast (k : Nat) : ((2 ^ k : Nat) : Int) = 2 ^ k := by norm_cast
theorem len64_of (x : Int) (k : Nat) (w : World) (hk : k ≤ 63) (h1 : (2 : Int) ^ k ≤ x) (h2 : x < 2 * 2 ^ k) :
    Calls Tryz.prog 66 #[.int .u64 x] w fun e w' => e = .returned (.int .i64 (k + 1)) ∧ w' = w := by
  have h3 : (2 : Nat) ^ k ≤ 2 ^ 63 := Nat.pow_le_pow_right (by decide) hk
  have h4 : (2 : Nat) ^ 63 = 9223372036854775808 := by decide
  have h5 := Nat.two_pow_pos k
  rw [← pow_cast] at h1 h2
  have b := bitLen_of x.toNat k hk (by omega) (by omega)
  have c := len64_any x w (by omega) (by omega)
  rw [b] at c
  exact_mod_cast c
set_option maxHeartbeats 400000 in
theorem log_of (n : Int) (k : Nat) (w : World) (hk : k ≤ 63) (h1 : (2 : Int) ^ k < n) (h2 : n ≤ 2 * 2 ^ k) :
    Calls Tryz.prog 19 #[.int .u64 n] w fun e w' => e = .returned (.tuple #[.int .i64 (k + 1), .bool true]) ∧ w' = w := by
  have h3 : (2 : Nat) ^ k ≤ 2 ^ 63 := Nat.pow_le_pow_right (by decide) hk
  have h4 : (2 : Nat) ^ 63 = 9223372036854775808 := by decide
  have h5 := Nat.two_pow_pos k
  have h6 := pow_cast k
  have hn : 2 ≤ n := by omega
  have hn' : n ≤ 18446744073709551616 := by omega
  have hz : (n == 0) = false := by simp; omega
  clear h3 h4 h5 h6
  go_enter Tryz.func19, Tryz.ntmps19
  go_wp2_with (go_at_call 66; refine (len64_of _ k _ hk (by omega) (by omega)).mono ?_; rintro e w' ⟨rfl, rfl⟩)
  go_ret2
  exact ⟨rfl, rfl⟩
/- how many noughts at the end: the table lies in its variable -/
def TabAt (w : World) : Prop := ∀ j, j < 64 → w.cell? ⟨20, j, none⟩ = some (.int .u8 (Lib.deBruijn64tab.getD j 0))
/- the walk, step by step: the lowest one alone, the product, the place in the table, what stands there -/
set_option maxHeartbeats 1000000 in
theorem tz_walk (X b q i k : Nat) (w : World) (hn : ((X : Int) == 0) = false) (hb : bits BinOp.and IntKind.u64 (X : Int) (IntKind.u64.wrap (-(X : Int))) = (b : Int))
    (hq : IntKind.u64.wrap ((b : Int) * 285870213051353865) = (q : Int)) (hi : (q : Int) / 288230376151711744 = (i : Int)) (hi2 : i < 64) (hk : k < 64) (hc : w.cell? ⟨20, i, none⟩ = some (.int .u8 k)) :
    Calls Tryz.prog 227 #[.int .u64 X] w fun e w' => e = .returned (.int .i64 k) ∧ w' = w := by
  go_enter Tryz.func227, Tryz.ntmps227
  go_wp2
  go_ret
  exact ⟨rfl, rfl⟩
theorem tz_none (w : World) : Calls Tryz.prog 227 #[.int .u64 0] w fun e w' => e = .returned (.int .i64 64) ∧ w' = w := by
  go_enter Tryz.func227, Tryz.ntmps227
  go_wp2
  go_ret
  exact ⟨rfl, rfl⟩
theorem tz_any (X : Nat) (h : X < 18446744073709551616) (w : World) (hT : TabAt w) :
    Calls Tryz.prog 227 #[.int .u64 X] w fun e w' => e = .returned (.int .i64 (Lib.ctz 64 X)) ∧ w' = w := by
  rcases Nat.eq_zero_or_pos X with rfl | hpos
  · exact tz_none w
  · have hl := Lib.lowest_bit 64 X (by omega) h
    have ht := Lib.deBruijn64_at _ hl.2
    have neg : IntKind.u64.wrap (-(X : Int)) = ((18446744073709551616 - X : Nat) : Int) := by rw [w64]; omega
    have hb : bits BinOp.and IntKind.u64 (X : Int) (IntKind.u64.wrap (-(X : Int))) = ((2 ^ Lib.ctz 64 X : Nat) : Int) := by
      rw [neg, bits_and_u64_nat X (18446744073709551616 - X) h (by omega)]
      exact congrArg Int.ofNat hl.1
    have hq : IntKind.u64.wrap (((2 ^ Lib.ctz 64 X : Nat) : Int) * 285870213051353865) = ((2 ^ Lib.ctz 64 X * 285870213051353865 % 18446744073709551616 : Nat) : Int) := by rw [w64]; omega
    have hc := hT _ ht.1
    rw [ht.2] at hc
    exact tz_walk X _ _ _ _ w (by simp; omega) hb hq (by omega) ht.1 hl.2 hc
/- the ones at a number's end, as the program asks for them: of all bits turned -/
theorem tz_not (x : Int) (w : World) (h0 : 0 ≤ x) (h1 : x ≤ 18446744073709551615) (hT : TabAt w) :
    Calls Tryz.prog 227 #[.int .u64 (18446744073709551615 - x)] w fun e w' => e = .returned (.int .i64 (ones 64 x.toNat)) ∧ w' = w := by
  have c := tz_any (18446744073709551615 - x.toNat) (by omega) w hT
  have e := ctz_ones 64 x.toNat (by omega)
  have e2 : 2 ^ 64 - 1 - x.toNat = 18446744073709551615 - x.toNat := rfl
  rw [← e, e2]
  have e3 : ((18446744073709551615 - x.toNat : Nat) : Int) = 18446744073709551615 - x := by omega
  rw [e3] at c
  exact c

theorem not_nat (X : Nat) (h : X < 18446744073709551616) : 18446744073709551615 ^^^ X = 18446744073709551615 - X := by
  have h1 : (~~~ (BitVec.ofNat 64 X)).toNat = 2 ^ 64 - 1 - (BitVec.ofNat 64 X).toNat := BitVec.toNat_not
  have h2 : (BitVec.ofNat 64 X).toNat = X := by rw [BitVec.toNat_ofNat]; exact Nat.mod_eq_of_lt (by omega)
  have h3 : ~~~ (BitVec.ofNat 64 X) = BitVec.allOnes 64 ^^^ BitVec.ofNat 64 X := BitVec.not_def
  rw [h3, BitVec.toNat_xor, h2, BitVec.toNat_allOnes] at h1
  exact h1
theorem not_u64 (x : Int) (h0 : 0 ≤ x) (h1 : x ≤ 18446744073709551615) : bits BinOp.xor IntKind.u64 IntKind.u64.max x = 18446744073709551615 - x := by
  obtain ⟨X, rfl⟩ : ∃ X : Nat, x = X := ⟨x.toNat, by omega⟩
  have e : IntKind.u64.max = ((18446744073709551615 : Nat) : Int) := by decide
  rw [e, bits_xor_u64_nat _ X (by omega) (by omega), not_nat X (by omega)]
  omega
theorem tz_xor (x : Int) (w : World) (h0 : 0 ≤ x) (h1 : x ≤ 18446744073709551615) (hT : TabAt w) :
    Calls Tryz.prog 227 #[.int .u64 (bits BinOp.xor IntKind.u64 IntKind.u64.max x)] w fun e w' => e = .returned (.int .i64 (ones 64 x.toNat)) ∧ w' = w := by
  rw [not_u64 x h0 h1]
  exact tz_not x w h0 h1 hT

theorem ones_any (x : Int) (w : World) (h0 : 0 ≤ x) (h1 : x ≤ 18446744073709551615) (hT : TabAt w) :
    Calls Tryz.prog 211 #[.int .u64 x] w fun e w' => e = .returned (.int .i64 (ones 64 x.toNat)) ∧ w' = w := by
  go_enter Tryz.func211, Tryz.ntmps211
  go_wp2_with (go_at_call 227; refine (tz_xor x _ h0 (by omega) hT).mono ?_; rintro e w' ⟨rfl, rfl⟩)
  go_ret
  exact ⟨rfl, rfl⟩

end Go.Proofs.YtjkhcplnedcmeaaGreatDoor
