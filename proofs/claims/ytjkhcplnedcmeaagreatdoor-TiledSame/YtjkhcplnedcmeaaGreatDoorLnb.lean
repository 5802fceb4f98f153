/- How many bits math/bits.Len64 says that a number wants, at every number. -/
import Derived.Test.YtjkhcplnedcmeaaGreatDoorProg
import Derived.Lib.Strings
import Derived.Lib.Slices
import Derived.Lib.Small
import Derived.Lib.Walk
import Derived.Lib.BitFns
import Derived.Test.YtjkhcplnedcmeaaGreatDoorBpl
import Derived.WalkKit
import Derived.WalkSpells
import Derived.WalkLawsBesides
import Derived.Laws.Bits64b
import Derived.Laws.Bits64
namespace Go.Proofs.YtjkhcplnedcmeaaGreatDoor

/- the number is cut by 's' bits, what is left is a byte 'y': the table's answer, with its two wraps, is the length -/
theorem way (x y S : Int) (s d : Nat) (hS : S = (s : Int)) (hs : s ≤ 56) (hd : 2 ^ s = d) (h0 : 0 ≤ y) (h1 : y ≤ 255) (hy : y.toNat = x.toNat / d) (hx : d ≤ x.toNat) (hb : x.toNat < 18446744073709551616) :
    (S + ((Lib.len8 y + 9223372036854775808) % 18446744073709551616 - 9223372036854775808) + 9223372036854775808) % 18446744073709551616 - 9223372036854775808 = (Lib.bitLen x.toNat : Int) := by
  have e : Lib.bitLen x.toNat = s + Lib.bitLen y.toNat := by
    rw [hy, ← hd]
    exact Lib.bitLen_shift s x.toNat (by rw [hd]; exact hx) hb
  have l := Lib.bitLen_le8' y h0 h1
  rw [e, Lib.len8_of y h0 h1]
  clear e hy hx hb hd
  omega
theorem way_byte (x : Int) (h0 : 0 ≤ x) (h1 : x ≤ 255) : (Lib.len8 (x % 256) + 9223372036854775808) % 18446744073709551616 - 9223372036854775808 = (Lib.bitLen x.toNat : Int) := by
  have e : x % 256 = x := by omega
  have l := Lib.bitLen_le8' x h0 h1
  rw [e, Lib.len8_of x h0 h1]
  omega

set_option maxHeartbeats 4000000 in
set_option maxRecDepth 100000 in
theorem len64_any (x : Int) (w : World) (h0 : 0 ≤ x) (h1 : x ≤ 18446744073709551615) :
    Calls Tryz.prog 66 #[.int .u64 x] w fun e w' => e = .returned (.int .i64 (Lib.bitLen x.toNat)) ∧ w' = w := by
  have num : ∀ a : Int, a = (Lib.bitLen x.toNat : Int) → Ending.returned (.int .i64 a) = .returned (.int .i64 (Lib.bitLen x.toNat)) := fun a e => by rw [e]
  go_enter Tryz.func66, Tryz.ntmps66
  go_wp2
  all_goals
    go_ret
    refine ⟨num _ ?_, rfl⟩
  · exact way x (x / 4294967296 / 65536 / 256 % 256) 56 56 72057594037927936 (by decide) (by decide) (by decide) (by omega) (by omega) (by omega) (by omega) (by omega)
  · exact way x (x / 4294967296 / 65536 % 256) 48 48 281474976710656 (by decide) (by decide) (by decide) (by omega) (by omega) (by omega) (by omega) (by omega)
  · exact way x (x / 4294967296 / 256 % 256) 40 40 1099511627776 (by decide) (by decide) (by decide) (by omega) (by omega) (by omega) (by omega) (by omega)
  · exact way x (x / 4294967296 % 256) 32 32 4294967296 (by decide) (by decide) (by decide) (by omega) (by omega) (by omega) (by omega) (by omega)
  · exact way x (x / 65536 / 256 % 256) 24 24 16777216 (by decide) (by decide) (by decide) (by omega) (by omega) (by omega) (by omega) (by omega)
  · exact way x (x / 65536 % 256) 16 16 65536 (by decide) (by decide) (by decide) (by omega) (by omega) (by omega) (by omega) (by omega)
  · exact way x (x / 256 % 256) 8 8 256 (by decide) (by decide) (by decide) (by omega) (by omega) (by omega) (by omega) (by omega)
  · exact way_byte x (by omega) (by omega)
end Go.Proofs.YtjkhcplnedcmeaaGreatDoor
namespace Go.Proofs.YtjkhcplnedcmeaaGreatDoor
open Go.RowKit
set_option linter.unusedVariables false

theorem w64 (n : Int) : IntKind.u64.wrap n = n % 18446744073709551616 := by simp [IntKind.wrap, IntKind.bits, IntKind.signed]
theorem ret_i {k : IntKind} {a b : Int} (h : a = b) : Ending.returned (.int k a) = .returned (.int k b) := by rw [h]

theorem pow_cast (k : Nat) : ((2 ^ k : Nat) : Int) = 2 ^ k := by norm_cast
theorem len64_of (x : Int) (k : Nat) (w : World) (hk : k ≤ 63) (h1 : (2 : Int) ^ k ≤ x) (h2 : x < 2 * 2 ^ k) :
    Calls Tryz.prog 66 #[.int .u64 x] w fun e w' => e = .returned (.int .i64 (k + 1)) ∧ w' = w := by
  have h3 : (2 : Nat) ^ k ≤ 2 ^ 63 := Nat.pow_le_pow_right (by decide) hk
  have h4 : (2 : Nat) ^ 63 = 9223372036854775808 := by decide
  have h5 := Nat.two_pow_pos k
  rw [← pow_cast] at h1 h2
  have b := bitLen_of x.toNat k hk (by omega) (by omega)
  have c := len64_any x w (by omega) (by omega)
  rw [b] at c
  exact_mod_cast c
theorem len64_zero (w : World) : Calls Tryz.prog 66 #[.int .u64 0] w fun e w' => e = .returned (.int .i64 0) ∧ w' = w :=
  len64_any 0 w (by omega) (by omega)

set_option maxHeartbeats 400000 in
theorem log_of (n : Int) (k : Nat) (w : World) (hk : k ≤ 63) (h1 : (2 : Int) ^ k < n) (h2 : n ≤ 2 * 2 ^ k) :
    Calls Tryz.prog 19 #[.int .u64 n] w fun e w' => e = .returned (.tuple #[.int .i64 (k + 1), .bool true]) ∧ w' = w := by
  have h3 : (2 : Nat) ^ k ≤ 2 ^ 63 := Nat.pow_le_pow_right (by decide) hk
  have h4 : (2 : Nat) ^ 63 = 9223372036854775808 := by decide
  have h5 := Nat.two_pow_pos k
  have h6 := pow_cast k
  have hn : 2 ≤ n := by omega
  have hn' : n ≤ 18446744073709551616 := by omega
  have hz : (n == 0) = false := by simp; omega
  clear h3 h4 h5 h6
  go_enter Tryz.func19, Tryz.ntmps19
  go_wp2_with (go_at_call 66; refine (len64_of _ k _ hk (by omega) (by omega)).mono ?_; rintro e w' ⟨rfl, rfl⟩)
  go_ret2
  exact ⟨rfl, rfl⟩
theorem log_one (w : World) :
    Calls Tryz.prog 19 #[.int .u64 1] w fun e w' => e = .returned (.tuple #[.int .i64 0, .bool true]) ∧ w' = w := by
  go_enter Tryz.func19, Tryz.ntmps19
  go_wp2_with (go_at_call 66; refine (len64_zero _).mono ?_; rintro e w' ⟨rfl, rfl⟩)
  go_ret2
  exact ⟨rfl, rfl⟩
theorem log_zero (w : World) :
    Calls Tryz.prog 19 #[.int .u64 0] w fun e w' => e = .returned (.tuple #[.int .i64 0, .bool false]) ∧ w' = w := by
  go_enter Tryz.func19, Tryz.ntmps19
  go_wp2
  go_ret2
  exact ⟨rfl, rfl⟩

/- how many noughts at the end: the table lies in its variable -/
def TabAt (w : World) : Prop := ∀ j, j < 64 → w.cell? ⟨20, j, none⟩ = some (.int .u8 (Lib.deBruijn64tab.getD j 0))
/- the walk, step by step: the lowest one alone, the product, the place in the table, what stands there -/
set_option maxHeartbeats 1000000 in
theorem tz_walk (X b q i k : Nat) (w : World) (hn : ((X : Int) == 0) = false) (hb : bits BinOp.and IntKind.u64 (X : Int) (IntKind.u64.wrap (-(X : Int))) = (b : Int))
    (hq : IntKind.u64.wrap ((b : Int) * 285870213051353865) = (q : Int)) (hi : (q : Int) / 288230376151711744 = (i : Int)) (hi2 : i < 64) (hk : k < 64) (hc : w.cell? ⟨20, i, none⟩ = some (.int .u8 k)) :
    Calls Tryz.prog 227 #[.int .u64 X] w fun e w' => e = .returned (.int .i64 k) ∧ w' = w := by
  go_enter Tryz.func227, Tryz.ntmps227
  go_wp2
  go_ret
  exact ⟨rfl, rfl⟩
theorem tz_none (w : World) : Calls Tryz.prog 227 #[.int .u64 0] w fun e w' => e = .returned (.int .i64 64) ∧ w' = w := by
  go_enter Tryz.func227, Tryz.ntmps227
  go_wp2
  go_ret
  exact ⟨rfl, rfl⟩
theorem tz_any (X : Nat) (h : X < 18446744073709551616) (w : World) (hT : TabAt w) :
    Calls Tryz.prog 227 #[.int .u64 X] w fun e w' => e = .returned (.int .i64 (Lib.ctz 64 X)) ∧ w' = w := by
  rcases Nat.eq_zero_or_pos X with rfl | hpos
  · exact tz_none w
  · have hl := Lib.lowest_bit 64 X (by omega) h
    have ht := Lib.deBruijn64_at _ hl.2
    have neg : IntKind.u64.wrap (-(X : Int)) = ((18446744073709551616 - X : Nat) : Int) := by rw [w64]; omega
    have hb : bits BinOp.and IntKind.u64 (X : Int) (IntKind.u64.wrap (-(X : Int))) = ((2 ^ Lib.ctz 64 X : Nat) : Int) := by
      rw [neg, bits_and_u64_nat X (18446744073709551616 - X) h (by omega)]
      exact congrArg Int.ofNat hl.1
    have hq : IntKind.u64.wrap (((2 ^ Lib.ctz 64 X : Nat) : Int) * 285870213051353865) = ((2 ^ Lib.ctz 64 X * 285870213051353865 % 18446744073709551616 : Nat) : Int) := by rw [w64]; omega
    have hc := hT _ ht.1
    rw [ht.2] at hc
    exact tz_walk X _ _ _ _ w (by simp; omega) hb hq (by omega) ht.1 hl.2 hc
/- the ones at a number's end, as the program asks for them: of all bits turned -/
theorem tz_not (x : Int) (w : World) (h0 : 0 ≤ x) (h1 : x ≤ 18446744073709551615) (hT : TabAt w) :
    Calls Tryz.prog 227 #[.int .u64 (18446744073709551615 - x)] w fun e w' => e = .returned (.int .i64 (ones 64 x.toNat)) ∧ w' = w := by
  have c := tz_any (18446744073709551615 - x.toNat) (by omega) w hT
  have e := ctz_ones 64 x.toNat (by omega)
  have e2 : 2 ^ 64 - 1 - x.toNat = 18446744073709551615 - x.toNat := rfl
  rw [← e, e2]
  have e3 : ((18446744073709551615 - x.toNat : Nat) : Int) = 18446744073709551615 - x := by omega
  rw [e3] at c
  exact c

theorem not_nat (X : Nat) (h : X < 18446744073709551616) : 18446744073709551615 ^^^ X = 18446744073709551615 - X := by
  have h1 : (~~~ (BitVec.ofNat 64 X)).toNat = 2 ^ 64 - 1 - (BitVec.ofNat 64 X).toNat := BitVec.toNat_not
  have h2 : (BitVec.ofNat 64 X).toNat = X := by rw [BitVec.toNat_ofNat]; exact Nat.mod_eq_of_lt (by omega)
  have h3 : ~~~ (BitVec.ofNat 64 X) = BitVec.allOnes 64 ^^^ BitVec.ofNat 64 X := BitVec.not_def
  rw [h3, BitVec.toNat_xor, h2, BitVec.toNat_allOnes] at h1
  exact h1
theorem not_u64 (x : Int) (h0 : 0 ≤ x) (h1 : x ≤ 18446744073709551615) : bits BinOp.xor IntKind.u64 IntKind.u64.max x = 18446744073709551615 - x := by
  obtain ⟨X, rfl⟩ : ∃ X : Nat, x = X := ⟨x.toNat, by omega⟩
  have e : IntKind.u64.max = ((18446744073709551615 : Nat) : Int) := by decide
  rw [e, bits_xor_u64_nat _ X (by omega) (by omega), not_nat X (by omega)]
  omega
theorem tz_xor (x : Int) (w : World) (h0 : 0 ≤ x) (h1 : x ≤ 18446744073709551615) (hT : TabAt w) :
    Calls Tryz.prog 227 #[.int .u64 (bits BinOp.xor IntKind.u64 IntKind.u64.max x)] w fun e w' => e = .returned (.int .i64 (ones 64 x.toNat)) ∧ w' = w := by
  rw [not_u64 x h0 h1]
  exact tz_not x w h0 h1 hT

theorem ones_any (x : Int) (w : World) (h0 : 0 ≤ x) (h1 : x ≤ 18446744073709551615) (hT : TabAt w) :
    Calls Tryz.prog 211 #[.int .u64 x] w fun e w' => e = .returned (.int .i64 (ones 64 x.toNat)) ∧ w' = w := by
  go_enter Tryz.func211, Tryz.ntmps211
  go_wp2_with (go_at_call 227; refine (tz_xor x _ h0 (by omega) hT).mono ?_; rintro e w' ⟨rfl, rfl⟩)
  go_ret
  exact ⟨rfl, rfl⟩

end Go.Proofs.YtjkhcplnedcmeaaGreatDoor
