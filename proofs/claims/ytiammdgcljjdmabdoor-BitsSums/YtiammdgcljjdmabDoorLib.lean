/- What math/bits answers at every number (how many bits, how many ones, how many noughts at the end), and what the program's Below and Log make of it. -/
import Derived.Test.YtiammdgcljjdmabDoorProg
import Derived.Test.YtiammdgcljjdmabDoorPlain
import Derived.Test.YtiammdgcljjdmabDoorLen
import Derived.WalkKit
import Derived.WalkSpells
import Derived.WalkLawsBesides
import Derived.Laws.Bits64b
namespace Go.Proofs.YtiammdgcljjdmabDoor
open Go.RowKit
set_option linter.unusedVariables false

theorem w64 (n : Int) : IntKind.u64.wrap n = n % 18446744073709551616 := by simp [IntKind.wrap, IntKind.bits, IntKind.signed]
theorem ret_i {k : IntKind} {a b : Int} (h : a = b) : Ending.returned (.int k a) = .returned (.int k b) := by rw [h]

theorem pow_cast (k : Nat) : ((2 ^ k : Nat) : Int) = 2 ^ k := by norm_cast
theorem len64_of (x : Int) (k : Nat) (w : World) (hk : k ≤ 63) (h1 : (2 : Int) ^ k ≤ x) (h2 : x < 2 * 2 ^ k) :
    Calls Tryd.prog 22 #[.int .u64 x] w fun e w' => e = .returned (.int .i64 (k + 1)) ∧ w' = w := by
  have h3 : (2 : Nat) ^ k ≤ 2 ^ 63 := Nat.pow_le_pow_right (by decide) hk
  have h4 : (2 : Nat) ^ 63 = 9223372036854775808 := by decide
  have h5 := Nat.two_pow_pos k
  rw [← pow_cast] at h1 h2
  have b := bitLen_of x.toNat k hk (by omega) (by omega)
  have c := len64_any x w (by omega) (by omega)
  rw [b] at c
  exact_mod_cast c
theorem len64_zero (w : World) : Calls Tryd.prog 22 #[.int .u64 0] w fun e w' => e = .returned (.int .i64 0) ∧ w' = w :=
  len64_any 0 w (by omega) (by omega)

set_option maxHeartbeats 400000 in
theorem highest_of (x : Int) (k : Nat) (w : World) (hk : k ≤ 63) (h1 : (2 : Int) ^ k ≤ x) (h2 : x < 2 * 2 ^ k) :
    Calls Tryd.prog 19 #[.int .u64 x] w fun e w' => e = .returned (.int .u64 (2 ^ k)) ∧ w' = w := by
  have h3 : (2 : Nat) ^ k ≤ 2 ^ 63 := Nat.pow_le_pow_right (by decide) hk
  have h4 : (2 : Nat) ^ 63 = 9223372036854775808 := by decide
  have hm : min k 64 = k := by omega
  have hw : IntKind.u64.wrap (2 ^ k) = 2 ^ k := by
    have h6 := pow_cast k
    rw [w64, ← h6]; omega
  go_enter Tryd.func19, Tryd.ntmps19
  go_wp2_with (go_at_call 22; refine (len64_of _ k _ hk h1 h2).mono ?_; rintro e w' ⟨rfl, rfl⟩)
  go_ret
  first
    | exact ⟨rfl, rfl⟩
    | (refine ⟨ret_i ?_, rfl⟩; simp [hm, hw])

set_option maxHeartbeats 400000 in
theorem below_of (n : Int) (k : Nat) (w : World) (hk : k ≤ 63) (h1 : (2 : Int) ^ k < n) (h2 : n ≤ 2 * 2 ^ k) :
    Calls Tryd.prog 12 #[.int .u64 n] w fun e w' => e = .returned (.tuple #[.int .u64 (2 ^ k), .bool true]) ∧ w' = w := by
  have h3 : (2 : Nat) ^ k ≤ 2 ^ 63 := Nat.pow_le_pow_right (by decide) hk
  have h4 : (2 : Nat) ^ 63 = 9223372036854775808 := by decide
  have h5 := Nat.two_pow_pos k
  have h6 := pow_cast k
  have hn : 2 ≤ n := by omega
  have hn' : n ≤ 18446744073709551616 := by omega
  clear h3 h4 h5 h6
  go_enter Tryd.func12, Tryd.ntmps12
  go_wp2_with (go_at_call 19; refine (highest_of _ k _ hk (by omega) (by omega)).mono ?_; rintro e w' ⟨rfl, rfl⟩)
  go_ret2
  exact ⟨rfl, rfl⟩
theorem below_no (n : Int) (w : World) (h0 : 0 ≤ n) (h1 : n < 2) :
    Calls Tryd.prog 12 #[.int .u64 n] w fun e w' => e = .returned (.tuple #[.int .u64 0, .bool false]) ∧ w' = w := by
  go_enter Tryd.func12, Tryd.ntmps12
  go_wp2
  go_ret2
  exact ⟨rfl, rfl⟩
set_option maxHeartbeats 400000 in
theorem log_of (n : Int) (k : Nat) (w : World) (hk : k ≤ 63) (h1 : (2 : Int) ^ k < n) (h2 : n ≤ 2 * 2 ^ k) :
    Calls Tryd.prog 13 #[.int .u64 n] w fun e w' => e = .returned (.tuple #[.int .i64 (k + 1), .bool true]) ∧ w' = w := by
  have h3 : (2 : Nat) ^ k ≤ 2 ^ 63 := Nat.pow_le_pow_right (by decide) hk
  have h4 : (2 : Nat) ^ 63 = 9223372036854775808 := by decide
  have h5 := Nat.two_pow_pos k
  have h6 := pow_cast k
  have hn : 2 ≤ n := by omega
  have hn' : n ≤ 18446744073709551616 := by omega
  have hz : (n == 0) = false := by simp; omega
  clear h3 h4 h5 h6
  go_enter Tryd.func13, Tryd.ntmps13
  go_wp2_with (go_at_call 22; refine (len64_of _ k _ hk (by omega) (by omega)).mono ?_; rintro e w' ⟨rfl, rfl⟩)
  go_ret2
  exact ⟨rfl, rfl⟩
theorem log_one (w : World) :
    Calls Tryd.prog 13 #[.int .u64 1] w fun e w' => e = .returned (.tuple #[.int .i64 0, .bool true]) ∧ w' = w := by
  go_enter Tryd.func13, Tryd.ntmps13
  go_wp2_with (go_at_call 22; refine (len64_zero _).mono ?_; rintro e w' ⟨rfl, rfl⟩)
  go_ret2
  exact ⟨rfl, rfl⟩
theorem log_zero (w : World) :
    Calls Tryd.prog 13 #[.int .u64 0] w fun e w' => e = .returned (.tuple #[.int .i64 0, .bool false]) ∧ w' = w := by
  go_enter Tryd.func13, Tryd.ntmps13
  go_wp2
  go_ret2
  exact ⟨rfl, rfl⟩

/- how many noughts at the end: the table lies in its variable -/
def TabAt (w : World) : Prop := ∀ j, j < 64 → w.cell? ⟨0, j, none⟩ = some (.int .u8 (Lib.deBruijn64tab.getD j 0))
/- the walk, step by step: the lowest one alone, the product, the place in the table, what stands there -/
set_option maxHeartbeats 1000000 in
theorem tz_walk (X b q i k : Nat) (w : World) (hn : ((X : Int) == 0) = false) (hb : bits BinOp.and IntKind.u64 (X : Int) (IntKind.u64.wrap (-(X : Int))) = (b : Int))
    (hq : IntKind.u64.wrap ((b : Int) * 285870213051353865) = (q : Int)) (hi : (q : Int) / 288230376151711744 = (i : Int)) (hi2 : i < 64) (hk : k < 64) (hc : w.cell? ⟨0, i, none⟩ = some (.int .u8 k)) :
    Calls Tryd.prog 21 #[.int .u64 X] w fun e w' => e = .returned (.int .i64 k) ∧ w' = w := by
  go_enter Tryd.func21, Tryd.ntmps21
  go_wp2
  go_ret
  exact ⟨rfl, rfl⟩
theorem tz_none (w : World) : Calls Tryd.prog 21 #[.int .u64 0] w fun e w' => e = .returned (.int .i64 64) ∧ w' = w := by
  go_enter Tryd.func21, Tryd.ntmps21
  go_wp2
  go_ret
  exact ⟨rfl, rfl⟩
theorem tz_any (X : Nat) (h : X < 18446744073709551616) (w : World) (hT : TabAt w) :
    Calls Tryd.prog 21 #[.int .u64 X] w fun e w' => e = .returned (.int .i64 (Lib.ctz 64 X)) ∧ w' = w := by
  rcases Nat.eq_zero_or_pos X with rfl | hpos
  · exact tz_none w
  · have hl := Lib.lowest_bit 64 X (by omega) h
    have ht := Lib.deBruijn64_at _ hl.2
    have neg : IntKind.u64.wrap (-(X : Int)) = ((18446744073709551616 - X : Nat) : Int) := by rw [w64]; omega
    have hb : bits BinOp.and IntKind.u64 (X : Int) (IntKind.u64.wrap (-(X : Int))) = ((2 ^ Lib.ctz 64 X : Nat) : Int) := by
      rw [neg, bits_and_u64_nat X (18446744073709551616 - X) h (by omega)]
      exact congrArg Int.ofNat hl.1
    have hq : IntKind.u64.wrap (((2 ^ Lib.ctz 64 X : Nat) : Int) * 285870213051353865) = ((2 ^ Lib.ctz 64 X * 285870213051353865 % 18446744073709551616 : Nat) : Int) := by rw [w64]; omega
    have hc := hT _ ht.1
    rw [ht.2] at hc
    exact tz_walk X _ _ _ _ w (by simp; omega) hb hq (by omega) ht.1 hl.2 hc
/- the ones at a number's end, as the program asks for them: of all bits turned -/
theorem tz_not (x : Int) (w : World) (h0 : 0 ≤ x) (h1 : x ≤ 18446744073709551615) (hT : TabAt w) :
    Calls Tryd.prog 21 #[.int .u64 (18446744073709551615 - x)] w fun e w' => e = .returned (.int .i64 (ones 64 x.toNat)) ∧ w' = w := by
  have c := tz_any (18446744073709551615 - x.toNat) (by omega) w hT
  have e := ctz_ones 64 x.toNat (by omega)
  have e2 : 2 ^ 64 - 1 - x.toNat = 18446744073709551615 - x.toNat := rfl
  rw [← e, e2]
  have e3 : ((18446744073709551615 - x.toNat : Nat) : Int) = 18446744073709551615 - x := by omega
  rw [e3] at c
  exact c

/- how many ones -/
theorem oc_core (X a1 a2 b1 b2 c r : Int) (w : World) (x0 : 0 ≤ X) (x1 : X ≤ 18446744073709551615)
    (e1 : bits BinOp.and IntKind.u64 (X / 2) 6148914691236517205 = a1) (e2 : bits BinOp.and IntKind.u64 X 6148914691236517205 = a2)
    (e3 : bits BinOp.and IntKind.u64 ((a1 + a2) / 4) 3689348814741910323 = b1) (e4 : bits BinOp.and IntKind.u64 (a1 + a2) 3689348814741910323 = b2)
    (e5 : bits BinOp.and IntKind.u64 ((b1 + b2) / 16 + (b1 + b2)) 1085102592571150095 = c)
    (e6 : bits BinOp.and IntKind.i64 (c + c / 256 + (c + c / 256) / 65536 + (c + c / 256 + (c + c / 256) / 65536) / 4294967296) 127 = r)
    (ha1 : 0 ≤ a1) (ha2 : 0 ≤ a2) (ha3 : a1 ≤ 6148914691236517205) (ha4 : a2 ≤ 6148914691236517205)
    (hb1 : 0 ≤ b1) (hb2 : 0 ≤ b2) (hb3 : b1 ≤ 3689348814741910323) (hb4 : b2 ≤ 3689348814741910323)
    (hc1 : 0 ≤ c) (hc2 : c ≤ 578721382704613384) :
    Calls Tryd.prog 20 #[.int .u64 X] w fun e w' => e = .returned (.int .i64 r) ∧ w' = w := by
  go_enter Tryd.func20, Tryd.ntmps20
  go_wp2
  go_ret
  exact ⟨rfl, rfl⟩

theorem and_cast (a b : Nat) (ha : a < 18446744073709551616) (hb : b < 18446744073709551616) : bits BinOp.and IntKind.u64 (a : Int) (b : Int) = ((a &&& b : Nat) : Int) := bits_and_u64_nat a b ha hb
theorem and_127 (t : Nat) (h : t < 9223372036854775808) : bits BinOp.and IntKind.i64 (t : Int) 127 = ((t % 128 : Nat) : Int) := by
  have h1 : (BitVec.ofInt 64 (t : Int)).toNat = t := by
    rw [BitVec.ofInt_natCast, BitVec.toNat_ofNat]; exact Nat.mod_eq_of_lt (by omega)
  have h2 : (BitVec.ofInt 64 (127 : Int)).toNat = 127 := by decide
  show IntKind.i64.wrap ((BitVec.ofInt 64 (t : Int) &&& BitVec.ofInt 64 (127 : Int)).toNat : Int) = _
  rw [BitVec.toNat_and, h1, h2]
  have h3 : t &&& 127 = t % 128 := Nat.and_two_pow_sub_one_eq_mod t 7
  rw [h3, IntKind.wrap_i64]
  omega
theorem oc_any (x : Int) (w : World) (h0 : 0 ≤ x) (h1 : x ≤ 18446744073709551615) :
    Calls Tryd.prog 20 #[.int .u64 x] w fun e w' => e = .returned (.int .i64 (Lib.popAux 64 x.toNat)) ∧ w' = w := by
  obtain ⟨X, rfl⟩ : ∃ X : Nat, x = X := ⟨x.toNat, by omega⟩
  have m0 : mask 85 8 = 6148914691236517205 := by decide +kernel
  have m1 : mask 51 8 = 3689348814741910323 := by decide +kernel
  have m2 : mask 15 8 = 1085102592571150095 := by decide +kernel
  have m3 : mask 8 8 = 578721382704613384 := by decide +kernel
  have la : sa 8 X = (X / 2 &&& 6148914691236517205) + (X &&& 6148914691236517205) := by unfold sa; rw [m0]
  have lb : sb 8 (sa 8 X) = (sa 8 X / 4 &&& 3689348814741910323) + (sa 8 X &&& 3689348814741910323) := by unfold sb; rw [m1]
  have lc : sc 8 (sb 8 (sa 8 X)) = (sb 8 (sa 8 X) / 16 + sb 8 (sa 8 X)) &&& 1085102592571150095 := by unfold sc; rw [m2]
  have r := pop_ps X
  have l := ps_le 8 X
  rw [m3] at l
  have e := scba 8 X
  have A1 : X / 2 &&& 6148914691236517205 ≤ 6148914691236517205 := Nat.and_le_right
  have A2 : X &&& 6148914691236517205 ≤ 6148914691236517205 := Nat.and_le_right
  have B1 : sa 8 X / 4 &&& 3689348814741910323 ≤ 3689348814741910323 := Nat.and_le_right
  have B2 : sa 8 X &&& 3689348814741910323 ≤ 3689348814741910323 := Nat.and_le_right
  rw [Int.toNat_natCast, ← r]
  have f1 := and_cast (X / 2) 6148914691236517205 (by omega) (by omega)
  have f2 := and_cast X 6148914691236517205 (by omega) (by omega)
  have f3 := and_cast (sa 8 X / 4) 3689348814741910323 (by omega) (by omega)
  have f4 := and_cast (sa 8 X) 3689348814741910323 (by omega) (by omega)
  have f5 := and_cast (sb 8 (sa 8 X) / 16 + sb 8 (sa 8 X)) 1085102592571150095 (by omega) (by omega)
  rw [← lc, e] at f5
  have hl : hor (ps 8 X) < 9223372036854775808 := by unfold hor; omega
  have f6 := and_127 (hor (ps 8 X)) hl
  refine oc_core (X : Int) ((X / 2 &&& 6148914691236517205 : Nat) : Int) ((X &&& 6148914691236517205 : Nat) : Int) ((sa 8 X / 4 &&& 3689348814741910323 : Nat) : Int) ((sa 8 X &&& 3689348814741910323 : Nat) : Int) ((ps 8 X : Nat) : Int) _ w (by omega) (by omega) ?_ ?_ ?_ ?_ ?_ ?_ (by omega) (by omega) (by omega) (by omega) (by omega) (by omega) (by omega) (by omega) (by omega) (by omega)
  · exact f1
  · exact f2
  · rw [← Int.natCast_add, ← la]; exact f3
  · rw [← Int.natCast_add, ← la]; exact f4
  · rw [← Int.natCast_add, ← lb]; exact f5
  · unfold hor at f6; exact f6
end Go.Proofs.YtiammdgcljjdmabDoor
