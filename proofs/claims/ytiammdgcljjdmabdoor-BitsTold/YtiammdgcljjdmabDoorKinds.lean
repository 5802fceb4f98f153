/- What Ones and Count of each kind, the reference's Ones and Count, and the law's own first look ('alive') answer, at every number. -/
import Derived.Test.YtiammdgcljjdmabDoorLib
import Derived.WalkKit
import Derived.WalkSpells
import Derived.WalkLawsBesides
import Derived.Laws.Bits64
namespace Go.Proofs.YtiammdgcljjdmabDoor
open Go.RowKit
set_option linter.unusedVariables false

theorem not_nat (X : Nat) (h : X < 18446744073709551616) : 18446744073709551615 ^^^ X = 18446744073709551615 - X := by
  have h1 : (~~~ (BitVec.ofNat 64 X)).toNat = 2 ^ 64 - 1 - (BitVec.ofNat 64 X).toNat := BitVec.toNat_not
  have h2 : (BitVec.ofNat 64 X).toNat = X := by rw [BitVec.toNat_ofNat]; exact Nat.mod_eq_of_lt (by omega)
  have h3 : ~~~ (BitVec.ofNat 64 X) = BitVec.allOnes 64 ^^^ BitVec.ofNat 64 X := BitVec.not_def
  rw [h3, BitVec.toNat_xor, h2, BitVec.toNat_allOnes] at h1
  exact h1
theorem not_u64 (x : Int) (h0 : 0 ≤ x) (h1 : x ≤ 18446744073709551615) : bits BinOp.xor IntKind.u64 IntKind.u64.max x = 18446744073709551615 - x := by
  obtain ⟨X, rfl⟩ : ∃ X : Nat, x = X := ⟨x.toNat, by omega⟩
  have e : IntKind.u64.max = ((18446744073709551615 : Nat) : Int) := by decide
  rw [e, bits_xor_u64_nat _ X (by omega) (by omega), not_nat X (by omega)]
  omega
theorem tz_xor (x : Int) (w : World) (h0 : 0 ≤ x) (h1 : x ≤ 18446744073709551615) (hT : TabAt w) :
    Calls Tryd.prog 21 #[.int .u64 (bits BinOp.xor IntKind.u64 IntKind.u64.max x)] w fun e w' => e = .returned (.int .i64 (ones 64 x.toNat)) ∧ w' = w := by
  rw [not_u64 x h0 h1]
  exact tz_not x w h0 h1 hT

theorem ones16 (x : Int) (w : World) (h0 : 0 ≤ x) (h1 : x ≤ 255) (hT : TabAt w) :
    Calls Tryd.prog 16 #[.int .u8 x] w fun e w' => e = .returned (.int .i64 (ones 64 x.toNat)) ∧ w' = w := by
  go_enter Tryd.func16, Tryd.ntmps16
  go_wp2_with (go_at_call 21; refine (tz_xor x _ h0 (by omega) hT).mono ?_; rintro e w' ⟨rfl, rfl⟩)
  go_ret
  exact ⟨rfl, rfl⟩

theorem ones11 (x : Int) (w : World) (h0 : 0 ≤ x) (h1 : x ≤ 18446744073709551615) (hT : TabAt w) :
    Calls Tryd.prog 11 #[.int .u64 x] w fun e w' => e = .returned (.int .i64 (ones 64 x.toNat)) ∧ w' = w := by
  go_enter Tryd.func11, Tryd.ntmps11
  go_wp2_with (go_at_call 21; refine (tz_xor x _ h0 (by omega) hT).mono ?_; rintro e w' ⟨rfl, rfl⟩)
  go_ret
  exact ⟨rfl, rfl⟩

theorem count17 (x : Int) (w : World) (h0 : 0 ≤ x) (h1 : x ≤ 255) :
    Calls Tryd.prog 17 #[.int .u8 x] w fun e w' => e = .returned (.int .i64 (Lib.popAux 64 x.toNat)) ∧ w' = w := by
  go_enter Tryd.func17, Tryd.ntmps17
  go_wp2_with (go_at_call 20; refine (oc_any x _ h0 (by omega)).mono ?_; rintro e w' ⟨rfl, rfl⟩)
  go_ret
  exact ⟨rfl, rfl⟩

theorem count10 (x : Int) (w : World) (h0 : 0 ≤ x) (h1 : x ≤ 18446744073709551615) :
    Calls Tryd.prog 10 #[.int .u64 x] w fun e w' => e = .returned (.int .i64 (Lib.popAux 64 x.toNat)) ∧ w' = w := by
  go_enter Tryd.func10, Tryd.ntmps10
  go_wp2_with (go_at_call 20; refine (oc_any x _ h0 (by omega)).mono ?_; rintro e w' ⟨rfl, rfl⟩)
  go_ret
  exact ⟨rfl, rfl⟩

theorem add_yes (w : World) : Calls Tryd.prog 14 #[.int .u8 200, .int .u8 55] w fun e w' => e = .returned (.tuple #[.int .u8 255, .bool true]) ∧ w' = w := by
  go_enter Tryd.func14, Tryd.ntmps14
  go_wp2
  go_ret2
  exact ⟨rfl, rfl⟩
theorem add_no (w : World) : Calls Tryd.prog 14 #[.int .u8 200, .int .u8 56] w fun e w' => e = .returned (.tuple #[.int .u8 0, .bool false]) ∧ w' = w := by
  go_enter Tryd.func14, Tryd.ntmps14
  go_wp2
  go_ret2
  exact ⟨rfl, rfl⟩
theorem add_two (b v : Int) (ok : Bool) (w : World) (h : (b = 55 ∧ v = 255 ∧ ok = true) ∨ (b = 56 ∧ v = 0 ∧ ok = false)) : Calls Tryd.prog 14 #[.int .u8 200, .int .u8 b] w fun e w' => e = .returned (.tuple #[.int .u8 v, .bool ok]) ∧ w' = w := by
  rcases h with ⟨rfl, rfl, rfl⟩ | ⟨rfl, rfl, rfl⟩
  · exact add_yes w
  · exact add_no w
theorem left_yes (w : World) : Calls Tryd.prog 15 #[.int .u8 3, .int .i64 6] w fun e w' => e = .returned (.tuple #[.int .u8 192, .bool true]) ∧ w' = w := by
  go_enter Tryd.func15, Tryd.ntmps15
  go_wp2
  go_ret2
  exact ⟨rfl, rfl⟩
theorem ones_11 (w : World) (hT : TabAt w) : Calls Tryd.prog 16 #[.int .u8 11] w fun e w' => e = .returned (.int .i64 2) ∧ w' = w := by
  have e : ones 64 (11 : Int).toNat = 2 := by decide +kernel
  have c := ones16 11 w (by omega) (by omega) hT
  rw [e] at c
  exact c
theorem count_11 (w : World) : Calls Tryd.prog 17 #[.int .u8 11] w fun e w' => e = .returned (.int .i64 3) ∧ w' = w := by
  have e : Lib.popAux 64 (11 : Int).toNat = 3 := by decide +kernel
  have c := count17 11 w (by omega) (by omega)
  rw [e] at c
  exact c
theorem below_5 (w : World) : Calls Tryd.prog 12 #[.int .u64 5] w fun e w' => e = .returned (.tuple #[.int .u64 4, .bool true]) ∧ w' = w := below_of 5 2 w (by omega) (by omega) (by omega)
theorem log_5 (w : World) : Calls Tryd.prog 13 #[.int .u64 5] w fun e w' => e = .returned (.tuple #[.int .i64 3, .bool true]) ∧ w' = w := log_of 5 2 w (by omega) (by omega) (by omega)
set_option maxRecDepth 100000 in
set_option maxHeartbeats 1000000 in
theorem alive_t (w : World) (hT : TabAt w) : Calls Tryd.prog 7 #[] w fun e w' => e = .returned (.bool true) ∧ w' = w := by
  go_enter Tryd.func7, Tryd.ntmps7
  go_wp2_with (first
    | (go_at_call 12; refine (below_5 _).mono ?_; rintro e w' ⟨rfl, rfl⟩)
    | (go_at_call 13; refine (log_5 _).mono ?_; rintro e w' ⟨rfl, rfl⟩)
    | (go_at_call 14; refine (add_two _ 255 true _ (by decide)).mono ?_; rintro e w' ⟨rfl, rfl⟩)
    | (go_at_call 14; refine (add_two _ 0 false _ (by decide)).mono ?_; rintro e w' ⟨rfl, rfl⟩)
    | (go_at_call 15; refine (left_yes _).mono ?_; rintro e w' ⟨rfl, rfl⟩)
    | (go_at_call 16; refine (ones_11 _ hT).mono ?_; rintro e w' ⟨rfl, rfl⟩)
    | (go_at_call 17; refine (count_11 _).mono ?_; rintro e w' ⟨rfl, rfl⟩))
  go_ret
  exact ⟨rfl, rfl⟩
/- how many ones a power of two has -/
theorem count_pow (k : Nat) (w : World) (hk : k ≤ 63) : Calls Tryd.prog 10 #[.int .u64 (2 ^ k)] w fun e w' => e = .returned (.int .i64 1) ∧ w' = w := by
  have h3 : (2 : Nat) ^ k ≤ 2 ^ 63 := Nat.pow_le_pow_right (by decide) hk
  have h4 : (2 : Nat) ^ 63 = 9223372036854775808 := by decide
  have h5 := Nat.two_pow_pos k
  have h6 := pow_cast k
  have c := count10 (2 ^ k) w (by omega) (by omega)
  have e : ((2 : Int) ^ k).toNat = 2 ^ k := by omega
  have e2 := pop_pow ⟨k, by omega⟩
  simp only at e2
  rw [e, e2] at c
  exact c
end Go.Proofs.YtiammdgcljjdmabDoor
