/- What Add of each kind, and the reference's Add, answer at every two numbers of the kind: the sum where it is at most the kind's greatest number, else 0 and false. -/
import Derived.Test.YtiammdgcljjdmaaProg
import Derived.Test.YtiammdgcljjdmaaBase
import Derived.WalkKit
import Derived.WalkSpells
import Derived.WalkLawsBesides
namespace Go.Proofs.Ytiammdgcljjdmaa
open Go.RowKit

def addV (m a b : Int) : Int := if a + b ≤ m then a + b else 0
def addOk (m a b : Int) : Bool := decide (a + b ≤ m)
theorem addV_pos {m a b : Int} (h : a + b ≤ m) : addV m a b = a + b := by simp [addV, h]
theorem addV_neg {m a b : Int} (h : ¬ a + b ≤ m) : addV m a b = 0 := by simp [addV, h]
theorem addOk_pos {m a b : Int} (h : a + b ≤ m) : addOk m a b = true := by simp [addOk, h]
theorem addOk_neg {m a b : Int} (h : ¬ a + b ≤ m) : addOk m a b = false := by simp [addOk, h]
theorem addV_bd {m a b : Int} (ha : 0 ≤ a) (hb : 0 ≤ b) (hm : 0 ≤ m) : 0 ≤ addV m a b ∧ addV m a b ≤ m := by
  unfold addV; split <;> omega

set_option maxHeartbeats 400000 in
theorem add16 (a b : Int) (w : World) (a0 : 0 ≤ a) (a1 : a ≤ 255) (b0 : 0 ≤ b) (b1 : b ≤ 255) :
    Calls Try.prog 16 #[.int .u8 a, .int .u8 b] w fun e w' => e = .returned (.tuple #[.int .u8 (addV 255 a b), .bool (addOk 255 a b)]) ∧ w' = w := by
  by_cases h : a + b ≤ 255
  · rw [addV_pos h, addOk_pos h]
    go_enter Try.func16, Try.ntmps16
    go_wp2
    go_ret2
    exact ⟨rfl, rfl⟩
  · rw [addV_neg h, addOk_neg h]
    go_enter Try.func16, Try.ntmps16
    go_wp2
    go_ret2
    exact ⟨rfl, rfl⟩

set_option maxHeartbeats 400000 in
theorem add18 (a b : Int) (w : World) (a0 : 0 ≤ a) (a1 : a ≤ 65535) (b0 : 0 ≤ b) (b1 : b ≤ 65535) :
    Calls Try.prog 18 #[.int .u16 a, .int .u16 b] w fun e w' => e = .returned (.tuple #[.int .u16 (addV 65535 a b), .bool (addOk 65535 a b)]) ∧ w' = w := by
  by_cases h : a + b ≤ 65535
  · rw [addV_pos h, addOk_pos h]
    go_enter Try.func18, Try.ntmps18
    go_wp2
    go_ret2
    exact ⟨rfl, rfl⟩
  · rw [addV_neg h, addOk_neg h]
    have hw : IntKind.u16.wrap (a + b) < a := by rw [wu16]; omega
    go_enter Try.func18, Try.ntmps18
    go_wp2
    go_ret2
    exact ⟨rfl, rfl⟩

set_option maxHeartbeats 400000 in
theorem add19 (a b : Int) (w : World) (a0 : 0 ≤ a) (a1 : a ≤ 4294967295) (b0 : 0 ≤ b) (b1 : b ≤ 4294967295) :
    Calls Try.prog 19 #[.int .u32 a, .int .u32 b] w fun e w' => e = .returned (.tuple #[.int .u32 (addV 4294967295 a b), .bool (addOk 4294967295 a b)]) ∧ w' = w := by
  by_cases h : a + b ≤ 4294967295
  · rw [addV_pos h, addOk_pos h]
    go_enter Try.func19, Try.ntmps19
    go_wp2
    go_ret2
    exact ⟨rfl, rfl⟩
  · rw [addV_neg h, addOk_neg h]
    go_enter Try.func19, Try.ntmps19
    go_wp2
    go_ret2
    exact ⟨rfl, rfl⟩

set_option maxHeartbeats 400000 in
theorem add20 (a b : Int) (w : World) (a0 : 0 ≤ a) (a1 : a ≤ 18446744073709551615) (b0 : 0 ≤ b) (b1 : b ≤ 18446744073709551615) :
    Calls Try.prog 20 #[.int .u64 a, .int .u64 b] w fun e w' => e = .returned (.tuple #[.int .u64 (addV 18446744073709551615 a b), .bool (addOk 18446744073709551615 a b)]) ∧ w' = w := by
  by_cases h : a + b ≤ 18446744073709551615
  · rw [addV_pos h, addOk_pos h]
    go_enter Try.func20, Try.ntmps20
    go_wp2
    go_ret2
    exact ⟨rfl, rfl⟩
  · rw [addV_neg h, addOk_neg h]
    have hw : IntKind.u64.wrap (a + b) < a := by rw [wu64]; omega
    go_enter Try.func20, Try.ntmps20
    go_wp2
    go_ret2
    exact ⟨rfl, rfl⟩

set_option maxHeartbeats 400000 in
theorem add21 (a b : Int) (w : World) (a0 : 0 ≤ a) (a1 : a ≤ 18446744073709551615) (b0 : 0 ≤ b) (b1 : b ≤ 18446744073709551615) :
    Calls Try.prog 21 #[.int .u64 a, .int .u64 b] w fun e w' => e = .returned (.tuple #[.int .u64 (addV 18446744073709551615 a b), .bool (addOk 18446744073709551615 a b)]) ∧ w' = w := by
  by_cases h : a + b ≤ 18446744073709551615
  · rw [addV_pos h, addOk_pos h]
    go_enter Try.func21, Try.ntmps21
    go_wp2
    go_ret2
    exact ⟨rfl, rfl⟩
  · rw [addV_neg h, addOk_neg h]
    have hw : IntKind.u64.wrap (a + b) < a := by rw [wu64]; omega
    go_enter Try.func21, Try.ntmps21
    go_wp2
    go_ret2
    exact ⟨rfl, rfl⟩

set_option maxHeartbeats 400000 in
theorem add22 (a b : Int) (w : World) (a0 : 0 ≤ a) (a1 : a ≤ 65535) (b0 : 0 ≤ b) (b1 : b ≤ 65535) :
    Calls Try.prog 22 #[.int .u16 a, .int .u16 b] w fun e w' => e = .returned (.tuple #[.int .u16 (addV 65535 a b), .bool (addOk 65535 a b)]) ∧ w' = w := by
  by_cases h : a + b ≤ 65535
  · rw [addV_pos h, addOk_pos h]
    go_enter Try.func22, Try.ntmps22
    go_wp2
    go_ret2
    exact ⟨rfl, rfl⟩
  · rw [addV_neg h, addOk_neg h]
    have hw : IntKind.u16.wrap (a + b) < a := by rw [wu16]; omega
    go_enter Try.func22, Try.ntmps22
    go_wp2
    go_ret2
    exact ⟨rfl, rfl⟩

set_option maxHeartbeats 400000 in
theorem add23 (a b : Int) (w : World) (a0 : 0 ≤ a) (a1 : a ≤ 255) (b0 : 0 ≤ b) (b1 : b ≤ 255) :
    Calls Try.prog 23 #[.int .u8 a, .int .u8 b] w fun e w' => e = .returned (.tuple #[.int .u8 (addV 255 a b), .bool (addOk 255 a b)]) ∧ w' = w := by
  by_cases h : a + b ≤ 255
  · rw [addV_pos h, addOk_pos h]
    go_enter Try.func23, Try.ntmps23
    go_wp2
    go_ret2
    exact ⟨rfl, rfl⟩
  · rw [addV_neg h, addOk_neg h]
    go_enter Try.func23, Try.ntmps23
    go_wp2
    go_ret2
    exact ⟨rfl, rfl⟩

set_option maxHeartbeats 400000 in
theorem radd8 (a b : Int) (w : World) (a0 : 0 ≤ a) (a1 : a ≤ 255) (b0 : 0 ≤ b) (b1 : b ≤ 255) :
    Calls Try.prog 17 #[.int .i64 8, .int .u64 a, .int .u64 b] w fun e w' => e = .returned (.tuple #[.int .u64 (addV 255 a b), .bool (addOk 255 a b)]) ∧ w' = w := by
  by_cases h : a + b ≤ 255
  · rw [addV_pos h, addOk_pos h]
    go_enter Try.func17, Try.ntmps17
    go_wp2_with (go_at_call 55; refine (most8 _).mono ?_; rintro e w' ⟨rfl, rfl⟩)
    go_ret2
    exact ⟨rfl, rfl⟩
  · rw [addV_neg h, addOk_neg h]
    go_enter Try.func17, Try.ntmps17
    go_wp2_with (go_at_call 55; refine (most8 _).mono ?_; rintro e w' ⟨rfl, rfl⟩)
    go_ret2
    exact ⟨rfl, rfl⟩

set_option maxHeartbeats 400000 in
theorem radd16 (a b : Int) (w : World) (a0 : 0 ≤ a) (a1 : a ≤ 65535) (b0 : 0 ≤ b) (b1 : b ≤ 65535) :
    Calls Try.prog 17 #[.int .i64 16, .int .u64 a, .int .u64 b] w fun e w' => e = .returned (.tuple #[.int .u64 (addV 65535 a b), .bool (addOk 65535 a b)]) ∧ w' = w := by
  by_cases h : a + b ≤ 65535
  · rw [addV_pos h, addOk_pos h]
    go_enter Try.func17, Try.ntmps17
    go_wp2_with (go_at_call 55; refine (most16 _).mono ?_; rintro e w' ⟨rfl, rfl⟩)
    go_ret2
    exact ⟨rfl, rfl⟩
  · rw [addV_neg h, addOk_neg h]
    go_enter Try.func17, Try.ntmps17
    go_wp2_with (go_at_call 55; refine (most16 _).mono ?_; rintro e w' ⟨rfl, rfl⟩)
    go_ret2
    exact ⟨rfl, rfl⟩

set_option maxHeartbeats 400000 in
theorem radd32 (a b : Int) (w : World) (a0 : 0 ≤ a) (a1 : a ≤ 4294967295) (b0 : 0 ≤ b) (b1 : b ≤ 4294967295) :
    Calls Try.prog 17 #[.int .i64 32, .int .u64 a, .int .u64 b] w fun e w' => e = .returned (.tuple #[.int .u64 (addV 4294967295 a b), .bool (addOk 4294967295 a b)]) ∧ w' = w := by
  by_cases h : a + b ≤ 4294967295
  · rw [addV_pos h, addOk_pos h]
    go_enter Try.func17, Try.ntmps17
    go_wp2_with (go_at_call 55; refine (most32 _).mono ?_; rintro e w' ⟨rfl, rfl⟩)
    go_ret2
    exact ⟨rfl, rfl⟩
  · rw [addV_neg h, addOk_neg h]
    go_enter Try.func17, Try.ntmps17
    go_wp2_with (go_at_call 55; refine (most32 _).mono ?_; rintro e w' ⟨rfl, rfl⟩)
    go_ret2
    exact ⟨rfl, rfl⟩

set_option maxHeartbeats 400000 in
theorem radd64 (a b : Int) (w : World) (a0 : 0 ≤ a) (a1 : a ≤ 18446744073709551615) (b0 : 0 ≤ b) (b1 : b ≤ 18446744073709551615) :
    Calls Try.prog 17 #[.int .i64 64, .int .u64 a, .int .u64 b] w fun e w' => e = .returned (.tuple #[.int .u64 (addV 18446744073709551615 a b), .bool (addOk 18446744073709551615 a b)]) ∧ w' = w := by
  by_cases h : a + b ≤ 18446744073709551615
  · rw [addV_pos h, addOk_pos h]
    go_enter Try.func17, Try.ntmps17
    go_wp2_with (go_at_call 55; refine (most64 _).mono ?_; rintro e w' ⟨rfl, rfl⟩)
    go_ret2
    exact ⟨rfl, rfl⟩
  · rw [addV_neg h, addOk_neg h]
    go_enter Try.func17, Try.ntmps17
    go_wp2_with (go_at_call 55; refine (most64 _).mono ?_; rintro e w' ⟨rfl, rfl⟩)
    go_ret2
    exact ⟨rfl, rfl⟩

/- one contract for the four widths: 'n' bits, 'm' the greatest number -/
theorem radd (n m a b : Int) (w : World) (h : (n = 8 ∧ m = 255) ∨ (n = 16 ∧ m = 65535) ∨ (n = 32 ∧ m = 4294967295) ∨ (n = 64 ∧ m = 18446744073709551615)) (a0 : 0 ≤ a) (a1 : a ≤ m) (b0 : 0 ≤ b) (b1 : b ≤ m) :
    Calls Try.prog 17 #[.int .i64 n, .int .u64 a, .int .u64 b] w fun e w' => e = .returned (.tuple #[.int .u64 (addV m a b), .bool (addOk m a b)]) ∧ w' = w := by
  rcases h with ⟨rfl, rfl⟩ | ⟨rfl, rfl⟩ | ⟨rfl, rfl⟩ | ⟨rfl, rfl⟩
  · exact radd8 a b w a0 a1 b0 b1
  · exact radd16 a b w a0 a1 b0 b1
  · exact radd32 a b w a0 a1 b0 b1
  · exact radd64 a b w a0 a1 b0 b1
end Go.Proofs.Ytiammdgcljjdmaa
