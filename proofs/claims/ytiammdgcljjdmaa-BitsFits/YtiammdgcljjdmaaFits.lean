/- What Fit of each two kinds, and the reference's Fit, answer at every number: the number where it is at most the greatest one of the kind that is asked for, else 0 and false. -/
import Derived.Test.YtiammdgcljjdmaaBase
import Derived.WalkKit
import Derived.WalkSpells
import Derived.WalkLawsBesides
namespace Go.Proofs.Ytiammdgcljjdmaa
open Go.RowKit
set_option linter.unusedVariables false

def fitV (m a : Int) : Int := if a ≤ m then a else 0
def fitOk (m a : Int) : Bool := decide (a ≤ m)
theorem fitV_pos {m a : Int} (h : a ≤ m) : fitV m a = a := by simp [fitV, h]
theorem fitV_neg {m a : Int} (h : ¬ a ≤ m) : fitV m a = 0 := by simp [fitV, h]
theorem fitOk_pos {m a : Int} (h : a ≤ m) : fitOk m a = true := by simp [fitOk, h]
theorem fitOk_neg {m a : Int} (h : ¬ a ≤ m) : fitOk m a = false := by simp [fitOk, h]
theorem fitV_bd {m a : Int} (ha : 0 ≤ a) (hm : 0 ≤ m) : 0 ≤ fitV m a ∧ fitV m a ≤ m := by
  unfold fitV; split <;> omega

set_option maxHeartbeats 400000 in
theorem fit32 (a : Int) (w : World) (a0 : 0 ≤ a) (a1 : a ≤ 18446744073709551615) :
    Calls Try.prog 32 #[.int .u64 a] w fun e w' => e = .returned (.tuple #[.int .u8 (fitV 255 a), .bool (fitOk 255 a)]) ∧ w' = w := by
  by_cases h : a ≤ 255
  · rw [fitV_pos h, fitOk_pos h]
    go_enter Try.func32, Try.ntmps32
    go_wp2
    go_ret2
    exact ⟨rfl, rfl⟩
  · rw [fitV_neg h, fitOk_neg h]
    go_enter Try.func32, Try.ntmps32
    go_wp2
    go_ret2
    exact ⟨rfl, rfl⟩

set_option maxHeartbeats 400000 in
theorem fit34 (a : Int) (w : World) (a0 : 0 ≤ a) (a1 : a ≤ 255) :
    Calls Try.prog 34 #[.int .u8 a] w fun e w' => e = .returned (.tuple #[.int .u8 (fitV 255 a), .bool (fitOk 255 a)]) ∧ w' = w := by
  · rw [fitV_pos (by omega), fitOk_pos (by omega)]
    go_enter Try.func34, Try.ntmps34
    go_wp2
    go_ret2
    exact ⟨rfl, rfl⟩

set_option maxHeartbeats 400000 in
theorem fit36 (a : Int) (w : World) (a0 : 0 ≤ a) (a1 : a ≤ 18446744073709551615) :
    Calls Try.prog 36 #[.int .u64 a] w fun e w' => e = .returned (.tuple #[.int .u16 (fitV 65535 a), .bool (fitOk 65535 a)]) ∧ w' = w := by
  by_cases h : a ≤ 65535
  · rw [fitV_pos h, fitOk_pos h]
    have hp : IntKind.u16.wrap a = a := by rw [wu16]; omega
    go_enter Try.func36, Try.ntmps36
    go_wp2
    go_ret2
    exact ⟨rfl, rfl⟩
  · rw [fitV_neg h, fitOk_neg h]
    have hb : 0 ≤ IntKind.u16.wrap a ∧ IntKind.u16.wrap a ≤ 65535 := by rw [wu16]; omega
    have hp : (IntKind.u16.wrap a == a) = false := by simp; omega
    go_enter Try.func36, Try.ntmps36
    go_wp2
    go_ret2
    exact ⟨rfl, rfl⟩

set_option maxHeartbeats 400000 in
theorem fit37 (a : Int) (w : World) (a0 : 0 ≤ a) (a1 : a ≤ 65535) :
    Calls Try.prog 37 #[.int .u16 a] w fun e w' => e = .returned (.tuple #[.int .u8 (fitV 255 a), .bool (fitOk 255 a)]) ∧ w' = w := by
  by_cases h : a ≤ 255
  · rw [fitV_pos h, fitOk_pos h]
    go_enter Try.func37, Try.ntmps37
    go_wp2
    go_ret2
    exact ⟨rfl, rfl⟩
  · rw [fitV_neg h, fitOk_neg h]
    go_enter Try.func37, Try.ntmps37
    go_wp2
    go_ret2
    exact ⟨rfl, rfl⟩

set_option maxHeartbeats 400000 in
theorem fit39 (a : Int) (w : World) (a0 : 0 ≤ a) (a1 : a ≤ 18446744073709551615) :
    Calls Try.prog 39 #[.int .u64 a] w fun e w' => e = .returned (.tuple #[.int .u32 (fitV 4294967295 a), .bool (fitOk 4294967295 a)]) ∧ w' = w := by
  by_cases h : a ≤ 4294967295
  · rw [fitV_pos h, fitOk_pos h]
    go_enter Try.func39, Try.ntmps39
    go_wp2
    go_ret2
    exact ⟨rfl, rfl⟩
  · rw [fitV_neg h, fitOk_neg h]
    go_enter Try.func39, Try.ntmps39
    go_wp2
    go_ret2
    exact ⟨rfl, rfl⟩

set_option maxHeartbeats 400000 in
theorem fit40 (a : Int) (w : World) (a0 : 0 ≤ a) (a1 : a ≤ 4294967295) :
    Calls Try.prog 40 #[.int .u32 a] w fun e w' => e = .returned (.tuple #[.int .u8 (fitV 255 a), .bool (fitOk 255 a)]) ∧ w' = w := by
  by_cases h : a ≤ 255
  · rw [fitV_pos h, fitOk_pos h]
    go_enter Try.func40, Try.ntmps40
    go_wp2
    go_ret2
    exact ⟨rfl, rfl⟩
  · rw [fitV_neg h, fitOk_neg h]
    go_enter Try.func40, Try.ntmps40
    go_wp2
    go_ret2
    exact ⟨rfl, rfl⟩

set_option maxHeartbeats 400000 in
theorem fit42 (a : Int) (w : World) (a0 : 0 ≤ a) (a1 : a ≤ 18446744073709551615) :
    Calls Try.prog 42 #[.int .u64 a] w fun e w' => e = .returned (.tuple #[.int .u64 (fitV 18446744073709551615 a), .bool (fitOk 18446744073709551615 a)]) ∧ w' = w := by
  · rw [fitV_pos (by omega), fitOk_pos (by omega)]
    go_enter Try.func42, Try.ntmps42
    go_wp2
    go_ret2
    exact ⟨rfl, rfl⟩

set_option maxHeartbeats 400000 in
theorem fit43 (a : Int) (w : World) (a0 : 0 ≤ a) (a1 : a ≤ 18446744073709551615) :
    Calls Try.prog 43 #[.int .u64 a] w fun e w' => e = .returned (.tuple #[.int .u8 (fitV 255 a), .bool (fitOk 255 a)]) ∧ w' = w := by
  by_cases h : a ≤ 255
  · rw [fitV_pos h, fitOk_pos h]
    go_enter Try.func43, Try.ntmps43
    go_wp2
    go_ret2
    exact ⟨rfl, rfl⟩
  · rw [fitV_neg h, fitOk_neg h]
    go_enter Try.func43, Try.ntmps43
    go_wp2
    go_ret2
    exact ⟨rfl, rfl⟩

set_option maxHeartbeats 400000 in
theorem fit44 (a : Int) (w : World) (a0 : 0 ≤ a) (a1 : a ≤ 18446744073709551615) :
    Calls Try.prog 44 #[.int .u64 a] w fun e w' => e = .returned (.tuple #[.int .u64 (fitV 18446744073709551615 a), .bool (fitOk 18446744073709551615 a)]) ∧ w' = w := by
  · rw [fitV_pos (by omega), fitOk_pos (by omega)]
    go_enter Try.func44, Try.ntmps44
    go_wp2
    go_ret2
    exact ⟨rfl, rfl⟩

set_option maxHeartbeats 400000 in
theorem fit45 (a : Int) (w : World) (a0 : 0 ≤ a) (a1 : a ≤ 18446744073709551615) :
    Calls Try.prog 45 #[.int .u64 a] w fun e w' => e = .returned (.tuple #[.int .u8 (fitV 255 a), .bool (fitOk 255 a)]) ∧ w' = w := by
  by_cases h : a ≤ 255
  · rw [fitV_pos h, fitOk_pos h]
    go_enter Try.func45, Try.ntmps45
    go_wp2
    go_ret2
    exact ⟨rfl, rfl⟩
  · rw [fitV_neg h, fitOk_neg h]
    go_enter Try.func45, Try.ntmps45
    go_wp2
    go_ret2
    exact ⟨rfl, rfl⟩

set_option maxHeartbeats 400000 in
theorem fit47 (a : Int) (w : World) (a0 : 0 ≤ a) (a1 : a ≤ 18446744073709551615) :
    Calls Try.prog 47 #[.int .u64 a] w fun e w' => e = .returned (.tuple #[.int .u16 (fitV 65535 a), .bool (fitOk 65535 a)]) ∧ w' = w := by
  by_cases h : a ≤ 65535
  · rw [fitV_pos h, fitOk_pos h]
    have hp : IntKind.u16.wrap a = a := by rw [wu16]; omega
    go_enter Try.func47, Try.ntmps47
    go_wp2
    go_ret2
    exact ⟨rfl, rfl⟩
  · rw [fitV_neg h, fitOk_neg h]
    have hb : 0 ≤ IntKind.u16.wrap a ∧ IntKind.u16.wrap a ≤ 65535 := by rw [wu16]; omega
    have hp : (IntKind.u16.wrap a == a) = false := by simp; omega
    go_enter Try.func47, Try.ntmps47
    go_wp2
    go_ret2
    exact ⟨rfl, rfl⟩

set_option maxHeartbeats 400000 in
theorem fit48 (a : Int) (w : World) (a0 : 0 ≤ a) (a1 : a ≤ 65535) :
    Calls Try.prog 48 #[.int .u16 a] w fun e w' => e = .returned (.tuple #[.int .u8 (fitV 255 a), .bool (fitOk 255 a)]) ∧ w' = w := by
  by_cases h : a ≤ 255
  · rw [fitV_pos h, fitOk_pos h]
    go_enter Try.func48, Try.ntmps48
    go_wp2
    go_ret2
    exact ⟨rfl, rfl⟩
  · rw [fitV_neg h, fitOk_neg h]
    go_enter Try.func48, Try.ntmps48
    go_wp2
    go_ret2
    exact ⟨rfl, rfl⟩

set_option maxHeartbeats 400000 in
theorem fit50 (a : Int) (w : World) (a0 : 0 ≤ a) (a1 : a ≤ 255) :
    Calls Try.prog 50 #[.int .u8 a] w fun e w' => e = .returned (.tuple #[.int .u8 (fitV 255 a), .bool (fitOk 255 a)]) ∧ w' = w := by
  · rw [fitV_pos (by omega), fitOk_pos (by omega)]
    go_enter Try.func50, Try.ntmps50
    go_wp2
    go_ret2
    exact ⟨rfl, rfl⟩

set_option maxHeartbeats 400000 in
theorem fit35 (a : Int) (w : World) (a0 : 0 ≤ a) (a1 : a ≤ 255) :
    Calls Try.prog 35 #[.int .u8 a] w fun e w' => e = .returned (.tuple #[.int .u64 a, .bool true]) ∧ w' = w := by
  go_enter Try.func35, Try.ntmps35
  go_wp2
  go_ret2
  exact ⟨rfl, rfl⟩

set_option maxHeartbeats 400000 in
theorem fit38 (a : Int) (w : World) (a0 : 0 ≤ a) (a1 : a ≤ 65535) :
    Calls Try.prog 38 #[.int .u16 a] w fun e w' => e = .returned (.tuple #[.int .u64 a, .bool true]) ∧ w' = w := by
  have hp : IntKind.u16.wrap a = a := by rw [wu16]; omega
  go_enter Try.func38, Try.ntmps38
  go_wp2
  go_ret2
  exact ⟨rfl, rfl⟩

set_option maxHeartbeats 400000 in
theorem fit41 (a : Int) (w : World) (a0 : 0 ≤ a) (a1 : a ≤ 4294967295) :
    Calls Try.prog 41 #[.int .u32 a] w fun e w' => e = .returned (.tuple #[.int .u64 a, .bool true]) ∧ w' = w := by
  go_enter Try.func41, Try.ntmps41
  go_wp2
  go_ret2
  exact ⟨rfl, rfl⟩

set_option maxHeartbeats 400000 in
theorem fit46 (a : Int) (w : World) (a0 : 0 ≤ a) (a1 : a ≤ 18446744073709551615) :
    Calls Try.prog 46 #[.int .u64 a] w fun e w' => e = .returned (.tuple #[.int .u64 a, .bool true]) ∧ w' = w := by
  go_enter Try.func46, Try.ntmps46
  go_wp2
  go_ret2
  exact ⟨rfl, rfl⟩

set_option maxHeartbeats 400000 in
theorem fit49 (a : Int) (w : World) (a0 : 0 ≤ a) (a1 : a ≤ 65535) :
    Calls Try.prog 49 #[.int .u16 a] w fun e w' => e = .returned (.tuple #[.int .u64 a, .bool true]) ∧ w' = w := by
  have hp : IntKind.u16.wrap a = a := by rw [wu16]; omega
  go_enter Try.func49, Try.ntmps49
  go_wp2
  go_ret2
  exact ⟨rfl, rfl⟩

set_option maxHeartbeats 400000 in
theorem fit51 (a : Int) (w : World) (a0 : 0 ≤ a) (a1 : a ≤ 255) :
    Calls Try.prog 51 #[.int .u8 a] w fun e w' => e = .returned (.tuple #[.int .u64 a, .bool true]) ∧ w' = w := by
  go_enter Try.func51, Try.ntmps51
  go_wp2
  go_ret2
  exact ⟨rfl, rfl⟩

set_option maxHeartbeats 400000 in
theorem rfit8 (a : Int) (w : World) (a0 : 0 ≤ a) (a1 : a ≤ 18446744073709551615) :
    Calls Try.prog 33 #[.int .i64 8, .int .u64 a] w fun e w' => e = .returned (.tuple #[.int .u64 (fitV 255 a), .bool (fitOk 255 a)]) ∧ w' = w := by
  by_cases h : a ≤ 255
  · rw [fitV_pos h, fitOk_pos h]
    go_enter Try.func33, Try.ntmps33
    go_wp2_with (go_at_call 55; refine (most8 _).mono ?_; rintro e w' ⟨rfl, rfl⟩)
    go_ret2
    exact ⟨rfl, rfl⟩
  · rw [fitV_neg h, fitOk_neg h]
    go_enter Try.func33, Try.ntmps33
    go_wp2_with (go_at_call 55; refine (most8 _).mono ?_; rintro e w' ⟨rfl, rfl⟩)
    go_ret2
    exact ⟨rfl, rfl⟩

set_option maxHeartbeats 400000 in
theorem rfit16 (a : Int) (w : World) (a0 : 0 ≤ a) (a1 : a ≤ 18446744073709551615) :
    Calls Try.prog 33 #[.int .i64 16, .int .u64 a] w fun e w' => e = .returned (.tuple #[.int .u64 (fitV 65535 a), .bool (fitOk 65535 a)]) ∧ w' = w := by
  by_cases h : a ≤ 65535
  · rw [fitV_pos h, fitOk_pos h]
    go_enter Try.func33, Try.ntmps33
    go_wp2_with (go_at_call 55; refine (most16 _).mono ?_; rintro e w' ⟨rfl, rfl⟩)
    go_ret2
    exact ⟨rfl, rfl⟩
  · rw [fitV_neg h, fitOk_neg h]
    go_enter Try.func33, Try.ntmps33
    go_wp2_with (go_at_call 55; refine (most16 _).mono ?_; rintro e w' ⟨rfl, rfl⟩)
    go_ret2
    exact ⟨rfl, rfl⟩

set_option maxHeartbeats 400000 in
theorem rfit32 (a : Int) (w : World) (a0 : 0 ≤ a) (a1 : a ≤ 18446744073709551615) :
    Calls Try.prog 33 #[.int .i64 32, .int .u64 a] w fun e w' => e = .returned (.tuple #[.int .u64 (fitV 4294967295 a), .bool (fitOk 4294967295 a)]) ∧ w' = w := by
  by_cases h : a ≤ 4294967295
  · rw [fitV_pos h, fitOk_pos h]
    go_enter Try.func33, Try.ntmps33
    go_wp2_with (go_at_call 55; refine (most32 _).mono ?_; rintro e w' ⟨rfl, rfl⟩)
    go_ret2
    exact ⟨rfl, rfl⟩
  · rw [fitV_neg h, fitOk_neg h]
    go_enter Try.func33, Try.ntmps33
    go_wp2_with (go_at_call 55; refine (most32 _).mono ?_; rintro e w' ⟨rfl, rfl⟩)
    go_ret2
    exact ⟨rfl, rfl⟩

set_option maxHeartbeats 400000 in
theorem rfit64 (a : Int) (w : World) (a0 : 0 ≤ a) (a1 : a ≤ 18446744073709551615) :
    Calls Try.prog 33 #[.int .i64 64, .int .u64 a] w fun e w' => e = .returned (.tuple #[.int .u64 (fitV 18446744073709551615 a), .bool (fitOk 18446744073709551615 a)]) ∧ w' = w := by
  by_cases h : a ≤ 18446744073709551615
  · rw [fitV_pos h, fitOk_pos h]
    go_enter Try.func33, Try.ntmps33
    go_wp2_with (go_at_call 55; refine (most64 _).mono ?_; rintro e w' ⟨rfl, rfl⟩)
    go_ret2
    exact ⟨rfl, rfl⟩
  · omega

/- one contract for the four widths: 'n' bits, 'm' the greatest number -/
theorem rfit (n m a : Int) (w : World) (h : (n = 8 ∧ m = 255) ∨ (n = 16 ∧ m = 65535) ∨ (n = 32 ∧ m = 4294967295) ∨ (n = 64 ∧ m = 18446744073709551615)) (a0 : 0 ≤ a) (a1 : a ≤ 18446744073709551615) :
    Calls Try.prog 33 #[.int .i64 n, .int .u64 a] w fun e w' => e = .returned (.tuple #[.int .u64 (fitV m a), .bool (fitOk m a)]) ∧ w' = w := by
  rcases h with ⟨rfl, rfl⟩ | ⟨rfl, rfl⟩ | ⟨rfl, rfl⟩ | ⟨rfl, rfl⟩
  · exact rfit8 a w a0 a1
  · exact rfit16 a w a0 a1
  · exact rfit32 a w a0 a1
  · exact rfit64 a w a0 a1
end Go.Proofs.Ytiammdgcljjdmaa
