/- What Left of each kind, and the reference's Left, answer at every number of the kind and every int: the number times so many twos where that is at most the kind's greatest number, else, or below 0, 0 and false. -/
import Derived.Test.YtiammdgcljjdmaaBase
import Derived.WalkKit
import Derived.WalkSpells
import Derived.WalkLawsBesides
namespace Go.Proofs.Ytiammdgcljjdmaa
open Go.RowKit
set_option linter.unusedVariables false

theorem ret_two {k : IntKind} {a b : Int} {ok : Bool} (h : a = b) : Ending.returned (.tuple #[.int k a, .bool ok]) = .returned (.tuple #[.int k b, .bool ok]) := by rw [h]
def leftOk (m x n : Int) : Bool := decide (0 ≤ n ∧ x * 2 ^ n.toNat ≤ m)
def leftV (m x n : Int) : Int := if 0 ≤ n ∧ x * 2 ^ n.toNat ≤ m then x * 2 ^ n.toNat else 0
theorem leftV_pos {m x n : Int} (h : 0 ≤ n) (h' : x * 2 ^ n.toNat ≤ m) : leftV m x n = x * 2 ^ n.toNat := if_pos ⟨h, h'⟩
theorem leftV_neg {m x n : Int} (h : ¬ (0 ≤ n ∧ x * 2 ^ n.toNat ≤ m)) : leftV m x n = 0 := if_neg h
theorem leftOk_pos {m x n : Int} (h : 0 ≤ n) (h' : x * 2 ^ n.toNat ≤ m) : leftOk m x n = true := decide_eq_true ⟨h, h'⟩
theorem leftOk_neg {m x n : Int} (h : ¬ (0 ≤ n ∧ x * 2 ^ n.toNat ≤ m)) : leftOk m x n = false := decide_eq_false h
theorem leftV_bd {m x n : Int} (hx : 0 ≤ x) (hm : 0 ≤ m) : 0 ≤ leftV m x n ∧ leftV m x n ≤ m := by
  unfold leftV; split
  · rename_i h; exact ⟨Int.mul_nonneg hx (by have := pow_pos' n.toNat; omega), h.2⟩
  · omega

theorem left_min {x : Int} (hx : 0 ≤ x) (n b : Nat) : x * 2 ^ n < 2 ^ b ↔ x * 2 ^ min n b < 2 ^ b := by
  by_cases h : n ≤ b
  · rw [Nat.min_eq_left h]
  · rw [Nat.min_eq_right (by omega)]
    have p := pow_pos' b
    have q := pow_le (show b ≤ n by omega)
    have zero : ∀ c : Int, 2 ^ b ≤ c → x * c < 2 ^ b → x = 0 := by
      intro c hc hl
      refine Classical.byContradiction fun hne => ?_
      have : 1 * c ≤ x * c := Int.mul_le_mul_of_nonneg_right (by omega) (by omega)
      omega
    constructor
    · intro hl; rw [zero _ q hl]; simp; omega
    · intro hl; rw [zero _ (Int.le_refl _) hl]; simp; omega
theorem left_val {x : Int} (hx : 0 ≤ x) (n b : Nat) (h : x * 2 ^ n < 2 ^ b) : x * 2 ^ min n b = x * 2 ^ n := by
  by_cases hn : n ≤ b
  · rw [Nat.min_eq_left hn]
  · have p := pow_pos' b
    have q := pow_le (show b ≤ n by omega)
    have : x = 0 := by
      refine Classical.byContradiction fun hne => ?_
      have : 1 * 2 ^ n ≤ x * 2 ^ n := Int.mul_le_mul_of_nonneg_right (by omega) (by omega)
      omega
    rw [this]; simp
theorem left_mod {x : Int} (hx : 0 ≤ x) (n b : Nat) (h : x * 2 ^ n < 2 ^ b) : x * 2 ^ min n b % 2 ^ b = x * 2 ^ n := by
  rw [left_val hx n b h]
  exact Int.emod_eq_of_lt (Int.mul_nonneg hx (by have := pow_pos' n; omega)) h
theorem left_div {x : Int} (hx : 0 ≤ x) (n b : Nat) (h : x * 2 ^ n < 2 ^ b) : x * 2 ^ n / 2 ^ min n b = x := by
  rw [← left_val hx n b h]
  exact Int.mul_ediv_cancel _ (by have := pow_pos' (min n b); omega)
theorem left_bad {x : Int} (hx : 0 ≤ x) (n b : Nat) (h : ¬ x * 2 ^ n < 2 ^ b) : (x * 2 ^ min n b % 2 ^ b / 2 ^ min n b != x) = true := by
  rw [left_min hx] at h
  have p := pow_pos' (min n b)
  have q := pow_pos' b
  simp only [bne_iff_ne, ne_eq]
  intro e
  have h1 : x * 2 ^ min n b % 2 ^ b < 2 ^ b := Int.emod_lt_of_pos _ (by omega)
  have h2 : x * 2 ^ min n b % 2 ^ b / 2 ^ min n b * 2 ^ min n b ≤ x * 2 ^ min n b % 2 ^ b := Int.ediv_mul_le _ (by omega)
  rw [e] at h2
  omega

set_option maxHeartbeats 400000 in
theorem left24 (x n : Int) (w : World) (x0 : 0 ≤ x) (x1 : x ≤ 255) (n1 : n ≤ 9223372036854775807) :
    Calls Try.prog 24 #[.int .u8 x, .int .i64 n] w fun e w' => e = .returned (.tuple #[.int .u8 (leftV 255 x n), .bool (leftOk 255 x n)]) ∧ w' = w := by
  by_cases n0 : 0 ≤ n
  · by_cases h : x * 2 ^ n.toNat ≤ 255
    · rw [leftV_pos n0 h, leftOk_pos n0 h]
      have h' : x * 2 ^ n.toNat < 2 ^ 8 := by
        show x * 2 ^ n.toNat < 256
        omega
      have hm : x * 2 ^ min n.toNat 8 % 256 = x * 2 ^ n.toNat := by exact left_mod x0 _ _ h'
      have hd := left_div x0 _ 8 h'
      clear h h'
      go_enter Try.func24, Try.ntmps24
      go_wp2
      go_ret2
      exact ⟨ret_two hm, rfl⟩
    · rw [leftV_neg (by omega), leftOk_neg (by omega)]
      have h' : ¬ x * 2 ^ n.toNat < 2 ^ 8 := by
        show ¬ x * 2 ^ n.toNat < 256
        omega
      have hb : (x * 2 ^ min n.toNat 8 % 256 / 2 ^ min n.toNat 8 != x) = true := by exact left_bad x0 _ _ h'
      clear h h'
      go_enter Try.func24, Try.ntmps24
      go_wp2
      go_ret2
      exact ⟨rfl, rfl⟩
  · rw [leftV_neg (by omega), leftOk_neg (by omega)]
    go_enter Try.func24, Try.ntmps24
    go_wp2
    go_ret2
    exact ⟨rfl, rfl⟩

set_option maxHeartbeats 400000 in
theorem left26 (x n : Int) (w : World) (x0 : 0 ≤ x) (x1 : x ≤ 65535) (n1 : n ≤ 9223372036854775807) :
    Calls Try.prog 26 #[.int .u16 x, .int .i64 n] w fun e w' => e = .returned (.tuple #[.int .u16 (leftV 65535 x n), .bool (leftOk 65535 x n)]) ∧ w' = w := by
  by_cases n0 : 0 ≤ n
  · by_cases h : x * 2 ^ n.toNat ≤ 65535
    · rw [leftV_pos n0 h, leftOk_pos n0 h]
      have h' : x * 2 ^ n.toNat < 2 ^ 16 := by
        show x * 2 ^ n.toNat < 65536
        omega
      have hm : IntKind.u16.wrap (x * 2 ^ min n.toNat 16) = x * 2 ^ n.toNat := by rw [wu16]; exact left_mod x0 _ _ h'
      have hd := left_div x0 _ 16 h'
      clear h h'
      go_enter Try.func26, Try.ntmps26
      go_wp2
      go_ret2
      exact ⟨rfl, rfl⟩
    · rw [leftV_neg (by omega), leftOk_neg (by omega)]
      have h' : ¬ x * 2 ^ n.toNat < 2 ^ 16 := by
        show ¬ x * 2 ^ n.toNat < 65536
        omega
      have hb : (IntKind.u16.wrap (x * 2 ^ min n.toNat 16) / 2 ^ min n.toNat 16 != x) = true := by rw [wu16]; exact left_bad x0 _ _ h'
      clear h h'
      go_enter Try.func26, Try.ntmps26
      go_wp2
      go_ret2
      exact ⟨rfl, rfl⟩
  · rw [leftV_neg (by omega), leftOk_neg (by omega)]
    go_enter Try.func26, Try.ntmps26
    go_wp2
    go_ret2
    exact ⟨rfl, rfl⟩

set_option maxHeartbeats 400000 in
theorem left27 (x n : Int) (w : World) (x0 : 0 ≤ x) (x1 : x ≤ 4294967295) (n1 : n ≤ 9223372036854775807) :
    Calls Try.prog 27 #[.int .u32 x, .int .i64 n] w fun e w' => e = .returned (.tuple #[.int .u32 (leftV 4294967295 x n), .bool (leftOk 4294967295 x n)]) ∧ w' = w := by
  by_cases n0 : 0 ≤ n
  · by_cases h : x * 2 ^ n.toNat ≤ 4294967295
    · rw [leftV_pos n0 h, leftOk_pos n0 h]
      have h' : x * 2 ^ n.toNat < 2 ^ 32 := by
        show x * 2 ^ n.toNat < 4294967296
        omega
      have hm : x * 2 ^ min n.toNat 32 % 4294967296 = x * 2 ^ n.toNat := by exact left_mod x0 _ _ h'
      have hd := left_div x0 _ 32 h'
      clear h h'
      go_enter Try.func27, Try.ntmps27
      go_wp2
      go_ret2
      exact ⟨ret_two hm, rfl⟩
    · rw [leftV_neg (by omega), leftOk_neg (by omega)]
      have h' : ¬ x * 2 ^ n.toNat < 2 ^ 32 := by
        show ¬ x * 2 ^ n.toNat < 4294967296
        omega
      have hb : (x * 2 ^ min n.toNat 32 % 4294967296 / 2 ^ min n.toNat 32 != x) = true := by exact left_bad x0 _ _ h'
      clear h h'
      go_enter Try.func27, Try.ntmps27
      go_wp2
      go_ret2
      exact ⟨rfl, rfl⟩
  · rw [leftV_neg (by omega), leftOk_neg (by omega)]
    go_enter Try.func27, Try.ntmps27
    go_wp2
    go_ret2
    exact ⟨rfl, rfl⟩

set_option maxHeartbeats 400000 in
theorem left28 (x n : Int) (w : World) (x0 : 0 ≤ x) (x1 : x ≤ 18446744073709551615) (n1 : n ≤ 9223372036854775807) :
    Calls Try.prog 28 #[.int .u64 x, .int .i64 n] w fun e w' => e = .returned (.tuple #[.int .u64 (leftV 18446744073709551615 x n), .bool (leftOk 18446744073709551615 x n)]) ∧ w' = w := by
  by_cases n0 : 0 ≤ n
  · by_cases h : x * 2 ^ n.toNat ≤ 18446744073709551615
    · rw [leftV_pos n0 h, leftOk_pos n0 h]
      have h' : x * 2 ^ n.toNat < 2 ^ 64 := by
        show x * 2 ^ n.toNat < 18446744073709551616
        omega
      have hm : IntKind.u64.wrap (x * 2 ^ min n.toNat 64) = x * 2 ^ n.toNat := by rw [wu64]; exact left_mod x0 _ _ h'
      have hd := left_div x0 _ 64 h'
      clear h h'
      go_enter Try.func28, Try.ntmps28
      go_wp2
      go_ret2
      exact ⟨rfl, rfl⟩
    · rw [leftV_neg (by omega), leftOk_neg (by omega)]
      have h' : ¬ x * 2 ^ n.toNat < 2 ^ 64 := by
        show ¬ x * 2 ^ n.toNat < 18446744073709551616
        omega
      have hb : (IntKind.u64.wrap (x * 2 ^ min n.toNat 64) / 2 ^ min n.toNat 64 != x) = true := by rw [wu64]; exact left_bad x0 _ _ h'
      clear h h'
      go_enter Try.func28, Try.ntmps28
      go_wp2
      go_ret2
      exact ⟨rfl, rfl⟩
  · rw [leftV_neg (by omega), leftOk_neg (by omega)]
    go_enter Try.func28, Try.ntmps28
    go_wp2
    go_ret2
    exact ⟨rfl, rfl⟩

set_option maxHeartbeats 400000 in
theorem left29 (x n : Int) (w : World) (x0 : 0 ≤ x) (x1 : x ≤ 18446744073709551615) (n1 : n ≤ 9223372036854775807) :
    Calls Try.prog 29 #[.int .u64 x, .int .i64 n] w fun e w' => e = .returned (.tuple #[.int .u64 (leftV 18446744073709551615 x n), .bool (leftOk 18446744073709551615 x n)]) ∧ w' = w := by
  by_cases n0 : 0 ≤ n
  · by_cases h : x * 2 ^ n.toNat ≤ 18446744073709551615
    · rw [leftV_pos n0 h, leftOk_pos n0 h]
      have h' : x * 2 ^ n.toNat < 2 ^ 64 := by
        show x * 2 ^ n.toNat < 18446744073709551616
        omega
      have hm : IntKind.u64.wrap (x * 2 ^ min n.toNat 64) = x * 2 ^ n.toNat := by rw [wu64]; exact left_mod x0 _ _ h'
      have hd := left_div x0 _ 64 h'
      clear h h'
      go_enter Try.func29, Try.ntmps29
      go_wp2
      go_ret2
      exact ⟨rfl, rfl⟩
    · rw [leftV_neg (by omega), leftOk_neg (by omega)]
      have h' : ¬ x * 2 ^ n.toNat < 2 ^ 64 := by
        show ¬ x * 2 ^ n.toNat < 18446744073709551616
        omega
      have hb : (IntKind.u64.wrap (x * 2 ^ min n.toNat 64) / 2 ^ min n.toNat 64 != x) = true := by rw [wu64]; exact left_bad x0 _ _ h'
      clear h h'
      go_enter Try.func29, Try.ntmps29
      go_wp2
      go_ret2
      exact ⟨rfl, rfl⟩
  · rw [leftV_neg (by omega), leftOk_neg (by omega)]
    go_enter Try.func29, Try.ntmps29
    go_wp2
    go_ret2
    exact ⟨rfl, rfl⟩

set_option maxHeartbeats 400000 in
theorem left30 (x n : Int) (w : World) (x0 : 0 ≤ x) (x1 : x ≤ 65535) (n1 : n ≤ 9223372036854775807) :
    Calls Try.prog 30 #[.int .u16 x, .int .i64 n] w fun e w' => e = .returned (.tuple #[.int .u16 (leftV 65535 x n), .bool (leftOk 65535 x n)]) ∧ w' = w := by
  by_cases n0 : 0 ≤ n
  · by_cases h : x * 2 ^ n.toNat ≤ 65535
    · rw [leftV_pos n0 h, leftOk_pos n0 h]
      have h' : x * 2 ^ n.toNat < 2 ^ 16 := by
        show x * 2 ^ n.toNat < 65536
        omega
      have hm : IntKind.u16.wrap (x * 2 ^ min n.toNat 16) = x * 2 ^ n.toNat := by rw [wu16]; exact left_mod x0 _ _ h'
      have hd := left_div x0 _ 16 h'
      clear h h'
      go_enter Try.func30, Try.ntmps30
      go_wp2
      go_ret2
      exact ⟨rfl, rfl⟩
    · rw [leftV_neg (by omega), leftOk_neg (by omega)]
      have h' : ¬ x * 2 ^ n.toNat < 2 ^ 16 := by
        show ¬ x * 2 ^ n.toNat < 65536
        omega
      have hb : (IntKind.u16.wrap (x * 2 ^ min n.toNat 16) / 2 ^ min n.toNat 16 != x) = true := by rw [wu16]; exact left_bad x0 _ _ h'
      clear h h'
      go_enter Try.func30, Try.ntmps30
      go_wp2
      go_ret2
      exact ⟨rfl, rfl⟩
  · rw [leftV_neg (by omega), leftOk_neg (by omega)]
    go_enter Try.func30, Try.ntmps30
    go_wp2
    go_ret2
    exact ⟨rfl, rfl⟩

set_option maxHeartbeats 400000 in
theorem left31 (x n : Int) (w : World) (x0 : 0 ≤ x) (x1 : x ≤ 255) (n1 : n ≤ 9223372036854775807) :
    Calls Try.prog 31 #[.int .u8 x, .int .i64 n] w fun e w' => e = .returned (.tuple #[.int .u8 (leftV 255 x n), .bool (leftOk 255 x n)]) ∧ w' = w := by
  by_cases n0 : 0 ≤ n
  · by_cases h : x * 2 ^ n.toNat ≤ 255
    · rw [leftV_pos n0 h, leftOk_pos n0 h]
      have h' : x * 2 ^ n.toNat < 2 ^ 8 := by
        show x * 2 ^ n.toNat < 256
        omega
      have hm : x * 2 ^ min n.toNat 8 % 256 = x * 2 ^ n.toNat := by exact left_mod x0 _ _ h'
      have hd := left_div x0 _ 8 h'
      clear h h'
      go_enter Try.func31, Try.ntmps31
      go_wp2
      go_ret2
      exact ⟨ret_two hm, rfl⟩
    · rw [leftV_neg (by omega), leftOk_neg (by omega)]
      have h' : ¬ x * 2 ^ n.toNat < 2 ^ 8 := by
        show ¬ x * 2 ^ n.toNat < 256
        omega
      have hb : (x * 2 ^ min n.toNat 8 % 256 / 2 ^ min n.toNat 8 != x) = true := by exact left_bad x0 _ _ h'
      clear h h'
      go_enter Try.func31, Try.ntmps31
      go_wp2
      go_ret2
      exact ⟨rfl, rfl⟩
  · rw [leftV_neg (by omega), leftOk_neg (by omega)]
    go_enter Try.func31, Try.ntmps31
    go_wp2
    go_ret2
    exact ⟨rfl, rfl⟩

theorem grow_le {x : Int} (hx : 0 ≤ x) {k n : Nat} (h : k ≤ n) : x * 2 ^ k ≤ x * 2 ^ n :=
  Int.mul_le_mul_of_nonneg_left (pow_le h) hx

set_option maxHeartbeats 1000000 in
theorem rleft_core (bits m x n : Int) (hb : (∀ w, Calls Try.prog 55 #[.int .i64 bits] w fun e w' => e = .returned (.int .u64 m) ∧ w' = w)) (hm : m = 255 ∨ m = 65535 ∨ m = 4294967295 ∨ m = 18446744073709551615) (w : World) (x0 : 0 ≤ x) (x1 : x ≤ m) (n1 : n ≤ 9223372036854775807) :
    Calls Try.prog 25 #[.int .i64 bits, .int .u64 x, .int .i64 n] w fun e w' => e = .returned (.tuple #[.int .u64 (leftV m x n), .bool (leftOk m x n)]) ∧ w' = w := by
  have m0 : 0 ≤ m ∧ m ≤ 18446744073709551615 := by omega
  have md : m - 2 * (m / 2) = 1 := by omega
  clear hm
  by_cases n0 : 0 ≤ n
  · obtain ⟨j, rfl⟩ : ∃ j : Nat, n = j := ⟨n.toNat, by omega⟩
    go_enter Try.func25, Try.ntmps25
    go_wp2
    go_loop [1, 8] (fun c i => ∃ k : Nat, k ≤ j ∧ i = .int .i64 k ∧ c = .int .u64 (x * 2 ^ k) ∧ x * 2 ^ k ≤ m) (fun _ i => j - (intOf i).toNat)
    case atStart => exact ⟨0, Nat.zero_le _, rfl, by simp, by simpa using x1⟩
    case round =>
      obtain ⟨k, hk, rfl, rfl, hle⟩ := hrel
      have hn : 0 ≤ x * 2 ^ k := Int.mul_nonneg x0 (by have := pow_pos' k; omega)
      by_cases hlt : k < j
      · by_cases hz : 0 < x * 2 ^ k
        · have hs : x * 2 ^ (k + 1) = x * 2 ^ k * 2 := by rw [Int.pow_succ, Int.mul_assoc]
          by_cases hov : m / 2 < x * 2 ^ k
          · have hg := grow_le x0 (show k + 1 ≤ j by omega)
            have hnn : ¬ (0 ≤ (j : Int) ∧ x * 2 ^ (j : Int).toNat ≤ m) := by
              simp only [Int.toNat_natCast]; omega
            have HN : Hid (¬ (0 ≤ (j : Int) ∧ x * 2 ^ (j : Int).toNat ≤ m)) := hnn
            clear hnn
            clear hg hs
            go_wp2_with (go_at_call 55; refine (hb _).mono ?_; rintro e w' ⟨rfl, rfl⟩)
            go_ret2
            rw [leftV_neg HN.out, leftOk_neg HN.out]
            exact ⟨rfl, rfl⟩
          · have HS : Hid (x * 2 ^ (k + 1) = x * 2 ^ k * 2) := hs
            clear hs
            go_wp2_with (go_at_call 55; refine (hb _).mono ?_; rintro e w' ⟨rfl, rfl⟩)
            go_round
            case rel => exact ⟨k + 1, by omega, by go_num, by rw [HS.out], by rw [HS.out]; omega⟩
            case measure => simp [intOf]; omega
        · have hx : x = 0 := by
            refine Classical.byContradiction fun hne => ?_
            have := pow_pos' k
            have : 1 * 2 ^ k ≤ x * 2 ^ k := Int.mul_le_mul_of_nonneg_right (by omega) (by omega)
            omega
          subst hx
          go_wp2
          go_ret2
          rw [leftV_pos (by omega) (by simp; omega), leftOk_pos (by omega) (by simp; omega)]
          simp
      · obtain rfl : k = j := by omega
        go_wp2
        go_ret2
        rw [leftV_pos (by omega) (by simpa using hle), leftOk_pos (by omega) (by simpa using hle)]
        simp
  · rw [leftV_neg (by omega), leftOk_neg (by omega)]
    go_enter Try.func25, Try.ntmps25
    go_wp2
    go_ret2
    exact ⟨rfl, rfl⟩
/- one contract for the four widths: 'b' bits, 'm' the greatest number -/
theorem rleft (b m x n : Int) (w : World) (h : (b = 8 ∧ m = 255) ∨ (b = 16 ∧ m = 65535) ∨ (b = 32 ∧ m = 4294967295) ∨ (b = 64 ∧ m = 18446744073709551615)) (x0 : 0 ≤ x) (x1 : x ≤ m) (n1 : n ≤ 9223372036854775807) :
    Calls Try.prog 25 #[.int .i64 b, .int .u64 x, .int .i64 n] w fun e w' => e = .returned (.tuple #[.int .u64 (leftV m x n), .bool (leftOk m x n)]) ∧ w' = w := by
  rcases h with ⟨rfl, rfl⟩ | ⟨rfl, rfl⟩ | ⟨rfl, rfl⟩ | ⟨rfl, rfl⟩
  · exact rleft_core 8 255 x n most8 (by omega) w x0 x1 n1
  · exact rleft_core 16 65535 x n most16 (by omega) w x0 x1 n1
  · exact rleft_core 32 4294967295 x n most32 (by omega) w x0 x1 n1
  · exact rleft_core 64 18446744073709551615 x n most64 (by omega) w x0 x1 n1
end Go.Proofs.Ytiammdgcljjdmaa
