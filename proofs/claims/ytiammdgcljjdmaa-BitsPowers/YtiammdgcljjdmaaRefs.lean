/- What the document's Below, Log and Powers answer at every number, and that two lists of the same numbers are found to be the same. -/
import Derived.Test.YtiammdgcljjdmaaGather
import Derived.Test.YtiammdgcljjdmaaBase
import Derived.RangeFuncBox
import Derived.Maps.AppendAt
import Derived.Shelf.Abstract
import Derived.WalkKit
import Derived.OwnWalkIn
import Derived.TacticsInMore
import Derived.LoopNIn
import Derived.LoopIn
import Derived.Deep.QuietTactic
import Derived.BigQuiet
namespace Go.Proofs.Ytiammdgcljjdmaa
open Go.RowKit Go.Shelf
set_option linter.unusedVariables false
attribute [local go_sem] Oper.semAt_some

theorem two_pow (j : Nat) (h : j ≤ 63) : (1 : Int) ≤ 2 ^ j ∧ (2 : Int) ^ j ≤ 9223372036854775808 := ⟨pow_pos' j, pow_63 h⟩
theorem pow_up (j : Nat) : (2 : Int) ^ (j + 1) = 2 ^ j * 2 := Int.pow_succ 2 j

set_option maxHeartbeats 1000000 in
theorem rbelow_of (n : Int) (k : Nat) (w : World) (hk : k ≤ 63) (h1 : (2 : Int) ^ k < n) (h2 : n ≤ 2 * 2 ^ k) (hn : n ≤ 18446744073709551615) :
    Calls Try.prog 8 #[.int .u64 n] w fun e w' => e = .returned (.tuple #[.int .u64 (2 ^ k), .bool true]) ∧ w' = w := by
  have h3 := two_pow k hk
  have hn2 : 2 ≤ n := by omega
  go_enter Try.func8, Try.ntmps8
  go_wp2
  go_loop [4] (fun p => ∃ j : Nat, j ≤ k ∧ p = .int .u64 (2 ^ j)) (fun p => (9223372036854775808 - intOf p).toNat)
  case atStart => exact ⟨0, Nat.zero_le _, rfl⟩
  case round =>
    obtain ⟨j, hj, rfl⟩ := hrel
    have hb := two_pow j (by omega)
    by_cases hlt : j < k
    · have hu := pow_up j
      have hle : (2 : Int) ^ (j + 1) ≤ 2 ^ k := pow_le (by omega)
      have c1 : (2 : Int) ^ j < 9223372036854775808 := by omega
      have c2 : (2 : Int) ^ j * 2 < n := by omega
      have HU : Hid ((2 : Int) ^ (j + 1) = 2 ^ j * 2) := hu
      clear hu hle
      go_wp2
      go_round
      case rel => exact ⟨j + 1, by omega, by rw [HU.out]⟩
      case measure => simp [intOf]; omega
    · obtain rfl : j = k := by omega
      by_cases hk63 : j = 63
      · subst hk63
        go_wp2
        go_ret2
        exact ⟨rfl, rfl⟩
      · have hle : (2 : Int) ^ (j + 1) ≤ 9223372036854775808 := pow_63 (by omega)
        have hu := pow_up j
        have c1 : (2 : Int) ^ j < 9223372036854775808 := by omega
        have c2 : ¬ (2 : Int) ^ j * 2 < n := by omega
        clear hu hle
        go_wp2
        go_ret2
        exact ⟨rfl, rfl⟩
theorem rbelow_no (n : Int) (w : World) (h0 : 0 ≤ n) (h1 : n < 2) :
    Calls Try.prog 8 #[.int .u64 n] w fun e w' => e = .returned (.tuple #[.int .u64 0, .bool false]) ∧ w' = w := by
  go_enter Try.func8, Try.ntmps8
  go_wp2
  go_ret2
  exact ⟨rfl, rfl⟩
set_option maxHeartbeats 1000000 in
theorem rlog_of (n : Int) (k : Nat) (w : World) (hk : k ≤ 63) (h1 : (2 : Int) ^ k < n) (h2 : n ≤ 2 * 2 ^ k) (hn : n ≤ 18446744073709551615) :
    Calls Try.prog 10 #[.int .u64 n] w fun e w' => e = .returned (.tuple #[.int .i64 (k + 1), .bool true]) ∧ w' = w := by
  have h3 := two_pow k hk
  have hz : (n == 0) = false := by simp; omega
  go_enter Try.func10, Try.ntmps10
  go_wp2
  go_loop [4, 5] (fun e p => ∃ j : Nat, j ≤ k + 1 ∧ j ≤ 63 ∧ p = .int .u64 (2 ^ j) ∧ e = .int .i64 j) (fun _ p => (9223372036854775808 - intOf p).toNat)
  case atStart => exact ⟨0, Nat.zero_le _, by omega, rfl, rfl⟩
  case round =>
    obtain ⟨j, hj, hj63, rfl, rfl⟩ := hrel
    have hb := two_pow j hj63
    by_cases hlt : j ≤ k
    · have hle : (2 : Int) ^ j ≤ 2 ^ k := pow_le hlt
      have c1 : (2 : Int) ^ j < n := by omega
      clear hle
      by_cases hk63 : j = 63
      · obtain rfl : k = 63 := by omega
        subst hk63
        go_wp2
        go_ret2
        exact ⟨rfl, rfl⟩
      · have hle : (2 : Int) ^ (j + 1) ≤ 9223372036854775808 := pow_63 (by omega)
        have hu := pow_up j
        have c2 : ((2 : Int) ^ j == 9223372036854775808) = false := by simp; omega
        have c3 : (2 : Int) ^ j * 2 ≤ 9223372036854775808 := by omega
        have HU : Hid ((2 : Int) ^ (j + 1) = 2 ^ j * 2) := hu
        clear hu hle
        go_wp2
        go_round
        case rel => exact ⟨j + 1, by omega, by omega, by rw [HU.out], by go_num⟩
        case measure => simp [intOf]; omega
    · obtain rfl : j = k + 1 := by omega
      have hu := pow_up k
      have c1 : ¬ (2 : Int) ^ (k + 1) < n := by omega
      clear hu
      go_wp2
      go_ret2
      exact ⟨by simp, rfl⟩
theorem rlog_one (w : World) :
    Calls Try.prog 10 #[.int .u64 1] w fun e w' => e = .returned (.tuple #[.int .i64 0, .bool true]) ∧ w' = w := by
  go_enter Try.func10, Try.ntmps10
  go_wp2
  go_loop [4, 5] (fun e p => p = .int .u64 1 ∧ e = .int .i64 0) (fun _ _ => 0)
  case atStart => exact ⟨rfl, rfl⟩
  case round =>
    obtain ⟨rfl, rfl⟩ := hrel
    go_wp2
    go_ret2
    exact ⟨rfl, rfl⟩
theorem rlog_zero (w : World) :
    Calls Try.prog 10 #[.int .u64 0] w fun e w' => e = .returned (.tuple #[.int .i64 0, .bool false]) ∧ w' = w := by
  go_enter Try.func10, Try.ntmps10
  go_wp2
  go_ret2
  exact ⟨rfl, rfl⟩

theorem below_append {W w1 : World} {n₀ : Nat} {e : TypeId} {size : Nat} {v : Value} {k : Nat} {xs : List Value} {tmp : Obj} (hrow : W.ownsRow n₀ e size v k xs) (hn₀ : n₀ ≤ W.heap.size) (hgrow : (W.alloc tmp).grownBy w1 v.ownBlock) : Below n₀ W w1 := by
  refine ((Below.refl n₀ W).alloc hn₀ tmp).grown hgrow (by simp; omega) fun j ej => ?_
  rcases hrow.2 with ⟨rfl, _⟩ | ⟨g, cap, cur, rfl, hb, _, _⟩
  · simp [Value.ownBlock] at ej
  · obtain rfl : g = j := by simpa [Value.ownBlock] using ej
    exact hb

set_option maxRecDepth 100000 in
set_option maxHeartbeats 2000000 in
theorem rpowers_in (x : Nat) (hx : x < 18446744073709551616) (xs : List E) (hp : Pows xs x) (w : World) :
    CallsIn Fence.wide 5 Try.prog 12 #[.int .u64 x] w fun e W' => ∃ v, e = .returned v ∧ W'.ownsRow w.heap.size 22 1 v xs.length (xs.map encE) ∧ Below w.heap.size w W' := by
  obtain ⟨i0, hi, hz0, hz1, hz2⟩ := info_parts info22
  have hlen := pows_len xs x hp
  have h64 := popAux_le 64 x
  have hl64 : xs.length ≤ 64 := by omega
  clear hlen h64
  refine callsIn_of_wp Try.func12 rfl trivial ?_ rfl
  simp only [Try.ntmps12, List.size_toArray, List.length_cons, List.length_nil, Nat.reduceAdd, Nat.reduceSub, Array.replicate_succ, Array.replicate_zero, List.push_toArray, List.append_toArray, List.nil_append, List.cons_append]
  gi_wp2
  gi_loopw [0, 3, 4] (fun n l p wr => ∃ (pre rest : List E) (r P : Nat), n = .int .u64 r ∧ p = .int .u64 P ∧ xs = pre ++ rest ∧ Pows rest r ∧ ((P = 0 ∧ r = 0) ∨ ∃ j, j ≤ 63 ∧ P = 2 ^ j ∧ r < 2 * 2 ^ j) ∧ wr.ownsRow w.heap.size 22 1 l pre.length (pre.map encE) ∧ Below w.heap.size w wr)
    (fun _ _ p _ => (intOf p).toNat)
  case atStart =>
    exact ⟨[], xs, x, 9223372036854775808, rfl, rfl, rfl, hp, .inr ⟨63, by omega, rfl, hx⟩, World.ownsRow_nil _ _ _ _, Below.refl _ _⟩
  case round =>
    obtain ⟨pre, rest, r, P, rfl, rfl, hxs, hl, hP, hrow, hB⟩ := hrel
    rcases hP with ⟨rfl, rfl⟩ | ⟨j, hj, hPj, hr⟩
    · have hrest : rest = [] := by
        cases rest with
        | nil => rfl
        | cons k rest =>
          have := Nat.two_pow_pos k.1
          have := hl.1
          omega
      subst hrest
      simp only [List.append_nil] at hxs
      subst hxs
      gi_wp2
      go_ret
      exact ⟨_, rfl, hrow, hB⟩
    · have hPp : 0 < P := by rw [hPj]; exact Nat.two_pow_pos j
      have hPm : P ≤ 9223372036854775808 := by
        have h3 : (2 : Nat) ^ j ≤ 2 ^ 63 := Nat.pow_le_pow_right (by decide) hj
        have h4 : (2 : Nat) ^ 63 = 9223372036854775808 := by decide
        omega
      have hhalf : ∀ r', r' < P → ((P / 2 = 0 ∧ r' = 0) ∨ ∃ i, i ≤ 63 ∧ P / 2 = 2 ^ i ∧ r' < 2 * 2 ^ i) := by
        intro r' hr'
        cases j with
        | zero => left; simp at hPj; omega
        | succ i => right; exact ⟨i, by omega, by rw [hPj, Nat.pow_succ]; omega, by rw [hPj, Nat.pow_succ] at hr'; omega⟩
      have hr2 : r ≤ 18446744073709551615 := by omega
      by_cases hge : P ≤ r
      · cases rest with
        | nil =>
          obtain rfl : r = 0 := hl
          omega
        | cons k rest =>
          obtain ⟨a, b, hl'⟩ := hl
          have hkj : k.1 = j := by
            have e1 : Lib.bitLen r = k.1 + 1 := bitLen_of r k.1 k.2 a b
            have e2 : Lib.bitLen r = j + 1 := bitLen_of r j hj (by omega) hr
            omega
          have henc : Value.int .u64 (P : Int) = encE k := by
            have := pow_cast j
            unfold encE; rw [hkj, hPj, this]
          have hpl : pre.length < 64 := by rw [hxs] at hl64; simp at hl64; omega
          have hsub : r - P < P := by omega
          have HE : Hid (Value.int .u64 (P : Int) = encE k) := henc
          have HX : Hid (xs = pre ++ k :: rest) := hxs
          have HJ : Hid (k.1 = j ∧ P = 2 ^ j) := ⟨hkj, hPj⟩
          clear henc hxs hkj hPj hr
          gi_wp2_with (gi_at_builtin; refine wpListIn_append_own _ rfl _ _ 28 rfl w.heap.size 22 i0 (.int .u64 0) 1 8 Try.underlying28 hi hz0 hz1 hz2 rfl (by decide) _ _ _ rfl (hrow.alloc _) ⟨wr.heap.size, 0, none⟩ 1 1 [.int .u64 (P : Int)] rfl rfl (cell_one_new _ _ _) (by simp [Value.oneCell']) (by unfold maxLen; omega) (by omega) (by have := hB.size; simp; omega) ?_; intro v' w1 hown' hgrow _; have hb2 := below_append hrow hB.size hgrow)
          go_roundw
          case rel =>
            obtain ⟨hkj, hPj⟩ := HJ.out
            refine ⟨pre ++ [k], rest, r - P, P / 2, by go_num, by go_num, by rw [HX.out]; simp, ?_, hhalf _ hsub, ?_, hB.trans hb2⟩
            · rw [← hkj] at hPj
              rw [hPj]; exact hl'
            · rw [HE.out] at hown'
              simpa using hown'
          case measure => simp [intOf]; omega
      · have hlt : r < P := by omega
        clear hge hPj hr
        gi_wp2
        go_roundw
        case rel => exact ⟨pre, rest, r, P / 2, rfl, by go_num, hxs, hl, hhalf _ (by omega), hrow, hB⟩
        case measure => simp [intOf]; omega

/- two rows of the same numbers -/
set_option maxRecDepth 100000 in
set_option maxHeartbeats 1000000 in
theorem same_rows (zs : List Int) (a b : Nat) (ca cb : Nat) (w : World) (hz : zs.length ≤ 65) (hz0 : 0 < zs.length)
    (ha : ∀ i, i < zs.length → w.cell? ⟨a, i, none⟩ = some (.int .u64 (zs[i]?.getD 0))) (hb : ∀ i, i < zs.length → w.cell? ⟨b, i, none⟩ = some (.int .u64 (zs[i]?.getD 0))) :
    Calls Try.prog 14 #[.slice (some ⟨a, 0, none⟩) zs.length ca, .slice (some ⟨b, 0, none⟩) zs.length cb] w fun e w' => e = .returned (.bool true) ∧ ∃ n, w' = w.drewN n := by
  go_enter Try.func14, Try.ntmps14
  go_wp2
  go_loopw [5] (fun i wr => ∃ k n : Nat, k ≤ zs.length ∧ i = .int .i64 k ∧ wr = w.drewN n) (fun i _ => zs.length - (intOf i).toNat)
  case atStart => exact ⟨0, 0, Nat.zero_le _, rfl, rfl⟩
  case round =>
    obtain ⟨k, n, hk, rfl, rfl⟩ := hrel
    by_cases hlt : k < zs.length
    · have h1 := ha k hlt
      have h2 := hb k hlt
      go_wp2
      go_quiet (fail)
      go_wp2
      go_roundw
      case rel => exact ⟨k + 1, n + nq, by omega, by go_num, rfl⟩
      case measure => simp [intOf]; omega
    · obtain rfl : k = zs.length := by omega
      go_wp2
      go_ret
      exact ⟨rfl, n, rfl⟩

theorem same_none (a b : Option Addr) (ca cb : Nat) (w : World) :
    Calls Try.prog 14 #[.slice a 0 ca, .slice b 0 cb] w fun e w' => e = .returned (.bool true) ∧ w' = w := by
  go_enter Try.func14, Try.ntmps14
  go_wp2
  go_loop [5] (fun i => i = .int .i64 0) (fun _ => 0)
  case atStart => rfl
  case round =>
    subst hrel
    go_wp2
    go_ret
    exact ⟨rfl, rfl⟩

/- a slice that holds the powers of these exponents -/
def R (w : World) (a : Option Addr) (ks : List E) : Prop :=
  ks = [] ∨ ∃ g, a = some ⟨g, 0, none⟩ ∧ g < w.heap.size ∧ ∀ i, i < ks.length → w.cell? ⟨g, i, none⟩ = some (.int .u64 ((ks.map fun k : E => (2 : Int) ^ k.1)[i]?.getD 0))
theorem R.below {w w' : World} {a : Option Addr} {ks : List E} (h : R w a ks) (hb : Below w.heap.size w w') : R w' a ks := by
  rcases h with h | ⟨g, ha, hg, hc⟩
  · exact .inl h
  · exact .inr ⟨g, ha, Nat.lt_of_lt_of_le hg hb.size, fun i hi => (hb.cell (p := ⟨g, i, none⟩) hg).trans (hc i hi)⟩
theorem R.drewN {w : World} {a : Option Addr} {ks : List E} (h : R w a ks) (n : Nat) : R (w.drewN n) a ks := h
theorem R.take {w : World} {a : Option Addr} {ks : List E} (h : R w a ks) (m : Nat) : R w a (ks.take m) := by
  rcases h with h | ⟨g, ha, hg, hc⟩
  · subst h; exact .inl (by simp)
  · refine .inr ⟨g, ha, hg, fun i hi => ?_⟩
    have hi' : i < m ∧ i < ks.length := by simp at hi; omega
    rw [hc i hi'.2]
    simp [hi'.1]
theorem R.of_owns {w : World} {base : Nat} {v : Value} {ks : List E} (h : w.ownsRow base 22 1 v ks.length (ks.map encE)) : ∃ a cap, v = .slice a ks.length cap ∧ ks.length ≤ cap ∧ R w a ks := by
  obtain ⟨_, h⟩ := h
  rcases h with ⟨rfl, h0⟩ | ⟨g, cap, cur, rfl, _, hg, hle, _, hs, ht⟩
  · exact ⟨none, 0, by rw [h0], by omega, .inl (List.length_eq_zero_iff.1 h0)⟩
  · refine ⟨_, cap, rfl, hle, .inr ⟨g, rfl, (Array.getElem?_eq_some_iff.1 hg).1, fun i hi => ?_⟩⟩
    have e : cur[i]? = some (encE (ks[i])) := by
      have h1 : (cur.toList.take (ks.length * 1))[i]? = (ks.map encE)[i]? := by rw [ht]
      rw [List.getElem?_take, if_pos (by omega)] at h1
      simpa [hi] using h1
    have e2 : ((ks.map fun k : E => (2 : Int) ^ k.1)[i]?.getD 0) = 2 ^ (ks[i]).1 := by simp [hi]
    rw [e2]
    simp [World.cell?, hg, e, encE]
theorem same_R (ks : List E) (hk : ks.length ≤ 64) (a b : Option Addr) (ca cb : Nat) (w : World) (ha : R w a ks) (hb : R w b ks) :
    Calls Try.prog 14 #[.slice a ks.length ca, .slice b ks.length cb] w fun e w' => e = .returned (.bool true) ∧ ∃ n, w' = w.drewN n := by
  by_cases h0 : ks = []
  · subst h0
    exact (same_none a b ca cb w).mono fun e w' ⟨he, hw⟩ => ⟨he, 0, by rw [hw]; rfl⟩
  · rcases ha with h | ⟨g, rfl, _, hc⟩
    · exact absurd h h0
    · rcases hb with h | ⟨g', rfl, _, hc'⟩
      · exact absurd h h0
      · have hl : (ks.map fun k : E => (2 : Int) ^ k.1).length = ks.length := by simp
        have := same_rows (ks.map fun k : E => (2 : Int) ^ k.1) g g' ca cb w (by omega) (by rw [hl]; exact List.length_pos_iff.2 h0) (by rw [hl]; exact hc) (by rw [hl]; exact hc')
        rwa [hl] at this
theorem gather_R (x : Nat) (hx : x < 18446744073709551616) (xs : List E) (hp : Pows xs x) (m : Nat) (hm : 1 ≤ m) (hm2 : m ≤ 65) (Bn : Nat) (w : World) (hBn : Bn < w.heap.size) (hc : w.cell? ⟨Bn, 0, none⟩ = some (.int .u64 x)) :
    Calls Try.prog 15 #[.func (.func 54) #[] #[.pointer (some ⟨Bn, 0, none⟩)], .int .i64 m] w fun e W' => ∃ a cap, e = .returned (.slice a (xs.take m).length cap) ∧ R W' a (xs.take m) ∧ Below w.heap.size w W' :=
  (callsIn_wide.1 (gather_in x hx xs hp m hm hm2 Bn w hBn hc)).mono fun e W' ⟨v, he, hr, hb⟩ => by
    obtain ⟨a, cap, rfl, _, h⟩ := R.of_owns hr
    exact ⟨a, cap, he, h, hb⟩
theorem rpowers_R (x : Nat) (hx : x < 18446744073709551616) (xs : List E) (hp : Pows xs x) (w : World) :
    Calls Try.prog 12 #[.int .u64 x] w fun e W' => ∃ a cap, e = .returned (.slice a xs.length cap) ∧ xs.length ≤ cap ∧ R W' a xs ∧ Below w.heap.size w W' :=
  (callsIn_wide.1 (rpowers_in x hx xs hp w)).mono fun e W' ⟨v, he, hr, hb⟩ => by
    obtain ⟨a, cap, rfl, hc, h⟩ := R.of_owns hr
    exact ⟨a, cap, he, hc, h, hb⟩

/- Below and Log, program's and document's alike -/
def belowV (x : Nat) : Int := if x < 2 then 0 else 2 ^ (Lib.bitLen (x - 1) - 1)
def belowOk (x : Nat) : Bool := decide (2 ≤ x)
def logV (x : Nat) : Int := if x = 0 then 0 else Lib.bitLen (x - 1)
def logOk (x : Nat) : Bool := decide (0 < x)
theorem below_log (x : Nat) (hx : x < 18446744073709551616) (w : World) :
    (Calls Try.prog 7 #[.int .u64 x] w fun e w' => e = .returned (.tuple #[.int .u64 (belowV x), .bool (belowOk x)]) ∧ w' = w) ∧
    (Calls Try.prog 8 #[.int .u64 x] w fun e w' => e = .returned (.tuple #[.int .u64 (belowV x), .bool (belowOk x)]) ∧ w' = w) ∧
    (Calls Try.prog 9 #[.int .u64 x] w fun e w' => e = .returned (.tuple #[.int .i64 (logV x), .bool (logOk x)]) ∧ w' = w) ∧
    (Calls Try.prog 10 #[.int .u64 x] w fun e w' => e = .returned (.tuple #[.int .i64 (logV x), .bool (logOk x)]) ∧ w' = w) := by
  by_cases h2 : 2 ≤ x
  · obtain ⟨k, hk, a, b⟩ := top_of (x - 1) (by omega) (by omega)
    have hl := bitLen_of (x - 1) k hk a b
    have e1 : belowV x = 2 ^ k := by unfold belowV; rw [if_neg (by omega), hl]; rfl
    have e2 : belowOk x = true := decide_eq_true h2
    have e3 : logV x = k + 1 := by unfold logV; rw [if_neg (by omega), hl]; omega
    have e4 : logOk x = true := decide_eq_true (by omega)
    have h6 := pow_cast k
    rw [e1, e2, e3, e4]
    exact ⟨below_of x k w hk (by omega) (by omega), rbelow_of x k w hk (by omega) (by omega) (by omega), log_of x k w hk (by omega) (by omega), rlog_of x k w hk (by omega) (by omega) (by omega)⟩
  · have e1 : belowV x = 0 := if_pos (by omega)
    have e2 : belowOk x = false := decide_eq_false h2
    rw [e1, e2]
    refine ⟨below_no x w (by omega) (by omega), rbelow_no x w (by omega) (by omega), ?_⟩
    by_cases h0 : x = 0
    · subst h0
      exact ⟨log_zero w, rlog_zero w⟩
    · obtain rfl : x = 1 := by omega
      exact ⟨log_one w, rlog_one w⟩
end Go.Proofs.Ytiammdgcljjdmaa
