/- The iterator that Powers hands back, at every number: it gives the powers of two whose sum the number is, the greatest first, and ends where a round says no more. -/
import Derived.RangeFuncNested
import Derived.RangeFuncBound
import Derived.RangeFuncCalls
import Derived.RangeFuncLeaves
import Derived.RangeFuncFrom
import Derived.Shelf.Abstract
import Derived.Shelf.RegionOpen
import Derived.WalkKit
import Derived.OwnWalkIn
import Derived.TacticsInMore
import Derived.LoopNIn
import Derived.LoopIn
import Derived.Test.YtiammdgcljjdmaaLib
namespace Go.Proofs.Ytiammdgcljjdmaa
open Go.RowKit Go.Shelf
set_option linter.unusedVariables false
attribute [local go_sem] Oper.semAt_some

/- ### plain: the powers of two whose sum a number is, by their exponents -/
abbrev E := { k : Nat // k ≤ 63 }
def Pows : List E → Nat → Prop
  | [], r => r = 0
  | k :: l, r => 2 ^ k.1 ≤ r ∧ r < 2 * 2 ^ k.1 ∧ Pows l (r - 2 ^ k.1)
theorem pows_ex : ∀ r, r < 18446744073709551616 → ∃ l, Pows l r := by
  intro r
  induction r using Nat.strongRecOn with
  | ind r ih =>
    intro hr
    by_cases h0 : r = 0
    · exact ⟨[], h0⟩
    · obtain ⟨k, hk, a, b⟩ := top_of r (by omega) hr
      have hp := Nat.two_pow_pos k
      obtain ⟨l, hl⟩ := ih (r - 2 ^ k) (by omega) (by omega)
      exact ⟨⟨k, hk⟩ :: l, a, b, hl⟩
theorem popAux_zero : ∀ f, Lib.popAux f 0 = 0
  | 0 => rfl
  | f + 1 => by simp [Lib.popAux, popAux_zero f]
theorem pop_top : ∀ (f k s : Nat), k < f → s < 2 ^ k → Lib.popAux f (2 ^ k + s) = 1 + Lib.popAux f s
  | 0, k, s, h, _ => by omega
  | f + 1, 0, s, _, hs => by
    have : s = 0 := by simpa using hs
    subst this
    simp [Lib.popAux, popAux_zero]
  | f + 1, k + 1, s, h, hs => by
    have e : 2 ^ (k + 1) = 2 * 2 ^ k := by rw [Nat.pow_succ, Nat.mul_comm]
    rw [e] at hs ⊢
    have ih := pop_top f k (s / 2) (by omega) (by omega)
    have e1 : (2 * 2 ^ k + s) % 2 = s % 2 := by omega
    have e2 : (2 * 2 ^ k + s) / 2 = 2 ^ k + s / 2 := by omega
    simp only [Lib.popAux, e1, e2, ih]
    omega
theorem pows_len : ∀ (l : List E) (r : Nat), Pows l r → Lib.popAux 64 r = l.length
  | [], r, h => by
    obtain rfl : r = 0 := h
    exact pop_zero
  | k :: l, r, ⟨a, b, h⟩ => by
    have ih := pows_len l _ h
    have hk := k.2
    have e : r = 2 ^ k.1 + (r - 2 ^ k.1) := by omega
    rw [e, pop_top 64 k.1 _ (by omega) (by omega), ih]
    simp; omega
def lastV : List E → Int
  | [] => 0
  | [e] => 2 ^ e.1
  | _ :: b :: l => lastV (b :: l)
theorem lastV_snoc : ∀ (l : List E) (x : E), lastV (l ++ [x]) = 2 ^ x.1
  | [], _ => rfl
  | [_], _ => rfl
  | _ :: b :: l, x => lastV_snoc (b :: l) x
theorem lastV_nonneg : ∀ l : List E, 0 ≤ lastV l ∧ lastV l ≤ 9223372036854775808
  | [] => by simp [lastV]
  | [e] => by
    have h3 : (2 : Nat) ^ e.1 ≤ 2 ^ 63 := Nat.pow_le_pow_right (by decide) e.2
    have h4 : (2 : Nat) ^ 63 = 9223372036854775808 := by decide
    have h5 := Nat.two_pow_pos e.1
    have h6 := pow_cast e.1
    simp only [lastV]
    omega
  | _ :: b :: l => lastV_nonneg (b :: l)
/- all that follow are smaller -/
theorem pows_fall : ∀ (l : List E) (r : Nat), Pows l r → ∀ q x t, l = q ++ x :: t → q ≠ [] → (2 : Int) ^ x.1 < lastV q
  | [], _, _, q, x, t, e, hq => by cases q <;> simp at e
  | k :: l, r, ⟨a, b, h⟩, q, x, t, e, hq => by
    cases q with
    | nil => exact absurd rfl hq
    | cons k' q' =>
      simp only [List.cons_append, List.cons.injEq] at e
      obtain ⟨rfl, e⟩ := e
      cases q' with
      | nil =>
        simp only [List.nil_append] at e
        subst e
        obtain ⟨a', b', _⟩ := h
        have h6 := pow_cast x.1
        have h7 := pow_cast k.1
        simp only [lastV]
        omega
      | cons b q'' =>
        exact pows_fall l _ h (b :: q'') x t e (by simp)
def sumV : List E → Int := List.foldl (fun s k => IntKind.u64.wrap (s + 2 ^ k.1)) 0
theorem sumV_snoc (l : List E) (x : E) : sumV (l ++ [x]) = IntKind.u64.wrap (sumV l + 2 ^ x.1) := by simp [sumV]
theorem sum_from : ∀ (l : List E) (r : Nat) (s : Nat), Pows l r → s + r < 18446744073709551616 → l.foldl (fun (s : Int) k => IntKind.u64.wrap (s + 2 ^ k.1)) s = ((s + r : Nat) : Int)
  | [], r, s, h, hr => by
    obtain rfl : r = 0 := h
    simp
  | k :: l, r, s, ⟨a, b, h⟩, hr => by
    have e : IntKind.u64.wrap ((s : Int) + 2 ^ k.1) = ((s + 2 ^ k.1 : Nat) : Int) := by
      have h6 := pow_cast k.1
      rw [w64, ← h6]; omega
    rw [List.foldl_cons, e, sum_from l _ _ h (by omega)]
    omega
theorem sumV_of (l : List E) (r : Nat) (h : Pows l r) (hr : r < 18446744073709551616) : sumV l = r := by
  have := sum_from l r 0 h (by omega)
  simpa [sumV] using this

theorem sub_num (r k : Nat) (h : 2 ^ k ≤ r) : Value.int .u64 ((r : Int) - 2 ^ k) = .int .u64 ((r - 2 ^ k : Nat) : Int) := by
  have h6 := pow_cast k
  have e : (r : Int) - 2 ^ k = ((r - 2 ^ k : Nat) : Int) := by rw [← h6]; omega
  rw [e]

/- ### the iterator -/
set_option maxHeartbeats 400000 in
theorem powers_any (x : Int) (w : World) :
    Calls Try.prog 13 #[.int .u64 x] w fun e w' => e = .returned (.func (.func 54) #[] #[.pointer (some ⟨w.heap.size, 0, none⟩)]) ∧ w' = w.alloc (.cells #[.int .u64 x] 22) := by
  go_enter Try.func13, Try.ntmps13
  go_wp2
  go_ret
  exact ⟨rfl, rfl⟩

set_option maxRecDepth 100000 in
set_option maxHeartbeats 1000000 in
theorem iter_in (n : Nat) (hn : 1 ≤ n) (l Bn n₀ : Nat) (x : Nat) (hx : x < 18446744073709551616) (xs : List E) (hp : Pows xs x) (J Jx : List E → World → Prop)
    (hY : ∀ pre k W, J pre W → pre.length < xs.length → YieldAt Fence.wide (n - 1) Try.prog l #[.int .u64 (2 ^ k.1)] W fun e W' =>
      (e = .returned (.bool true) ∧ J (pre ++ [k]) W' ∧ Below n₀ W W') ∨ (e = .returned (.bool false) ∧ Jx (pre ++ [k]) W'))
    (W : World) (hBn : W.cell? ⟨Bn, 0, none⟩ = some (.int .u64 x)) (h0 : J [] W) :
    CallsIn Fence.wide n Try.prog 54 #[.func (.yield l) #[] #[], .pointer (some ⟨Bn, 0, none⟩)] W fun e W' => (∃ v, e = .returned v) ∧
      ((∃ ys, ys = xs ∧ J ys W') ∨ (∃ pre, pre <+: xs ∧ Jx pre W')) := by
  refine callsIn_of_wp Try.func54 rfl trivial ?_ rfl
  simp only [Try.ntmps54, List.size_toArray, List.length_cons, List.length_nil, Nat.reduceAdd, Nat.reduceSub, Array.replicate_succ, Array.replicate_zero, List.push_toArray, List.append_toArray, List.nil_append, List.cons_append]
  gi_wp2
  gi_loopw [3] (fun p wr => ∃ (pre rest : List E) (r : Nat), p = .int .u64 r ∧ r < 18446744073709551616 ∧ xs = pre ++ rest ∧ Pows rest r ∧ J pre wr)
    (fun p _ => (intOf p).toNat)
  case atStart =>
    exact ⟨[], xs, x, rfl, hx, rfl, hp, h0⟩
  case round =>
    obtain ⟨pre, rest, r, rfl, hr, hxs, hl, hJs⟩ := hrel
    cases rest with
    | nil =>
      obtain rfl : r = 0 := hl
      gi_wp2
      go_end0
      exact ⟨⟨_, rfl⟩, .inl ⟨pre, by simp [hxs], hJs⟩⟩
    | cons k rest =>
      obtain ⟨a, b, hl'⟩ := hl
      obtain ⟨fn, tmps, assign, body, hy, hR⟩ := hY pre k wr hJs (by rw [hxs]; simp)
      have hz : ((r : Int) != 0) = true := by
        have := Nat.two_pow_pos k.1
        simp; omega
      have hP := pow_cast k.1
      have ha : (2 : Int) ^ k.1 ≤ r := by omega
      have hb : (r : Int) < 2 * 2 ^ k.1 := by omega
      clear hP
      gi_wp2_with (refine ⟨trivial, ?_⟩; gi_at_call 52; refine (callsIn_wide.2 (highest_of _ k.1 _ k.2 ha hb)).mono ?_; rintro e w' ⟨rfl, rfl⟩)
      refine hR.mono ?_
      rintro e W3 (⟨rfl, hJ3, hk3⟩ | ⟨rfl, hJx3⟩)
      · gi_wp2
        go_roundw
        case rel => exact ⟨pre ++ [k], rest, r - 2 ^ k.1, sub_num r k.1 a, by omega, by simp [hxs], hl', hJ3⟩
        case measure =>
          have := Nat.two_pow_pos k.1
          have h6 := pow_cast k.1
          simp [intOf]; omega
      · gi_wp2
        refine bodyPost_ret (results_none rfl _ _ _) rfl ?_
        exact ⟨⟨_, rfl⟩, .inr ⟨pre ++ [k], ⟨rest, by simp [hxs]⟩, hJx3⟩⟩

theorem iter_stops (n : Nat) (hn : 1 ≤ n) (Bn n₀ : Nat) (x : Nat) (hx : x < 18446744073709551616) (xs : List E) (hp : Pows xs x) (w : World) (hBn : Bn < w.heap.size)
    (hc : w.cell? ⟨Bn, 0, none⟩ = some (.int .u64 x)) :
    SeqStopsK Fence.wide n Try.prog 54 #[.pointer (some ⟨Bn, 0, none⟩)] (fun k : E => #[Value.int .u64 (2 ^ k.1)]) (Below n₀) (fun ys => ys = xs) (fun pre => pre <+: xs) xs.length w := fun l J Jx W hW _ _ hY h0 =>
  iter_in n hn l Bn n₀ x hx xs hp J Jx hY W ((hW.cell (p := ⟨Bn, 0, none⟩) hBn).trans hc) h0

end Go.Proofs.Ytiammdgcljjdmaa
