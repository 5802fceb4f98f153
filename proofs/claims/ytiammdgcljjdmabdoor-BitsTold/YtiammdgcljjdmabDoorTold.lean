/- What the loop over Powers does in BitsTold: as many rounds as the number has ones, falling powers whose sum is the number; so many ones at the end. -/
import Derived.RangeFuncNested
import Derived.RangeFuncBound
import Derived.RangeFuncCalls
import Derived.RangeFuncLeaves
import Derived.RangeFuncFrom
import Derived.Shelf.Abstract
import Derived.Shelf.RegionOpen
import Derived.WalkKit
import Derived.OwnWalkIn
import Derived.TacticsInMore
import Derived.LoopNIn
import Derived.LoopIn
import Derived.Deep.QuietTactic
import Derived.BigQuiet
import Derived.Test.YtiammdgcljjdmabDoorKinds
namespace Go.Proofs.YtiammdgcljjdmabDoor
open Go.RowKit Go.Shelf
set_option linter.unusedVariables false
attribute [local go_sem] Oper.semAt_some

/- ### plain: the powers of two whose sum a number is, by their exponents -/
abbrev E := { k : Nat // k ≤ 63 }
def Pows : List E → Nat → Prop
  | [], r => r = 0
  | k :: l, r => 2 ^ k.1 ≤ r ∧ r < 2 * 2 ^ k.1 ∧ Pows l (r - 2 ^ k.1)
theorem pows_ex : ∀ r, r < 18446744073709551616 → ∃ l, Pows l r := by
  intro r
  induction r using Nat.strongRecOn with
  | ind r ih =>
    intro hr
    by_cases h0 : r = 0
    · exact ⟨[], h0⟩
    · obtain ⟨k, hk, a, b⟩ := top_of r (by omega) hr
      have hp := Nat.two_pow_pos k
      obtain ⟨l, hl⟩ := ih (r - 2 ^ k) (by omega) (by omega)
      exact ⟨⟨k, hk⟩ :: l, a, b, hl⟩
theorem popAux_zero : ∀ f, Lib.popAux f 0 = 0
  | 0 => rfl
  | f + 1 => by simp [Lib.popAux, popAux_zero f]
theorem pop_top : ∀ (f k s : Nat), k < f → s < 2 ^ k → Lib.popAux f (2 ^ k + s) = 1 + Lib.popAux f s
  | 0, k, s, h, _ => by omega
  | f + 1, 0, s, _, hs => by
    have : s = 0 := by simpa using hs
    subst this
    simp [Lib.popAux, popAux_zero]
  | f + 1, k + 1, s, h, hs => by
    have e : 2 ^ (k + 1) = 2 * 2 ^ k := by rw [Nat.pow_succ, Nat.mul_comm]
    rw [e] at hs ⊢
    have ih := pop_top f k (s / 2) (by omega) (by omega)
    have e1 : (2 * 2 ^ k + s) % 2 = s % 2 := by omega
    have e2 : (2 * 2 ^ k + s) / 2 = 2 ^ k + s / 2 := by omega
    simp only [Lib.popAux, e1, e2, ih]
    omega
theorem pows_len : ∀ (l : List E) (r : Nat), Pows l r → Lib.popAux 64 r = l.length
  | [], r, h => by
    obtain rfl : r = 0 := h
    exact pop_zero
  | k :: l, r, ⟨a, b, h⟩ => by
    have ih := pows_len l _ h
    have hk := k.2
    have e : r = 2 ^ k.1 + (r - 2 ^ k.1) := by omega
    rw [e, pop_top 64 k.1 _ (by omega) (by omega), ih]
    simp; omega
def lastV : List E → Int
  | [] => 0
  | [e] => 2 ^ e.1
  | _ :: b :: l => lastV (b :: l)
theorem lastV_snoc : ∀ (l : List E) (x : E), lastV (l ++ [x]) = 2 ^ x.1
  | [], _ => rfl
  | [_], _ => rfl
  | _ :: b :: l, x => lastV_snoc (b :: l) x
theorem lastV_nonneg : ∀ l : List E, 0 ≤ lastV l ∧ lastV l ≤ 9223372036854775808
  | [] => by simp [lastV]
  | [e] => by
    have h3 : (2 : Nat) ^ e.1 ≤ 2 ^ 63 := Nat.pow_le_pow_right (by decide) e.2
    have h4 : (2 : Nat) ^ 63 = 9223372036854775808 := by decide
    have h5 := Nat.two_pow_pos e.1
    have h6 := pow_cast e.1
    simp only [lastV]
    omega
  | _ :: b :: l => lastV_nonneg (b :: l)
/- all that follow are smaller -/
theorem pows_fall : ∀ (l : List E) (r : Nat), Pows l r → ∀ q x t, l = q ++ x :: t → q ≠ [] → (2 : Int) ^ x.1 < lastV q
  | [], _, _, q, x, t, e, hq => by cases q <;> simp at e
  | k :: l, r, ⟨a, b, h⟩, q, x, t, e, hq => by
    cases q with
    | nil => exact absurd rfl hq
    | cons k' q' =>
      simp only [List.cons_append, List.cons.injEq] at e
      obtain ⟨rfl, e⟩ := e
      cases q' with
      | nil =>
        simp only [List.nil_append] at e
        subst e
        obtain ⟨a', b', _⟩ := h
        have h6 := pow_cast x.1
        have h7 := pow_cast k.1
        simp only [lastV]
        omega
      | cons b q'' =>
        exact pows_fall l _ h (b :: q'') x t e (by simp)
def sumV : List E → Int := List.foldl (fun s k => IntKind.u64.wrap (s + 2 ^ k.1)) 0
theorem sumV_snoc (l : List E) (x : E) : sumV (l ++ [x]) = IntKind.u64.wrap (sumV l + 2 ^ x.1) := by simp [sumV]
theorem sum_from : ∀ (l : List E) (r : Nat) (s : Nat), Pows l r → s + r < 18446744073709551616 → l.foldl (fun (s : Int) k => IntKind.u64.wrap (s + 2 ^ k.1)) s = ((s + r : Nat) : Int)
  | [], r, s, h, hr => by
    obtain rfl : r = 0 := h
    simp
  | k :: l, r, s, ⟨a, b, h⟩, hr => by
    have e : IntKind.u64.wrap ((s : Int) + 2 ^ k.1) = ((s + 2 ^ k.1 : Nat) : Int) := by
      have h6 := pow_cast k.1
      rw [w64, ← h6]; omega
    rw [List.foldl_cons, e, sum_from l _ _ h (by omega)]
    omega
theorem sumV_of (l : List E) (r : Nat) (h : Pows l r) (hr : r < 18446744073709551616) : sumV l = r := by
  have := sum_from l r 0 h (by omega)
  simpa [sumV] using this

theorem ones_spec : ∀ (f x : Nat), ones f x < f → x % 2 ^ ones f x = 2 ^ ones f x - 1 ∧ x / 2 ^ ones f x % 2 = 0
  | 0, x, h => by omega
  | f + 1, x, h => by
    by_cases h1 : x % 2 = 1
    · have e : ones (f + 1) x = 1 + ones f (x / 2) := if_pos h1
      rw [e] at h ⊢
      obtain ⟨a, b⟩ := ones_spec f (x / 2) (by omega)
      have p := Nat.two_pow_pos (ones f (x / 2))
      have e2 : 2 ^ (1 + ones f (x / 2)) = 2 * 2 ^ ones f (x / 2) := by rw [Nat.pow_add]
      rw [e2, ← Nat.div_div_eq_div_mul, Nat.mod_mul]
      exact ⟨by rw [a]; omega, b⟩
    · have e : ones (f + 1) x = 0 := if_neg h1
      rw [e]
      simp
      omega
theorem ones_all : ∀ (f x : Nat), x < 2 ^ f → ones f x = f → x = 2 ^ f - 1
  | 0, x, h, _ => by simp at h; simp [h]
  | f + 1, x, h, he => by
    by_cases h1 : x % 2 = 1
    · have e : ones (f + 1) x = 1 + ones f (x / 2) := if_pos h1
      rw [Nat.pow_succ] at h ⊢
      have := ones_all f (x / 2) (by omega) (by omega)
      have p := Nat.two_pow_pos f
      omega
    · have e : ones (f + 1) x = 0 := if_neg h1
      omega
theorem low_and (x o : Nat) (hx : x < 18446744073709551616) (ho : o < 64) (h : x % 2 ^ o = 2 ^ o - 1) : bits BinOp.and IntKind.u64 (x : Int) (2 ^ o - 1) = 2 ^ o - 1 := by
  have h3 : (2 : Nat) ^ o ≤ 2 ^ 63 := Nat.pow_le_pow_right (by decide) (by omega)
  have h4 : (2 : Nat) ^ 63 = 9223372036854775808 := by decide
  have h5 := Nat.two_pow_pos o
  have h6 := pow_cast o
  have e : (2 : Int) ^ o - 1 = ((2 ^ o - 1 : Nat) : Int) := by rw [← h6]; omega
  rw [e, bits_and_u64_nat x (2 ^ o - 1) hx (by omega), Nat.and_two_pow_sub_one_eq_mod, h]
theorem next_and (x o : Nat) (hx : x < 18446744073709551616) (h : x / 2 ^ o % 2 = 0) : bits BinOp.and IntKind.u64 ((x : Int) / 2 ^ o) 1 = 0 := by
  have h6 := pow_cast o
  have hd : x / 2 ^ o ≤ x := Nat.div_le_self _ _
  have e : (x : Int) / 2 ^ o = ((x / 2 ^ o : Nat) : Int) := by rw [← h6]; exact (Int.natCast_ediv _ _).symm
  have e1 : (1 : Int) = ((1 : Nat) : Int) := rfl
  rw [e, e1, bits_and_u64_nat _ 1 (by omega) (by omega)]
  have : x / 2 ^ o &&& 1 = x / 2 ^ o % 2 ^ 1 := Nat.and_two_pow_sub_one_eq_mod _ 1
  rw [this]
  omega
theorem sub_num (r k : Nat) (h : 2 ^ k ≤ r) : Value.int .u64 ((r : Int) - 2 ^ k) = .int .u64 ((r - 2 ^ k : Nat) : Int) := by
  have h6 := pow_cast k
  have e : (r : Int) - 2 ^ k = ((r - 2 ^ k : Nat) : Int) := by rw [← h6]; omega
  rw [e]

/- ### the iterator -/
set_option maxHeartbeats 400000 in
theorem powers_any (x : Int) (w : World) :
    Calls Tryd.prog 9 #[.int .u64 x] w fun e w' => e = .returned (.func (.func 18) #[] #[.pointer (some ⟨w.heap.size, 0, none⟩)]) ∧ w' = w.alloc (.cells #[.int .u64 x] 25) := by
  go_enter Tryd.func9, Tryd.ntmps9
  go_wp2
  go_ret
  exact ⟨rfl, rfl⟩

set_option maxRecDepth 100000 in
set_option maxHeartbeats 1000000 in
theorem iter_in (n : Nat) (hn : 1 ≤ n) (l Bn n₀ : Nat) (x : Nat) (hx : x < 18446744073709551616) (xs : List E) (hp : Pows xs x) (J Jx : List E → World → Prop)
    (hY : ∀ pre k W, J pre W → pre.length < xs.length → YieldAt Fence.wide (n - 1) Tryd.prog l #[.int .u64 (2 ^ k.1)] W fun e W' =>
      (e = .returned (.bool true) ∧ J (pre ++ [k]) W' ∧ Below n₀ W W') ∨ (e = .returned (.bool false) ∧ Jx (pre ++ [k]) W'))
    (W : World) (hBn : W.cell? ⟨Bn, 0, none⟩ = some (.int .u64 x)) (h0 : J [] W) :
    CallsIn Fence.wide n Tryd.prog 18 #[.func (.yield l) #[] #[], .pointer (some ⟨Bn, 0, none⟩)] W fun e W' => (∃ v, e = .returned v) ∧
      ((∃ ys, ys = xs ∧ J ys W') ∨ (∃ pre, pre <+: xs ∧ Jx pre W')) := by
  refine callsIn_of_wp Tryd.func18 rfl trivial ?_ rfl
  simp only [Tryd.ntmps18, List.size_toArray, List.length_cons, List.length_nil, Nat.reduceAdd, Nat.reduceSub, Array.replicate_succ, Array.replicate_zero, List.push_toArray, List.append_toArray, List.nil_append, List.cons_append]
  gi_wp2
  gi_loopw [3] (fun p wr => ∃ (pre rest : List E) (r : Nat), p = .int .u64 r ∧ r < 18446744073709551616 ∧ xs = pre ++ rest ∧ Pows rest r ∧ J pre wr)
    (fun p _ => (intOf p).toNat)
  case atStart =>
    exact ⟨[], xs, x, rfl, hx, rfl, hp, h0⟩
  case round =>
    obtain ⟨pre, rest, r, rfl, hr, hxs, hl, hJs⟩ := hrel
    cases rest with
    | nil =>
      obtain rfl : r = 0 := hl
      gi_wp2
      go_end0
      exact ⟨⟨_, rfl⟩, .inl ⟨pre, by simp [hxs], hJs⟩⟩
    | cons k rest =>
      obtain ⟨a, b, hl'⟩ := hl
      obtain ⟨fn, tmps, assign, body, hy, hR⟩ := hY pre k wr hJs (by rw [hxs]; simp)
      have hz : ((r : Int) != 0) = true := by
        have := Nat.two_pow_pos k.1
        simp; omega
      have hP := pow_cast k.1
      have ha : (2 : Int) ^ k.1 ≤ r := by omega
      have hb : (r : Int) < 2 * 2 ^ k.1 := by omega
      clear hP
      gi_wp2_with (refine ⟨trivial, ?_⟩; gi_at_call 19; refine (callsIn_wide.2 (highest_of _ k.1 _ k.2 ha hb)).mono ?_; rintro e w' ⟨rfl, rfl⟩)
      refine hR.mono ?_
      rintro e W3 (⟨rfl, hJ3, hk3⟩ | ⟨rfl, hJx3⟩)
      · gi_wp2
        go_roundw
        case rel => exact ⟨pre ++ [k], rest, r - 2 ^ k.1, sub_num r k.1 a, by omega, by simp [hxs], hl', hJ3⟩
        case measure =>
          have := Nat.two_pow_pos k.1
          have h6 := pow_cast k.1
          simp [intOf]; omega
      · gi_wp2
        refine bodyPost_ret (results_none rfl _ _ _) rfl ?_
        exact ⟨⟨_, rfl⟩, .inr ⟨pre ++ [k], ⟨rest, by simp [hxs]⟩, hJx3⟩⟩

theorem iter_stops (n : Nat) (hn : 1 ≤ n) (Bn n₀ : Nat) (x : Nat) (hx : x < 18446744073709551616) (xs : List E) (hp : Pows xs x) (w : World) (hBn : Bn < w.heap.size)
    (hc : w.cell? ⟨Bn, 0, none⟩ = some (.int .u64 x)) :
    SeqStopsK Fence.wide n Tryd.prog 18 #[.pointer (some ⟨Bn, 0, none⟩)] (fun k : E => #[Value.int .u64 (2 ^ k.1)]) (Below n₀) (fun ys => ys = xs) (fun pre => pre <+: xs) xs.length w := fun l J Jx W hW _ _ hY h0 =>
  iter_in n hn l Bn n₀ x hx xs hp J Jx hY W ((hW.cell (p := ⟨Bn, 0, none⟩) hBn).trans hc) h0

theorem tab_below {w w' : World} (h : Below w.heap.size w w') (hg : 0 < w.heap.size) (hT : TabAt w) : TabAt w' := fun j hj => (h.cell (p := ⟨0, j, none⟩) hg).trans (hT j hj)

theorem told_round (w W : World) (pre : List E) (k : E) (b0 : Boxed W w.heap.size 4 (.bool false)) (b1 : Boxed W (w.heap.size + 1 + 1) 25 (.int .u64 (sumV pre))) (b2 : Boxed W (w.heap.size + 1 + 1 + 1) 3 (.int .i64 (pre.length : Nat))) (b3 : Boxed W (w.heap.size + 1 + 1 + 1 + 1) 25 (.int .u64 (lastV pre))) (hB : Below w.heap.size w W) :
    ∀ W3, W3 = (((W.setCell ⟨w.heap.size + 1 + 1 + 1 + 1, 0, none⟩ (.int .u64 (2 ^ k.1))).setCell ⟨w.heap.size + 1 + 1, 0, none⟩ (.int .u64 (IntKind.u64.wrap (sumV pre + 2 ^ k.1)))).setCell ⟨w.heap.size + 1 + 1 + 1, 0, none⟩ (.int .i64 ((pre.length : Nat) + 1))) →
    KeepsOthers W W3 ∧ Below w.heap.size W W3 ∧ (Boxed W3 w.heap.size 4 (.bool false) ∧ Boxed W3 (w.heap.size + 1 + 1) 25 (.int .u64 (sumV (pre ++ [k]))) ∧ Boxed W3 (w.heap.size + 1 + 1 + 1) 3 (.int .i64 ((pre ++ [k]).length : Nat)) ∧ Boxed W3 (w.heap.size + 1 + 1 + 1 + 1) 25 (.int .u64 (lastV (pre ++ [k])))) ∧ Below w.heap.size w W3 := by
  rintro W3 rfl
  have e1 : ((pre ++ [k]).length : Int) = (pre.length : Int) + 1 := by simp
  rw [sumV_snoc, lastV_snoc, e1]
  have hb : Below w.heap.size W (((W.setCell ⟨w.heap.size + 1 + 1 + 1 + 1, 0, none⟩ (.int .u64 (2 ^ k.1))).setCell ⟨w.heap.size + 1 + 1, 0, none⟩ (.int .u64 (IntKind.u64.wrap (sumV pre + 2 ^ k.1)))).setCell ⟨w.heap.size + 1 + 1 + 1, 0, none⟩ (.int .i64 ((pre.length : Nat) + 1))) :=
    (((Below.refl _ W).setCell (p := ⟨w.heap.size + 1 + 1 + 1 + 1, 0, none⟩) (by simp; omega) _).setCell (p := ⟨w.heap.size + 1 + 1, 0, none⟩) (by simp; omega) _).setCell (p := ⟨w.heap.size + 1 + 1 + 1, 0, none⟩) (by simp; omega) _
  refine ⟨((KeepsOthers.setCell _ _ _).trans (KeepsOthers.setCell _ _ _)).trans (KeepsOthers.setCell _ _ _), hb, ⟨?_, ?_, ?_, ?_⟩, hB.trans hb⟩
  · exact ((b0.other (by omega) _).other (by omega) _).other (by omega) _
  · exact ((b1.other (by omega) _).set _).other (by omega) _
  · exact ((b2.other (by omega) _).other (by omega) _).set _
  · exact ((b3.set _).other (by omega) _).other (by omega) _

set_option maxRecDepth 100000 in
set_option maxHeartbeats 2000000 in
theorem told_in (x : Nat) (hx : x < 18446744073709551616) (w : World) (hT : TabAt w) (hg : 0 < w.heap.size) :
    CallsIn Fence.wide 5 Tryd.prog 4 #[.int .u64 x] w fun e W' => e = .returned (.bool true) ∧ Below w.heap.size w W' := by
  obtain ⟨xs, hp⟩ := pows_ex x hx
  have hT2 : TabAt ((w.alloc (.cells #[.bool false] 4)).alloc (.cells #[.int .u64 x] 25)) := tab_below (((Below.refl _ w).alloc (Nat.le_refl _) _).alloc (by simp) _) hg hT
  have hfe : ∀ (b : Nat) (w : World), (binOp .eql 32 (.func (.func 18) #[] #[.pointer (some ⟨b, 0, none⟩)]) .nilFunc).run Tryd.prog w = .ok (.bool false) w := fun _ _ => by kernel_rfl
  refine callsIn_of_wp_marks Tryd.func4 rfl trivial ?_ rfl
  simp only [Tryd.ntmps4, List.size_toArray, List.length_cons, List.length_nil, Nat.reduceAdd, Nat.reduceSub, Array.replicate_succ, Array.replicate_zero, List.push_toArray, List.append_toArray, List.nil_append, List.cons_append]
  gi_wp2_with (first
    | (refine ⟨trivial, ?_⟩; gi_at_call 9; refine (callsIn_wide.2 (powers_any _ _)).mono ?_; rintro e w' ⟨rfl, rfl⟩)
    | (refine ⟨trivial, ?_⟩; gi_at_call 7; refine (callsIn_wide.2 (alive_t _ hT2)).mono ?_; rintro e w' ⟨rfl, rfl⟩))
  have c0 := Boxed.new w 4 (.bool false)
  have c1 := Boxed.new (w.alloc (.cells #[.bool false] 4)) 25 (.int .u64 x)
  have c2 := Boxed.new ((w.alloc (.cells #[.bool false] 4)).alloc (.cells #[.int .u64 x] 25)) 25 (.int .u64 0)
  have c3 := Boxed.new (((w.alloc (.cells #[.bool false] 4)).alloc (.cells #[.int .u64 x] 25)).alloc (.cells #[.int .u64 0] 25)) 3 (.int .i64 0)
  have c4 := Boxed.new ((((w.alloc (.cells #[.bool false] 4)).alloc (.cells #[.int .u64 x] 25)).alloc (.cells #[.int .u64 0] 25)).alloc (.cells #[.int .i64 0] 3)) 25 (.int .u64 0)
  simp only [World.size_alloc] at c1 c2 c3 c4
  have hB0 : Below w.heap.size w (((((w.alloc (.cells #[.bool false] 4)).alloc (.cells #[.int .u64 x] 25)).alloc (.cells #[.int .u64 0] 25)).alloc (.cells #[.int .i64 0] 3)).alloc (.cells #[.int .u64 0] 25)) := (((((Below.refl _ w).alloc (Nat.le_refl _) _).alloc (by simp) _).alloc (by simp; omega) _).alloc (by simp; omega) _).alloc (by simp; omega) _
  refine wpIn_rangeFunc_ownF rfl (by omega) (gf := 18) (lb := #[.pointer (some ⟨w.heap.size + 1, 0, none⟩)]) rfl trivial (enters_of Tryd.func18 (by kernel_rfl) rfl)
    (iter_stops 4 (by omega) (w.heap.size + 1) w.heap.size x hx xs hp _ (by simp) (((c1.alloc _).alloc _).alloc _).cell) belowK_t (belowK_b (by simp; omega)) (Below.refl _ _) (fun _ => rfl)
    (fun pre W => (Boxed W w.heap.size 4 (.bool false) ∧ Boxed W (w.heap.size + 1 + 1) 25 (.int .u64 (sumV pre)) ∧ Boxed W (w.heap.size + 1 + 1 + 1) 3 (.int .i64 (pre.length : Nat)) ∧ Boxed W (w.heap.size + 1 + 1 + 1 + 1) 25 (.int .u64 (lastV pre))) ∧ Below w.heap.size w W)
    (fun _ q _ => ∃ pre k, q = pre ++ [k] ∧ pre ≠ [] ∧ lastV pre ≤ 2 ^ k.1)
    (OwnFrom.and (Own.from (fun s A B row hs hg hr => ⟨boxed_own _ _ (fun _ : List E => Value.bool false) s A B row hs.1 hg hr, boxed_own _ _ (fun s : List E => Value.int .u64 (sumV s)) s A B row hs.2.1 hg hr, boxed_own _ _ (fun s : List E => Value.int .i64 (s.length : Nat)) s A B row hs.2.2.1 hg hr, boxed_own _ _ (fun s : List E => Value.int .u64 (lastV s)) s A B row hs.2.2.2 hg hr⟩) _) (ownFrom_below (Nat.le_refl _) (by simp; omega)))
    (fun _ => ownFrom_pure _ _)
    ⟨⟨(((c0.alloc _).alloc _).alloc _).alloc _, (c2.alloc _).alloc _, c3.alloc _, c4⟩, hB0⟩
    (fun k => { tmps := #[.int .u64 x, undef, .pointer (some ⟨w.heap.size, 0, none⟩), .func (.func 18) #[] #[.pointer (some ⟨w.heap.size + 1, 0, none⟩)], .pointer (some ⟨w.heap.size + 1 + 1, 0, none⟩), .pointer (some ⟨w.heap.size + 1 + 1 + 1, 0, none⟩), .pointer (some ⟨w.heap.size + 1 + 1 + 1 + 1, 0, none⟩), .int .u64 (2 ^ k.1), undef, .int .u64 x, .func (.func 18) #[] #[.pointer (some ⟨w.heap.size + 1, 0, none⟩)], .bool true, .bool false, .bool false, .func (.func 18) #[] #[.pointer (some ⟨w.heap.size + 1, 0, none⟩)], .bool false, .bool false, .func (.func 18) #[] #[.pointer (some ⟨w.heap.size + 1, 0, none⟩)], .int .u64 (2 ^ k.1), undef, undef, undef, undef, undef, undef, undef, undef, undef, undef, undef, undef, undef, undef, undef, undef, undef, undef, undef, undef, undef, undef, undef, undef, undef, undef, undef, undef, undef, undef, undef, undef, undef, undef, undef, undef, undef, undef, undef, undef, undef, undef, undef, undef, undef, undef, undef, undef, undef, undef, undef, undef, undef, undef, undef, undef, undef, undef, undef, undef, undef], defers := [] }) ?assign ?body ?done ?stop
  case assign =>
    intro l k W K hK
    gi_wp2
    exact hK
  case body =>
    rintro l pre k W ⟨⟨b0, b1, b2, b3⟩, hB⟩ hlt
    have hlen := (pows_len xs x hp).symm
    have h64 := popAux_le 64 x
    have hl : pre.length < 64 := by omega
    have hv := lastV_nonneg pre
    have hk := k.2
    clear hlen h64 hlt
    have a0 := b0.cell
    have a1 := b1.cell
    have a2 := b2.cell
    have a3 := b3.cell
    have f0 := b0.frozen
    have f1 := b1.frozen
    have f2 := b2.frozen
    have f3 := b3.frozen
    by_cases hpre : pre = []
    · subst hpre
      gi_wp2_with (refine ⟨trivial, ?_⟩; gi_at_call 10; refine (CallsIn.inRound l (callsIn_wide.2 (count_pow k.1 _ hk))).mono ?_; rintro e w' ⟨rfl, rfl⟩)
      exact told_round w _ [] k b0 b1 b2 b3 hB _ rfl
    · by_cases hla : (2 : Int) ^ k.1 < lastV pre
      · have hm : 0 < pre.length := List.length_pos_iff.2 hpre
        gi_wp2_with (refine ⟨trivial, ?_⟩; gi_at_call 10; refine (CallsIn.inRound l (callsIn_wide.2 (count_pow k.1 _ hk))).mono ?_; rintro e w' ⟨rfl, rfl⟩)
        exact told_round w _ pre k b0 b1 b2 b3 hB _ rfl
      · have hm : 0 < pre.length := List.length_pos_iff.2 hpre
        have hla' : lastV pre ≤ 2 ^ k.1 := by omega
        clear hla
        gi_wp2_with (refine ⟨trivial, ?_⟩; gi_at_call 10; refine (CallsIn.inRound l (callsIn_wide.2 (count_pow k.1 _ hk))).mono ?_; rintro e w' ⟨rfl, rfl⟩)
        exact ⟨KeepsOthers.setCell _ _ _, pre, k, rfl, hpre, hla'⟩
  case done =>
    rintro D ys W hD rfl ⟨⟨b0, b1, b2, b3⟩, hB⟩ hK
    have hT3 : TabAt W := tab_below hB hg hT
    have hs := sumV_of ys x hp hx
    have hc := pows_len ys x hp
    rw [hs] at b1
    have a0 := b0.cell
    have a1 := b1.cell
    have a2 := b2.cell
    have f0 := b0.frozen
    have hv : (ones 64 x : Int) ≤ 64 := by have := ones_le 64 x; omega
    have d1 : decide ((ones 64 x : Int) < 0) = false := by simp
    have d2 : decide (64 < (ones 64 x : Int)) = false := by simp; omega
    have e9 : ((ys.length : Int) != (Lib.popAux 64 x : Int)) = false := by rw [hc]; simp
    gi_wp2_with (refine ⟨trivial, ?_⟩; gi_at_call 11; refine (callsIn_wide.2 (ones11 _ _ (by omega) (by omega) hT3)).mono ?_; rintro e w' ⟨rfl, rfl⟩)
    refine wpIn_wide.2 ?_
    go_quiet ((go_at_call 10; exact Calls.quiet_of_same (count10 _ _ (by omega) (by omega))))
    clear e9 d1 d2 hs hc a1 a2
    obtain ⟨o, ho⟩ : ∃ o : Nat, ones 64 x = o := ⟨_, rfl⟩
    rw [ho] at hv ⊢
    by_cases h64 : o = 64
    · subst h64
      have hall := ones_all 64 x hx ho
      have hxx : x = 18446744073709551615 := hall
      clear hall
      subst hxx
      gi_wp2
      have hK1 : (w'.drewN (nq)).heap[D]? = some (.deferred (some [])) := hK
      have b0' : Boxed (w'.drewN (nq)) w.heap.size 4 (.bool false) := b0
      have hK' := (KeepsOthers.setCell (w'.drewN (nq)) ⟨w.heap.size, 0, none⟩ (.bool true)).same D _ hK1 rfl
      refine ⟨by simp, .inl ⟨_, _, rfl, run_takeDeferred hK', ?_⟩⟩
      have hc5 := cell_kept (b0'.set (.bool true)).cell (grownBy_putObj' _ D (.deferred none)) (fun r e => by cases e; exact ⟨_, hK', rfl⟩)
      refine ⟨.bool true, ?_, rfl, ((below_drewN hB (nq)).setCell (p := ⟨w.heap.size, 0, none⟩) (Nat.le_refl _) _).trans (belowK_b (w := w) (Nat.le_refl _) _ D _ _ (by simp at hD; omega) hK' rfl rfl)⟩
      simp [results, Tryd.f4, go_sem, hc5]
    · have h64' : ((o : Int) == 64) = false := by simp; omega
      have ho64 : o < 64 := by omega
      obtain ⟨s1, s2⟩ := ones_spec 64 x (by omega)
      rw [ho] at s1 s2
      have k1 := low_and x o hx ho64 s1
      have k2 := next_and x o hx s2
      have h3 : (2 : Nat) ^ o ≤ 2 ^ 63 := Nat.pow_le_pow_right (by decide) (by omega)
      have h4 : (2 : Nat) ^ 63 = 9223372036854775808 := by decide
      have h5 := Nat.two_pow_pos o
      have h6 := pow_cast o
      have p0 : (1 : Int) ≤ 2 ^ o := by omega
      have p1 : (2 : Int) ^ o ≤ 9223372036854775808 := by omega
      have hm : min o 64 = o := by omega
      have hw : IntKind.u64.wrap (2 ^ o) = 2 ^ o := by rw [w64]; omega
      clear h3 h4 h5 h6 s1 s2 h64 hv
      gi_wp2
      refine wpIn_wide.2 ?_
      go_region
      gi_wp2
      have hK1 : (w'.drewN (nq + 1)).heap[D]? = some (.deferred (some [])) := hK
      have b0' : Boxed (w'.drewN (nq + 1)) w.heap.size 4 (.bool false) := b0
      have hK' := (KeepsOthers.setCell (w'.drewN (nq + 1)) ⟨w.heap.size, 0, none⟩ (.bool true)).same D _ hK1 rfl
      refine ⟨by simp, .inl ⟨_, _, rfl, run_takeDeferred hK', ?_⟩⟩
      have hc5 := cell_kept (b0'.set (.bool true)).cell (grownBy_putObj' _ D (.deferred none)) (fun r e => by cases e; exact ⟨_, hK', rfl⟩)
      refine ⟨.bool true, ?_, rfl, ((below_drewN hB (nq + 1)).setCell (p := ⟨w.heap.size, 0, none⟩) (Nat.le_refl _) _).trans (belowK_b (w := w) (Nat.le_refl _) _ D _ _ (by simp at hD; omega) hK' rfl rfl)⟩
      simp [results, Tryd.f4, go_sem, hc5]
  case stop =>
    rintro D c pre W hD hpre ⟨q, k, e, hq, hle⟩ _
    obtain ⟨t, ht⟩ := hpre
    have := pows_fall xs x hp q k t (by rw [← ht, e]; simp) hq
    omega

theorem tab_size {w : World} (hT : TabAt w) : 0 < w.heap.size := by
  have h := hT 0 (by decide)
  refine Nat.pos_of_ne_zero fun h0 => ?_
  have e : w.heap[0]? = none := Array.getElem?_eq_none (by omega)
  simp [World.cell?, e] at h
theorem walkTold (x : Int) (w : World) (hT : TabAt w) (h0 : 0 ≤ x) (h1 : x ≤ 18446744073709551615) :
    Calls Tryd.prog 4 #[.int .u64 x] w fun e W' => e = .returned (.bool true) ∧ Below w.heap.size w W' := by
  obtain ⟨X, rfl⟩ : ∃ X : Nat, x = X := ⟨x.toNat, by omega⟩
  exact callsIn_wide.1 (told_in X (by omega) w hT (tab_size hT))
end Go.Proofs.YtiammdgcljjdmabDoor
