/- BitsPowers walked: Below and Log are the document's, and what Powers gives, wholly, early left and gone over again, is what the document's list has. -/
import Derived.Test.YtiammdgcljjdmaaRefs
import Derived.Deep.RegionWith
import Derived.WalkKit
import Derived.WalkSpells
import Derived.WalkLawsBesides
namespace Go.Proofs.Ytiammdgcljjdmaa
open Go.RowKit Go.Shelf
set_option linter.unusedVariables false
theorem ne_nil_fn (b : Nat) (w : World) : (binOp .eql 31 (.func (.func 54) #[] #[.pointer (some ⟨b, 0, none⟩)]) .nilFunc).run Try.prog w = .ok (.bool false) w := by kernel_rfl
theorem gather_all (x : Nat) (hx : x < 18446744073709551616) (xs : List E) (hp : Pows xs x) (hl : xs.length ≤ 64) (Bn : Nat) (w : World) (hBn : Bn < w.heap.size) (hc : w.cell? ⟨Bn, 0, none⟩ = some (.int .u64 x)) :
    Calls Try.prog 15 #[.func (.func 54) #[] #[.pointer (some ⟨Bn, 0, none⟩)], .int .i64 65] w fun e W' => ∃ a cap, e = .returned (.slice a xs.length cap) ∧ R W' a xs ∧ Below w.heap.size w W' := by
  have h := gather_R x hx xs hp 65 (by omega) (by omega) Bn w hBn hc
  rw [List.take_of_length_le (by omega)] at h
  exact h

theorem gather_m (x : Nat) (hx : x < 18446744073709551616) (xs : List E) (hp : Pows xs x) (m : Nat) (hm : 1 ≤ m) (hm2 : m ≤ 65) (hl : (xs.take m).length = m) (Bn : Nat) (w : World) (hBn : Bn < w.heap.size) (hc : w.cell? ⟨Bn, 0, none⟩ = some (.int .u64 x)) :
    Calls Try.prog 15 #[.func (.func 54) #[] #[.pointer (some ⟨Bn, 0, none⟩)], .int .i64 m] w fun e W' => ∃ a cap, e = .returned (.slice a m cap) ∧ R W' a (xs.take m) ∧ Below w.heap.size w W' := by
  have h := gather_R x hx xs hp m hm hm2 Bn w hBn hc
  rw [hl] at h
  exact h
theorem same_m (ks : List E) (m : Nat) (hm : ks.length = m) (hk : m ≤ 64) (a b : Option Addr) (ca cb : Nat) (w : World) (ha : R w a ks) (hb : R w b ks) :
    Calls Try.prog 14 #[.slice a m ca, .slice b m cb] w fun e w' => e = .returned (.bool true) ∧ ∃ n, w' = w.drewN n := by
  subst hm
  exact same_R ks hk a b ca cb w ha hb

set_option maxRecDepth 100000 in
set_option maxHeartbeats 4000000 in
theorem powers_mid (x : Nat) (hx : x < 18446744073709551616) (xs : List E) (hp : Pows xs x) (hlen : xs.length ≤ 64) (m : Nat) (hm1 : 1 ≤ m) (hm2 : m ≤ xs.length) (w : World) :
    Calls Try.prog 3 #[.int .u64 x, .int .i64 m] w fun e W' => e = .returned (.bool true) ∧ Below w.heap.size w W' := by
  have hfe := ne_nil_fn
  go_enter Try.func3, Try.ntmps3
  go_wp2_with (first
    | (go_at_call 7; refine (below_log x hx _).1.mono ?_; rintro e w' ⟨rfl, rfl⟩)
    | (go_at_call 8; refine (below_log x hx _).2.1.mono ?_; rintro e w' ⟨rfl, rfl⟩)
    | (go_at_call 9; refine (below_log x hx _).2.2.1.mono ?_; rintro e w' ⟨rfl, rfl⟩)
    | (go_at_call 10; refine (below_log x hx _).2.2.2.mono ?_; rintro e w' ⟨rfl, rfl⟩)
    | (go_at_call 11; refine (same_t _ _ _).mono ?_; rintro e w' ⟨rfl, rfl⟩)
    | (go_at_call 12; refine (rpowers_R x hx xs hp _).mono ?_; rintro e W1 ⟨a, cap, rfl, hcap, hr1, hb1⟩)
    | (go_at_call 13; refine (powers_any _ _).mono ?_; rintro e w' ⟨rfl, rfl⟩))
  have bx := Boxed.new W1 22 (.int .u64 x)
  have hb2 : Below W1.heap.size W1 (W1.alloc (.cells #[.int .u64 x] 22)) := (Below.refl _ _).alloc (Nat.le_refl _) _
  refine (gather_all x hx xs hp hlen W1.heap.size _ (by simp) bx.cell).mono ?_
  rintro e W2 ⟨a2, cap2, rfl, hr2, hb3⟩
  have hr1' : R W2 a xs := (hr1.below hb2).below hb3
  go_wp2_with (go_at_call 14; refine (same_R xs hlen _ _ _ _ _ hr2 hr1').mono ?_; rintro e w' ⟨rfl, n1, rfl⟩)
  have bx2 : W2.cell? ⟨W1.heap.size, 0, none⟩ = some (.int .u64 x) := (hb3.cell (p := ⟨W1.heap.size, 0, none⟩) (by simp)).trans bx.cell
  have hsz : W1.heap.size < W2.heap.size := by have := hb3.size; simp at this; omega
  have hbw : Below w'.heap.size w' W2 := hb1.trans ((hb2.mono hb1.size).trans (hb3.mono (by have := hb1.size; simp; omega)))
  clear hb2 bx hr2 hr1 hb1 hb3
  have hmi : min (m : Int) (xs.length : Int) = (m : Int) := by omega
  have hlt : (xs.take m).length = m := by simp; omega
  go_region_with (first
    | (go_at_call_of 15 m; refine (gather_m x hx xs hp m hm1 (by omega) hlt W1.heap.size _ ?_ ?_).mono ?_; (simp; omega); (simpa using bx2); rintro e W3 ⟨a3, cap3, rfl, hr3, hb3⟩; have hq3 := R.below (hr1'.drewN _) hb3; have bx3 := (hb3.cell (p := ⟨W1.heap.size, 0, none⟩) hsz).trans bx2; have hsz3 := Nat.lt_of_lt_of_le hsz hb3.size)
    | (go_at_call_of 14 a3; refine (same_m (xs.take m) m hlt (by omega) _ _ _ _ _ ?_ ?_).mono ?_; exact hr3; exact hq3.take m; rintro e w4 ⟨rfl, n4, rfl⟩)
    | (go_at_call_of 15 (65 : Int); refine (gather_all x hx xs hp hlen W1.heap.size _ ?_ ?_).mono ?_; exact hsz3; exact bx3; rintro e W5 ⟨a5, cap5, rfl, hr5, hb5⟩; have hq5 := R.below (hq3.drewN _) hb5)
    | (go_at_call_of 14 a5; refine (same_R xs hlen _ _ _ _ _ ?_ ?_).mono ?_; exact hr5; exact hq5; rintro e w6 ⟨rfl, n6, rfl⟩))
  all_goals
    go_wp2
    go_ret
    exact ⟨rfl, below_drewN ((below_drewN ((below_drewN hbw _).trans (hb3.mono hbw.size)) _).trans (hb5.mono (Nat.le_trans hbw.size hb3.size))) _⟩
set_option maxRecDepth 100000 in
set_option maxHeartbeats 4000000 in
theorem powers_low (x : Nat) (hx : x < 18446744073709551616) (xs : List E) (hp : Pows xs x) (hlen : xs.length ≤ 64) (m : Int) (hm1 : m < 1) (w : World) :
    Calls Try.prog 3 #[.int .u64 x, .int .i64 m] w fun e W' => e = .returned (.bool true) ∧ Below w.heap.size w W' := by
  have hfe := ne_nil_fn
  go_enter Try.func3, Try.ntmps3
  go_wp2_with (first
    | (go_at_call 7; refine (below_log x hx _).1.mono ?_; rintro e w' ⟨rfl, rfl⟩)
    | (go_at_call 8; refine (below_log x hx _).2.1.mono ?_; rintro e w' ⟨rfl, rfl⟩)
    | (go_at_call 9; refine (below_log x hx _).2.2.1.mono ?_; rintro e w' ⟨rfl, rfl⟩)
    | (go_at_call 10; refine (below_log x hx _).2.2.2.mono ?_; rintro e w' ⟨rfl, rfl⟩)
    | (go_at_call 11; refine (same_t _ _ _).mono ?_; rintro e w' ⟨rfl, rfl⟩)
    | (go_at_call 12; refine (rpowers_R x hx xs hp _).mono ?_; rintro e W1 ⟨a, cap, rfl, hcap, hr1, hb1⟩)
    | (go_at_call 13; refine (powers_any _ _).mono ?_; rintro e w' ⟨rfl, rfl⟩))
  have bx := Boxed.new W1 22 (.int .u64 x)
  have hb2 : Below W1.heap.size W1 (W1.alloc (.cells #[.int .u64 x] 22)) := (Below.refl _ _).alloc (Nat.le_refl _) _
  refine (gather_all x hx xs hp hlen W1.heap.size _ (by simp) bx.cell).mono ?_
  rintro e W2 ⟨a2, cap2, rfl, hr2, hb3⟩
  have hr1' : R W2 a xs := (hr1.below hb2).below hb3
  go_wp2_with (go_at_call 14; refine (same_R xs hlen _ _ _ _ _ hr2 hr1').mono ?_; rintro e w' ⟨rfl, n1, rfl⟩)
  have bx2 : W2.cell? ⟨W1.heap.size, 0, none⟩ = some (.int .u64 x) := (hb3.cell (p := ⟨W1.heap.size, 0, none⟩) (by simp)).trans bx.cell
  have hsz : W1.heap.size < W2.heap.size := by have := hb3.size; simp at this; omega
  have hbw : Below w'.heap.size w' W2 := hb1.trans ((hb2.mono hb1.size).trans (hb3.mono (by have := hb1.size; simp; omega)))
  clear hb2 bx hr2 hr1 hb1 hb3
  have hmi : min (65 : Int) (xs.length : Int) = (xs.length : Int) := by omega
  have tok1 : True := trivial
  go_region_with (first
    | (go_at_call_of 15 (65 : Int); have _t := tok1; refine (gather_all x hx xs hp hlen W1.heap.size _ ?_ ?_).mono ?_; exact hsz; exact bx2; rintro e W3 ⟨a3, cap3, rfl, hr3, hb3⟩; have hq3 := R.below (hr1'.drewN _) hb3; have bx3 := (hb3.cell (p := ⟨W1.heap.size, 0, none⟩) hsz).trans bx2; have hsz3 := Nat.lt_of_lt_of_le hsz hb3.size; clear tok1)
    | (go_at_call_of 14 a3; refine (same_R xs hlen _ _ _ _ _ ?_ ?_).mono ?_; exact hr3; exact hq3; rintro e w4 ⟨rfl, n4, rfl⟩)
    | (go_at_call_of 15 (65 : Int); refine (gather_all x hx xs hp hlen W1.heap.size _ ?_ ?_).mono ?_; exact hsz3; exact bx3; rintro e W5 ⟨a5, cap5, rfl, hr5, hb5⟩; have hq5 := R.below (hq3.drewN _) hb5)
    | (go_at_call_of 14 a5; refine (same_R xs hlen _ _ _ _ _ ?_ ?_).mono ?_; exact hr5; exact hq5; rintro e w6 ⟨rfl, n6, rfl⟩))
  all_goals
    go_wp2
    go_ret
    exact ⟨rfl, below_drewN ((below_drewN ((below_drewN hbw _).trans (hb3.mono hbw.size)) _).trans (hb5.mono (Nat.le_trans hbw.size hb3.size))) _⟩
set_option maxRecDepth 100000 in
set_option maxHeartbeats 4000000 in
theorem powers_high (x : Nat) (hx : x < 18446744073709551616) (xs : List E) (hp : Pows xs x) (hlen : xs.length ≤ 64) (m : Int) (hm1 : 1 ≤ m) (hm2 : (xs.length : Int) < m) (w : World) :
    Calls Try.prog 3 #[.int .u64 x, .int .i64 m] w fun e W' => e = .returned (.bool true) ∧ Below w.heap.size w W' := by
  have hfe := ne_nil_fn
  go_enter Try.func3, Try.ntmps3
  go_wp2_with (first
    | (go_at_call 7; refine (below_log x hx _).1.mono ?_; rintro e w' ⟨rfl, rfl⟩)
    | (go_at_call 8; refine (below_log x hx _).2.1.mono ?_; rintro e w' ⟨rfl, rfl⟩)
    | (go_at_call 9; refine (below_log x hx _).2.2.1.mono ?_; rintro e w' ⟨rfl, rfl⟩)
    | (go_at_call 10; refine (below_log x hx _).2.2.2.mono ?_; rintro e w' ⟨rfl, rfl⟩)
    | (go_at_call 11; refine (same_t _ _ _).mono ?_; rintro e w' ⟨rfl, rfl⟩)
    | (go_at_call 12; refine (rpowers_R x hx xs hp _).mono ?_; rintro e W1 ⟨a, cap, rfl, hcap, hr1, hb1⟩)
    | (go_at_call 13; refine (powers_any _ _).mono ?_; rintro e w' ⟨rfl, rfl⟩))
  have bx := Boxed.new W1 22 (.int .u64 x)
  have hb2 : Below W1.heap.size W1 (W1.alloc (.cells #[.int .u64 x] 22)) := (Below.refl _ _).alloc (Nat.le_refl _) _
  refine (gather_all x hx xs hp hlen W1.heap.size _ (by simp) bx.cell).mono ?_
  rintro e W2 ⟨a2, cap2, rfl, hr2, hb3⟩
  have hr1' : R W2 a xs := (hr1.below hb2).below hb3
  go_wp2_with (go_at_call 14; refine (same_R xs hlen _ _ _ _ _ hr2 hr1').mono ?_; rintro e w' ⟨rfl, n1, rfl⟩)
  have bx2 : W2.cell? ⟨W1.heap.size, 0, none⟩ = some (.int .u64 x) := (hb3.cell (p := ⟨W1.heap.size, 0, none⟩) (by simp)).trans bx.cell
  have hsz : W1.heap.size < W2.heap.size := by have := hb3.size; simp at this; omega
  have hbw : Below w'.heap.size w' W2 := hb1.trans ((hb2.mono hb1.size).trans (hb3.mono (by have := hb1.size; simp; omega)))
  clear hb2 bx hr2 hr1 hb1 hb3
  have hmi : min (65 : Int) (xs.length : Int) = (xs.length : Int) := by omega
  have tok1 : True := trivial
  go_region_with (first
    | (go_at_call_of 15 (65 : Int); have _t := tok1; refine (gather_all x hx xs hp hlen W1.heap.size _ ?_ ?_).mono ?_; exact hsz; exact bx2; rintro e W3 ⟨a3, cap3, rfl, hr3, hb3⟩; have hq3 := R.below (hr1'.drewN _) hb3; have bx3 := (hb3.cell (p := ⟨W1.heap.size, 0, none⟩) hsz).trans bx2; have hsz3 := Nat.lt_of_lt_of_le hsz hb3.size; clear tok1)
    | (go_at_call_of 14 a3; refine (same_R xs hlen _ _ _ _ _ ?_ ?_).mono ?_; exact hr3; exact hq3; rintro e w4 ⟨rfl, n4, rfl⟩)
    | (go_at_call_of 15 (65 : Int); refine (gather_all x hx xs hp hlen W1.heap.size _ ?_ ?_).mono ?_; exact hsz3; exact bx3; rintro e W5 ⟨a5, cap5, rfl, hr5, hb5⟩; have hq5 := R.below (hq3.drewN _) hb5)
    | (go_at_call_of 14 a5; refine (same_R xs hlen _ _ _ _ _ ?_ ?_).mono ?_; exact hr5; exact hq5; rintro e w6 ⟨rfl, n6, rfl⟩))
  all_goals
    go_wp2
    go_ret
    exact ⟨rfl, below_drewN ((below_drewN ((below_drewN hbw _).trans (hb3.mono hbw.size)) _).trans (hb5.mono (Nat.le_trans hbw.size hb3.size))) _⟩

theorem walkPowers (x most : Int) (w : World) (h0 : 0 ≤ x) (h1 : x ≤ 18446744073709551615) :
    Calls Try.prog 3 #[.int .u64 x, .int .i64 most] w fun e W' => e = .returned (.bool true) ∧ Below w.heap.size w W' := by
  obtain ⟨X, rfl⟩ : ∃ X : Nat, x = X := ⟨x.toNat, by omega⟩
  have hX : X < 18446744073709551616 := by omega
  obtain ⟨xs, hp⟩ := pows_ex X hX
  have hlen : xs.length ≤ 64 := by
    have := pows_len xs X hp
    have := popAux_le 64 X
    omega
  by_cases hl : most < 1
  · exact powers_low X hX xs hp hlen most hl w
  · by_cases hh : (xs.length : Int) < most
    · exact powers_high X hX xs hp hlen most (by omega) hh w
    · obtain ⟨m, rfl⟩ : ∃ m : Nat, most = m := ⟨most.toNat, by omega⟩
      exact powers_mid X hX xs hp hlen m (by omega) (by omega) w
end Go.Proofs.Ytiammdgcljjdmaa
