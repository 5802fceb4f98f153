/- HashReads. -/
import Derived.Test.YtambfmohhflimaaDoorS6
import Derived.Test.YtambfmohhflimaaDoorY7
namespace Go.Proofs.YtambfmohhflimaaDoor
open Go.RowKit
set_option linter.unusedVariables false
set_option linter.unusedSimpArgs false

set_option maxRecDepth 100000 in
set_option maxHeartbeats 2000000 in
theorem reads_go (s : ByteArray) (hs : s.size ≤ 140737488355328) (w : World) (hL : Laid w) {Bd : Nat} {a : Nat → Addr} (hS : Sent Bd w a) (R : List UInt8) (hR : R.length = 32) (code : Nat) (pl : Option Int) (c p : Int) (hsame : sameB code pl c p = true)
    (hc : Calls Tryd.prog 24 #[.string s] w fun e w' => ∃ v, e = .returned (.tuple #[.agg (hbs R), v]) ∧ EV w' a v code pl ∧ Nw w w')
    (hd : ∀ W, Calls Tryd.prog 25 #[.string s] W fun e w' => e = .returned (.tuple #[.agg (hbs R), .agg #[.int .i64 c, .int .i64 p]]) ∧ Nw W w') :
    Calls Tryd.prog 7 #[.string s] w fun e w' => e = .returned (.bool true) ∧ Nw w w' := by
  have HL : Hid (Laid w) := hL
  have HS : Hid (Sent Bd w a) := hS
  have HM : Hid (sameB code pl c p = true) := hsame
  have HD : Hid (∀ W, Calls Tryd.prog 25 #[.string s] W fun e w' => e = .returned (.tuple #[.agg (hbs R), .agg #[.int .i64 c, .int .i64 p]]) ∧ Nw W w') := hd
  have HC : Hid (Calls Tryd.prog 24 #[.string s] w fun e w' => ∃ v, e = .returned (.tuple #[.agg (hbs R), v]) ∧ EV w' a v code pl ∧ Nw w w') := hc
  have hRs : (hbs R).size = 32 := by rw [hbs_size, hR]
  have eqR := hbs_eq R hR
  clear hL hS hsame hc hd hR
  go_enter Tryd.func7, Tryd.ntmps7
  go_wp2_with fail
  refine HC.out.mono ?_
  rintro e1 w1 ⟨ev, rfl, hev, nw1⟩
  have HE1 : Hid (EV w1 a ev code pl) := hev
  clear hev
  go_wp2_with (refine wp_store_agg rfl (.tmp 3) (.tmp 10) 24 32 rfl Tryd.sizeOf24 w1.heap.size 0 rfl _ 24 (heap_new _ _) (hbs R) rfl hRs (hbs_one _) (by decide) (hbs R) (by simp) ?_; intro w2 j2 f2 z2; have k2 : Nw w1 w2 := ((Fr.refl _ _).alloc _).trans f2 (fun k hk q => by omega); clear z2 f2)
  refine (HD.out w2).mono ?_
  rintro e3 w3 ⟨rfl, k3⟩
  have j3 := (k3.block _ (heap_lt j2) (fun f => f)).trans j2
  have nw3 : Nw w w3 := (nw1.tr k2).tr k3
  have HE3 : Hid (EV w3 a ev code pl) := HE1.out.fr (k2.tr k3)
  have h13 : w1.heap.size < w3.heap.size := heap_lt j3
  clear k2 k3 j2
  obtain ⟨q, hq⟩ : ∃ q, q = w1.heap.size := ⟨_, rfl⟩
  rw [← hq] at j3 h13 ⊢
  have hqw : w.heap.size ≤ q := by rw [hq]; exact nw1.size
  clear hq nw1
  obtain ⟨w4, hw4⟩ : ∃ w4, w4 = (w3.alloc (.cells z32 24)).alloc (.cells #[.int .i64 0, .int .i64 0] 36) := ⟨_, rfl⟩
  have j4 : w4.heap[w3.heap.size]? = some (.cells z32 24) := by rw [hw4]; exact (Below.heap_alloc _ _ _ (by simp)).trans (heap_new w3 _)
  have f4 : w4.heap[w3.heap.size + 1]? = some (.cells #[.int .i64 0, .int .i64 0] 36) := by rw [hw4]; exact heap_next w3 _ _
  have n4 : Nw w3 w4 := by rw [hw4]; exact ((Fr.refl _ _).alloc _).alloc _
  have q4 := (n4.block _ (heap_lt j3) (fun f => f)).trans j3
  have j4' := j4
  rw [hw4, ← z32_h] at j4'
  have F4 : Hid (w4.heap[w3.heap.size + 1]? = some (.cells #[.int .i64 0, .int .i64 0] 36)) := f4
  clear f4
  go_wp2_with first
    | (refine wp_store_agg rfl (.tmp 5) (.tmp 15) 24 32 rfl Tryd.sizeOf24 w3.heap.size 0 rfl _ 24 j4' (hbs R) rfl hRs (hbs_one _) (by decide) (hbs R) (by simp) ?_; rw [z32_h, ← hw4]; intro w5 j5 f5 z5; have k5 : Nw w3 w5 := n4.trans f5 (fun k hk q => by omega); have q5 := (f5.block _ (heap_lt q4) (by omega)).trans q4; have g5 := (f5.block _ (heap_lt F4.out) (by omega)).trans F4.out; clear z5 f5)
    | (refine wp_store_agg rfl (.tmp 6) (.tmp 16) 36 2 rfl Tryd.sizeOf36 (w3.heap.size + 1) 0 rfl #[.int .i64 0, .int .i64 0] 36 g5 #[.int .i64 c, .int .i64 p] rfl rfl (by simp [Value.oneCell']) (by decide) #[.int .i64 c, .int .i64 p] rfl ?_; intro w6 j6 f6 z6; have k6 : Nw w3 w6 := k5.trans f6 (fun k hk q => by omega); have q6 := (f6.block _ (heap_lt q5) (by omega)).trans q5; have r6 := (f6.block _ (heap_lt j5) (by omega)).trans j5; clear z6 f6)
    | (refine wp_load_g rfl (.tmp 3) 24 32 rfl Tryd.isAgg24 Tryd.sizeOf24 q 0 rfl (hbs R) 24 (0, 0) q6 (hbs R) hRs (fun j _ => by rw [Nat.zero_add]) ?_)
    | (refine wp_load_g rfl (.tmp 5) 24 32 rfl Tryd.isAgg24 Tryd.sizeOf24 w3.heap.size 0 rfl (hbs R) 24 (0, 0) r6 (hbs R) hRs (fun j _ => by rw [Nat.zero_add]) ?_)
    | (refine wp_load_g rfl (.tmp 6) 36 2 rfl Tryd.isAgg36 Tryd.sizeOf36 (w3.heap.size + 1) 0 rfl #[.int .i64 c, .int .i64 p] 36 (0, 0) j6 #[.int .i64 c, .int .i64 p] rfl (fun j _ => by rw [Nat.zero_add]) ?_)
  have nw6 : Nw w w6 := nw3.tr k6
  have q7 := same_any (HS.out.fr nw6 (fun _ _ f => f)) (HE3.out.fr k6) c p
  rw [HM.out] at q7
  refine q7.mono ?_
  rintro e7 w7 ⟨rfl, k7⟩
  have nw7 : Nw w w7 := nw6.tr k7
  clear q7
  go_wp2_with fail
  refine (lives_any w7 (HL.out.nw nw7) (HS.out.fr nw7 (fun _ _ f => f))).mono ?_
  rintro e8 w8 ⟨rfl, k8⟩
  go_wp2
  go_ret
  exact ⟨rfl, nw7.tr k8⟩
theorem reads_any (s : ByteArray) (hs : s.size ≤ 140737488355328) (w : World) (hL : Laid w) {Bd : Nat} {a : Nat → Addr} (hS : Sent Bd w a) :
    Calls Tryd.prog 7 #[.string s] w fun e w' => e = .returned (.bool true) ∧ Nw w w' := by
  rcases good_or_bad s.data.toList with hg | ⟨p, hb⟩
  · exact reads_go s hs w hL hS (rdh s.data.toList) (rdh_len _) 0 none 0 0 (by decide) (read_any s hs w hS 0 true (fun _ => hg) (fun h => by cases h)) (fun W => refread_any s hs W 0 true (fun _ => hg) (fun h => by cases h))
  · refine reads_go s hs w hL hS (List.replicate 32 0) (by simp) 3 (some (p : Int)) 3 (p : Int) ?_ (read_any s hs w hS p false (fun h => by cases h) (fun _ => hb)) (fun W => refread_any s hs W p false (fun h => by cases h) (fun _ => hb))
    have hne : ¬ (p : Int) = -1 := by omega
    simp [sameB, hne]
end Go.Proofs.YtambfmohhflimaaDoor
