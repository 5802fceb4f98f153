/- HashChains. -/
import Derived.Test.YtambfmohhflimaaDoorY4
namespace Go.Proofs.YtambfmohhflimaaDoor
open Go.RowKit
set_option linter.unusedVariables false
set_option linter.unusedSimpArgs false

/-- A whole block loaded as one aggregate, guarded or not. -/
theorem wp_load_g {P : Program} {w : World} {ops : Array Oper} {rest : List Oper} {o : Oper} {a : Act} {Q : Exit → Act → World → Prop} (hwant : Region.wanted o (yielded ops a.tmps) = true) (x : Operand) (t : TypeId) (n : Nat) (ho : o.op = .load t x)
    (hagg : ∀ W : World, (isAgg t).run P W = .ok true W) (hsz : ∀ W : World, (sizeOf t).run P W = .ok n W) (g off : Nat) (hx : a.eval x = .pointer (some ⟨g, off, none⟩)) (cur : Array Value) (ty : TypeId) (f : Nat × Nat) (hg : w.heap[g]? = some (.cells cur ty f))
    (V : Array Value) (hV : V.size = n) (hc : ∀ j, j < n → cur[off + j]? = V[j]?)
    (h : wpList P ops Q rest (a.put o.dst (.agg V)) w) : wpList P ops Q (o :: rest) a w := by
  refine wpList_step fun K hK => ?_
  rw [if_pos hwant]
  have hl : (loadCells ⟨g, off, none⟩ n).run P w = .ok V w := by
    have := run_loadCells_list (P := P) w ⟨g, off, none⟩ V.toList (fun j v hv => by
      have hj : j < n := by
        have := (List.getElem?_eq_some_iff.1 hv).1
        simpa [hV] using this
      rw [addO, cell_of hg, hc j hj]
      simpa using hv)
    simpa [hV] using this
  unfold Oper.wp execOp
  simp only [ho, hx, Instr.loadAt, sure, loadVar, Sem.run_bind, Sem.run_pure, hagg, hsz, hl, Result.andThen_ok, if_true]
  exact hK _ _ h
set_option maxRecDepth 100000 in
set_option maxHeartbeats 2000000 in
theorem chains_go (A : List UInt8) (hA : A.length = 32) (x : Int) (w : World) (hL : Laid w) {Bd : Nat} {a : Nat → Addr} (hS : Sent Bd w a) (R : List UInt8) (hR : R.length = 32) (ev : Value) (code : Nat) (c p : Int)
    (hev : ∀ W, EV W a ev code none) (hsame : sameB code none c p = true)
    (hc : ∀ W, Nw w W → Calls Tryd.prog 17 #[.agg (hbs A), .int .i64 x] W fun e w' => e = .returned (.tuple #[.agg (hbs R), ev]) ∧ Nw W w')
    (hd : ∀ W, Calls Tryd.prog 18 #[.agg (hbs A), .int .i64 x] W fun e w' => e = .returned (.tuple #[.agg (hbs R), .agg #[.int .i64 c, .int .i64 p]]) ∧ Nw W w') :
    Calls Tryd.prog 5 #[.agg (hbs A), .int .i64 x] w fun e w' => e = .returned (.bool true) ∧ Nw w w' := by
  have HL : Hid (Laid w) := hL
  have HS : Hid (Sent Bd w a) := hS
  have HE : Hid (∀ W, EV W a ev code none) := hev
  have HM : Hid (sameB code none c p = true) := hsame
  have HC : Hid (∀ W, Nw w W → Calls Tryd.prog 17 #[.agg (hbs A), .int .i64 x] W fun e w' => e = .returned (.tuple #[.agg (hbs R), ev]) ∧ Nw W w') := hc
  have HD : Hid (∀ W, Calls Tryd.prog 18 #[.agg (hbs A), .int .i64 x] W fun e w' => e = .returned (.tuple #[.agg (hbs R), .agg #[.int .i64 c, .int .i64 p]]) ∧ Nw W w') := hd
  have has : (hbs A).size = 32 := by rw [hbs_size, hA]
  have hRs : (hbs R).size = 32 := by rw [hbs_size, hR]
  have eqR := hbs_eq R hR
  clear hL hS hev hsame hc hd hA hR
  go_enter Tryd.func5, Tryd.ntmps5
  obtain ⟨w0, hw0⟩ : ∃ w0, w0 = w.alloc (.cells (hbs A) 24) := ⟨_, rfl⟩
  have nw0 : Nw w w0 := by rw [hw0]; exact (Fr.refl _ _).alloc _
  have ja : w0.heap[w.heap.size]? = some (.cells (hbs A) 24) := by rw [hw0]; exact heap_new w _
  have ja' := ja
  rw [hw0] at ja'
  go_wp2_with (refine wp_load_agg rfl (.tmp 2) 24 32 rfl Tryd.isAgg24 Tryd.sizeOf24 w.heap.size 0 rfl (hbs A) 24 (0, 0) ja' (hbs A) has (fun j _ => by rw [Nat.zero_add]) ?_)
  rw [← hw0]
  clear ja' hw0
  refine (HC.out w0 nw0).mono ?_
  rintro e1 w1 ⟨rfl, k1⟩
  have ja1 := (k1.block _ (heap_lt ja) (fun f => f)).trans ja
  have nw1 : Nw w w1 := nw0.tr k1
  clear ja nw0 k1
  go_wp2_with first
    | (refine wp_store_agg rfl (.tmp 5) (.tmp 13) 24 32 rfl Tryd.sizeOf24 w1.heap.size 0 rfl _ 24 (heap_new _ _) (hbs R) rfl hRs (hbs_one _) (by decide) (hbs R) (by simp) ?_; intro w2 j2 f2 z2; have nw2 : Nw w w2 := (nw1.alloc _).trans f2 (fun k hk q => by have := nw1.size; omega); have ja2 := (f2.block _ (by have := heap_lt ja1; simp; omega) (by have := heap_lt ja1; omega)).trans ((Below.heap_alloc _ _ _ (heap_lt ja1)).trans ja1); clear z2 f2)
    | (refine wp_load_agg rfl (.tmp 2) 24 32 rfl Tryd.isAgg24 Tryd.sizeOf24 w.heap.size 0 rfl (hbs A) 24 (0, 0) ja2 (hbs A) has (fun j _ => by rw [Nat.zero_add]) ?_)
  refine (HD.out w2).mono ?_
  rintro e3 w3 ⟨rfl, k3⟩
  have j3 := (k3.block _ (heap_lt j2) (fun f => f)).trans j2
  have nw3 : Nw w w3 := nw2.tr k3
  have h13 : w1.heap.size < w3.heap.size := heap_lt j3
  clear ja1 ja2 nw2 k3 j2
  obtain ⟨q, hq⟩ : ∃ q, q = w1.heap.size := ⟨_, rfl⟩
  rw [← hq] at j3 h13 ⊢
  have hqw : w.heap.size ≤ q := by rw [hq]; exact nw1.size
  clear hq nw1
  obtain ⟨w4, hw4⟩ : ∃ w4, w4 = (w3.alloc (.cells z32 24)).alloc (.cells #[.int .i64 0, .int .i64 0] 36) := ⟨_, rfl⟩
  have j4 : w4.heap[w3.heap.size]? = some (.cells z32 24) := by rw [hw4]; exact (Below.heap_alloc _ _ _ (by simp)).trans (heap_new w3 _)
  have f4 : w4.heap[w3.heap.size + 1]? = some (.cells #[.int .i64 0, .int .i64 0] 36) := by rw [hw4]; exact heap_next w3 _ _
  have n4 : Nw w3 w4 := by rw [hw4]; exact ((Fr.refl _ _).alloc _).alloc _
  have q4 := (n4.block _ (heap_lt j3) (fun f => f)).trans j3
  have j4' := j4
  rw [hw4, ← z32_h] at j4'
  have F4 : Hid (w4.heap[w3.heap.size + 1]? = some (.cells #[.int .i64 0, .int .i64 0] 36)) := f4
  clear f4
  go_wp2_with first
    | (refine wp_store_agg rfl (.tmp 7) (.tmp 19) 24 32 rfl Tryd.sizeOf24 w3.heap.size 0 rfl _ 24 j4' (hbs R) rfl hRs (hbs_one _) (by decide) (hbs R) (by simp) ?_; rw [z32_h, ← hw4]; intro w5 j5 f5 z5; have nw5 : Nw w w5 := (nw3.tr n4).trans f5 (fun k hk q => by have := nw3.size; omega); have q5 := (f5.block _ (heap_lt q4) (by omega)).trans q4; have g5 := (f5.block _ (heap_lt F4.out) (by omega)).trans F4.out; clear z5 f5)
    | (refine wp_store_agg rfl (.tmp 8) (.tmp 20) 36 2 rfl Tryd.sizeOf36 (w3.heap.size + 1) 0 rfl #[.int .i64 0, .int .i64 0] 36 g5 #[.int .i64 c, .int .i64 p] rfl rfl (by simp [Value.oneCell']) (by decide) #[.int .i64 c, .int .i64 p] rfl ?_; intro w6 j6 f6 z6; have nw6 : Nw w w6 := nw5.trans f6 (fun k hk q => by have := nw3.size; omega); have q6 := (f6.block _ (heap_lt q5) (by omega)).trans q5; have r6 := (f6.block _ (heap_lt j5) (by omega)).trans j5; clear z6 f6)
    | (refine wp_load_g rfl (.tmp 5) 24 32 rfl Tryd.isAgg24 Tryd.sizeOf24 q 0 rfl (hbs R) 24 (0, 0) q6 (hbs R) hRs (fun j _ => by rw [Nat.zero_add]) ?_)
    | (refine wp_load_g rfl (.tmp 7) 24 32 rfl Tryd.isAgg24 Tryd.sizeOf24 w3.heap.size 0 rfl (hbs R) 24 (0, 0) r6 (hbs R) hRs (fun j _ => by rw [Nat.zero_add]) ?_)
    | (refine wp_load_g rfl (.tmp 8) 36 2 rfl Tryd.isAgg36 Tryd.sizeOf36 (w3.heap.size + 1) 0 rfl #[.int .i64 c, .int .i64 p] 36 (0, 0) j6 #[.int .i64 c, .int .i64 p] rfl (fun j _ => by rw [Nat.zero_add]) ?_)
  have q7 := same_any (HS.out.fr nw6 (fun _ _ f => f)) (HE.out w6) c p
  rw [HM.out] at q7
  refine q7.mono ?_
  rintro e7 w7 ⟨rfl, k7⟩
  have nw7 : Nw w w7 := nw6.tr k7
  clear q7
  go_wp2_with fail
  refine (lives_any w7 (HL.out.nw nw7) (HS.out.fr nw7 (fun _ _ f => f))).mono ?_
  rintro e8 w8 ⟨rfl, k8⟩
  go_wp2
  go_ret
  exact ⟨rfl, nw7.tr k8⟩
theorem chains_any (A : List UInt8) (hA : A.length = 32) (x : Int) (hx : -9223372036854775808 ≤ x ∧ x ≤ 9223372036854775807) (w : World) (hL : Laid w) {Bd : Nat} {a : Nat → Addr} (hS : Sent Bd w a) :
    Calls Tryd.prog 5 #[.agg (hbs A), .int .i64 x] w fun e w' => e = .returned (.bool true) ∧ Nw w w' := by
  by_cases h : x < 0 ∨ 255 < x
  · exact chains_go A hA x w hL hS (List.replicate 32 0) (by simp) (sen (a 1)) 2 2 (-1) (fun W => .inr (.inl ⟨1, by decide, rfl, rfl, rfl⟩)) (by decide)
      (fun W hW => chain_out (hbs A) (by rw [hbs_size, hA]) x h W (hS.fr hW (fun _ _ f => f))) (fun W => refchain_out (hbs A) (by rw [hbs_size, hA]) x h W)
  · obtain ⟨n, rfl⟩ : ∃ n : Nat, x = n := ⟨x.toNat, by omega⟩
    exact chains_go A hA n w hL hS (chn n A) (chn_len n A hA) .nilIface 0 0 0 (fun W => .inl ⟨rfl, rfl, rfl⟩) (by decide)
      (fun W hW => chain_in A hA n (by omega) W (hL.nw hW)) (fun W => refchain_in A hA n (by omega) W)
end Go.Proofs.YtambfmohhflimaaDoor
