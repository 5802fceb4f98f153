/- tile: Hash. -/
import Derived.Test.YtjkhcplnedcmeaaGreatDoorJgx
import Derived.Test.YtjkhcplnedcmeaaGreatDoorSg
import Derived.Deep.RegionHeld
namespace Go.Proofs.YtjkhcplnedcmeaaGreatDoor
open Go.RowKit
set_option linter.unusedVariables false
set_option linter.unusedSimpArgs false
theorem dropAllT {A : Array Value} {n : Nat} (h : A.size = n) : A.toList.drop (0 + n) = [] := List.drop_eq_nil_of_le (by simp [h])
theorem yields_buildT {P : Program} {ops : Array Oper} {S : World → Prop} {o : Oper} {a : Act} (hgd : o.guard = none) (t : TypeId) (parts : Array (Nat × Operand)) (ho : o.op = .build t parts) (vs : Array (Nat × Value)) (hv : parts.map (fun p => (p.1, a.eval p.2)) = vs)
    (V : Array Value) (hb : ∀ W : World, (Instr.build t vs).run P W = .ok (.agg V) W) : YieldsIf P ops S o (.agg V) a := by
  refine .inl ⟨by simp [Region.wanted, hgd], fun w hw => ?_⟩
  unfold execOp
  simp only [ho, hv, hb, Sem.run_bind, Sem.run_pure, Result.andThen_ok]
theorem ready_storeT {P : Program} {md : Region.Mode} {ops : Array Oper} {Q : Exit → Act → World → Prop} {S : World → Prop} {fuel : Nat} {listed : Array Bool} {a : Act} {w : World} {i : Nat} {o : Oper} {rs : List Nat} (ho : ops[i]? = some o) (hgd : o.guard = none) (x v : Operand) (t : TypeId) (n : Nat) (hop : o.op = .store t x v)
    (hsz : ∀ W : World, (sizeOf t).run P W = .ok n W) (g : Nat) (hx : a.eval x = .pointer (some ⟨g, 0, none⟩)) (U : Array Value) (ty : TypeId) (hg : w.heap[g]? = some (.cells U ty (0, 0))) (Z : Array Value) (hv : a.eval v = .agg Z) (hz : Z.size = n) (h1 : ∀ u ∈ Z.toList, u.oneCell' = true) (hu : U.size = n)
    (h : ∀ w', w'.heap[g]? = some (.cells Z ty (0, 0)) → Fr (fun k => k = g) w w' → S w' ∧ (S w' → wpAnyH P md ops Q S fuel (listed.setIfInBounds i true) (a.put o.dst undef) w')) (hs : AllReadyH P md ops Q S fuel listed a w rs) : AllReadyH P md ops Q S fuel listed a w (i :: rs) :=
  AllReadyH.cons ho (fun K' hK => step_store_agg hgd x v t n hop hsz g 0 hx U ty hg Z hv hz h1 (by rw [hu]; omega) Z (by rw [dropAllT hu]; simp) (fun w' q1 q2 _ => hK.out _ _ (h w' q1 q2).1 (h w' q1 q2).2)) hs
section
variable {w : World} {ops : Array Oper} {rest : List Oper} {o : Oper} {a : Act} {Q : Exit → Act → World → Prop}
theorem wplt_cut (hgd : o.guard = none) (x y z : Operand) (ho : o.op = .slice 45 x (some y) (some z) none) (X Y Z V : Value) (hx : a.eval x = X) (hy : a.eval y = Y) (hz : a.eval z = Z) (hr : (Instr.sliceAt 45 X (some Y) (some Z) none).run Tryz.prog w = .ok V w)
    (h : wpList Tryz.prog ops Q rest (a.put o.dst V) w) : wpList Tryz.prog ops Q (o :: rest) a w := by
  refine wpList_plain hgd fun K hK => ?_
  unfold Oper.wp execOp
  simp only [ho, Option.map_some, Option.map_none, hx, hy, hz, hr, Sem.run_bind, Sem.run_pure, Result.andThen_ok]
  exact hK _ _ h
end
theorem and_all : ∀ C : Fin 257, 1 ≤ C.val → ((bits BinOp.and IntKind.i64 (C.val : Int) ((C.val : Int) - 1) == 0) = (List.range 9).any fun k => 2 ^ k == C.val) := by decide +kernel
theorem and_pow {C : Nat} (h1 : 1 ≤ C) (h2 : C ≤ 256) : (∃ k, k ≤ 8 ∧ C = 2 ^ k) ↔ bits BinOp.and IntKind.i64 (C : Int) ((C : Int) - 1) = 0 := by
  have h := and_all ⟨C, by omega⟩ h1
  simp only at h
  constructor
  · rintro ⟨k, hk, rfl⟩
    have h3 : ((List.range 9).any fun j => 2 ^ j == 2 ^ k) = true := List.any_eq_true.2 ⟨k, by simp; omega, by simp⟩
    rw [h3] at h
    simpa using h
  · intro h4
    rw [h4] at h
    obtain ⟨k, hk, e⟩ := List.any_eq_true.1 h.symm
    exact ⟨k, by simp at hk; omega, (by simpa using e : 2 ^ k = C).symm⟩
/-- What tile.Hash takes. -/
def okH (n : Nat) (x y : Int) : Prop := n ≤ 256 ∧ ∃ k A : Nat, k ≤ 8 ∧ y = ((2 ^ k : Nat) : Int) ∧ x = (A : Int) ∧ A + 2 ^ k ≤ n ∧ A % 2 ^ k = 0
set_option maxRecDepth 100000 in
set_option maxHeartbeats 1000000 in
theorem thash_yes (l : List (List UInt8)) (h32 : ∀ x ∈ l, x.length = 32) (hn : l.length ≤ 256) (k A : Nat) (hk : k ≤ 8) (hA : A + 2 ^ k ≤ l.length) (hd : A % 2 ^ k = 0) (g o c : Nat) (w : World) (hr : Rw w (some ⟨g, o, none⟩) c l) (hLd : Laid w) :
    Calls Tryz.prog 209 #[.slice (some ⟨g, o, none⟩) l.length c, .int .i64 (A : Int), .int .i64 ((2 ^ k : Nat) : Int)] w fun e w' => e = .returned (.tuple #[.agg (hbs (ovr k ((l.drop A).take (2 ^ k)))), .nilIface]) ∧ Nw w w' := by
  have h0 : 0 < 2 ^ k := Nat.pow_pos (by decide)
  have hlen : ((l.drop A).take (2 ^ k)).length = 2 ^ k := by simp; omega
  have h32' : ∀ x ∈ (l.drop A).take (2 ^ k), x.length = 32 := fun x hx => h32 x (List.mem_of_mem_drop (List.mem_of_mem_take hx))
  have hR : (hbs (ovr k ((l.drop A).take (2 ^ k)))).size = 32 := by rw [hbs_size, ovr_32 k _ h32']
  have QO : Hid (∀ W, Nw w W → Calls Tryz.prog 225 #[.slice (some ⟨g, o + A * 32, none⟩) (2 ^ k) (c - A)] W fun e w' => e = .returned (.agg (hbs (ovr k ((l.drop A).take (2 ^ k))))) ∧ Nw W w') := fun W nW => by
    have := over_any k _ g (o + A * 32) (c - A) W hk hlen h32' ((hr.nw h32 nW).cut A (2 ^ k) hA) (hLd.nw nW)
    rwa [hlen] at this
  have hc := hr.1
  have hba := (and_pow (C := 2 ^ k) (by omega) (by omega)).1 ⟨k, hk, rfl⟩
  have HS := show Hid _ from cut_hlh g o l.length c A (A + 2 ^ k) (by omega) (by omega)
  rw [Nat.add_sub_cancel_left] at HS
  obtain ⟨R, hRe⟩ : ∃ R, R = hbs (ovr k ((l.drop A).take (2 ^ k))) := ⟨_, rfl⟩
  rw [← hRe] at QO hR ⊢
  have h1 : ∀ u ∈ R.toList, u.oneCell' = true := by rw [hRe]; exact hbs_one _
  clear hRe hlen h32' h32 hr hLd hk
  generalize 2 ^ k = C at *
  generalize l.length = n at *
  have hdi : ((A : Int) % (C : Int) != 0) = false := by
    have : (A : Int) % (C : Int) = 0 := by omega
    simp [this]
  go_enter Tryz.func209, Tryz.ntmps209
  go_upto_region 1 with fail
  rw [z32_h]
  obtain ⟨w1, hw0⟩ : ∃ q, w.alloc (.cells z32 69) = q := ⟨_, rfl⟩
  have n0 : Nw w w1 := by rw [← hw0]; exact nwa w _
  have b0 : w1.heap[w.heap.size]? = some (.cells z32 69) := by rw [← hw0]; exact heap_new _ _
  rw [hw0]
  clear hw0
  obtain ⟨hb, hhb⟩ : ∃ q, q = w.heap.size := ⟨_, rfl⟩
  rw [← hhb] at b0 ⊢
  have HHB : Hid (hb = w.heap.size) := hhb
  clear hhb
  have NE : Hid (Nw w w1) := n0
  have BE : Hid (w1.heap[hb]? = some (.cells z32 69)) := b0
  clear n0 b0
  go_wp2_with (first
    | (refine wplt_cut rfl (.tmp 42) (.tmp 43) (.tmp 46) rfl (.slice (some ⟨g, o, none⟩) n c) (.int .i64 (A : Int)) (.int .i64 ((A : Int) + (C : Int))) (.slice (some ⟨g, o + A * 32, none⟩) C (c - A)) rfl rfl rfl (HS.out _ (by omega) _) ?_)
    | fail)
  refine (QO.out _ NE.out).mono ?_
  rintro e w2 ⟨rfl, n2⟩
  have b2 := (n2.block _ (heap_lt BE.out) (fun f => f)).trans BE.out
  have N2 : Hid (Nw w w2) := NE.out.tr n2
  clear n2
  go_wp2_with (refine wp_store_agg rfl (.tmp 6) (.tmp 48) 69 32 rfl Tryz.sizeOf69 hb 0 rfl z32 69 b2 R rfl hR h1 (by decide) R (by rw [z32_drop]; simp) ?_; intro w3 j3 f3 z3)
  exact bodyPost_ret (results_cell_slot Tryz.results209 Tryz.isAgg69 Tryz.sizeOf69 rfl _ rfl j3 hR) rfl ⟨rfl, N2.out.trans f3 (fun k hk q => by have := HHB.out; omega)⟩
set_option maxRecDepth 100000 in
set_option maxHeartbeats 1000000 in
theorem thash_no1 (ad : Option Addr) (n c : Nat) (x y : Int) (hn : n < 4611686018427387904) (hx : -9223372036854775808 ≤ x ∧ x ≤ 9223372036854775807) (hy : -9223372036854775808 ≤ y ∧ y ≤ 9223372036854775807) (h : 256 < n ∨ y < 1 ∨ x < 0 ∨ (n : Int) - y < x) (w : World) {B : Nat} {a : Nat → Addr} (hS : Sent B w a) :
    Calls Tryz.prog 209 #[.slice ad n c, .int .i64 x, .int .i64 y] w fun e w' => e = .returned (.tuple #[.agg (hbs zh), sen (a 1)]) ∧ Nw w w' := by
  have CW : Hid (w.cell? ⟨2, 0, none⟩ = some (sen (a 1))) := hS.c1
  clear hS
  have hcase : 256 < n ∨ (n ≤ 256 ∧ y < 1) ∨ (n ≤ 256 ∧ 1 ≤ y ∧ x < 0) ∨ (n ≤ 256 ∧ 1 ≤ y ∧ 0 ≤ x ∧ (n : Int) - y < x) := by omega
  clear h
  go_enter Tryz.func209, Tryz.ntmps209
  go_upto_region 1 with fail
  rw [z32_h]
  obtain ⟨w1, hw0⟩ : ∃ q, w.alloc (.cells z32 69) = q := ⟨_, rfl⟩
  have n0 : Nw w w1 := by rw [← hw0]; exact nwa w _
  have b0 : w1.heap[w.heap.size]? = some (.cells z32 69) := by rw [← hw0]; exact heap_new _ _
  rw [hw0]
  clear hw0
  obtain ⟨hb, hhb⟩ : ∃ q, q = w.heap.size := ⟨_, rfl⟩
  rw [← hhb] at b0 ⊢
  have HHB : Hid (hb = w.heap.size) := hhb
  clear hhb
  have NE : Hid (Nw w w1) := n0
  have BE : Hid (w1.heap[hb]? = some (.cells z32 69)) := b0
  clear n0 b0
  have KP : Hid (∀ V, Nw w1 V → V.cell? ⟨2, 0, none⟩ = some (sen (a 1))) := fun V nV => (NE.out.tr nV).cellOf CW.out
  rcases hcase with h | ⟨h1, h⟩ | ⟨h1, h2, h⟩ | ⟨h1, h2, h3, h⟩
  · have nb : Nw w1 w1.drew := (Fr.refl _ _).drew
    go_upto_region 2 with fail
    refine wp_region_held_drew (S := fun V => V.cell? ⟨2, 0, none⟩ = some (sen (a 1))) (by kernel_rfl) (KP.out _ nb) ?_
    intro hS0
    refine wpAnyH_take (i := 0) (v := .agg (hbs zh)) rfl (by kernel_rfl) (by kernel_rfl) (by kernel_rfl) (fun _ _ _ h => h) (yields_buildT rfl 69 #[] rfl #[] (by kernel_rfl) (hbs zh) build_zero) hS0 ?_
    try simp only [Act.put, List.setIfInBounds_toArray, List.set_cons_zero, List.set_cons_succ]
    refine wpAnyH_take (i := 1) (v := sen (a 1)) rfl (by kernel_rfl) (by kernel_rfl) (by kernel_rfl) (fun _ _ _ h => h) (Or.inl ⟨by kernel_rfl, by intro w hw; have hc := hw; go_simp⟩) hS0 ?_
    try simp only [Act.put, List.setIfInBounds_toArray, List.set_cons_zero, List.set_cons_succ]
    refine wpAnyH_ready (rs := [2]) (by kernel_rfl) (by simp) ?_
    refine ready_storeT rfl rfl (.tmp 6) (.tmp 27) 69 32 rfl Tryz.sizeOf69 hb (by kernel_rfl) z32 69 (hp_dr BE.out) (hbs zh) (by kernel_rfl) (by rw [hbs_size]; simp) (hbs_one _) z32_size ?_ AllReadyH.nil
    intro w5 j5 f5
    have n5 : Nw w w5 := (NE.out.tr nb).trans f5 (fun k hk e => by have := HHB.out; omega)
    have c5 : w5.cell? ⟨2, 0, none⟩ = some (sen (a 1)) := n5.cellOf CW.out
    refine ⟨c5, fun hS0 => ?_⟩
    try simp only [Act.put, List.setIfInBounds_toArray, List.set_cons_zero, List.set_cons_succ]
    refine wpAnyH_ready (rs := [3]) (by kernel_rfl) (by simp) ?_
    refine AllReadyH.cons rfl (fun K' hK => ?_) AllReadyH.nil
    go_simp
    refine hK.out _ _ c5 (fun hS0 => ?_)
    try simp only [Act.put, List.setIfInBounds_toArray, List.set_cons_zero, List.set_cons_succ]
    refine wpAnyH_done (by kernel_rfl) ?_ _
    try go_wp2_with fail
    exact bodyPost_ret (results_cell_slot Tryz.results209 Tryz.isAgg69 Tryz.sizeOf69 rfl _ rfl j5 (by rw [hbs_size]; simp)) rfl ⟨rfl, n5⟩
  · have nb : Nw w1 w1.drew := (Fr.refl _ _).drew
    go_upto_region 2 with fail
    refine wp_region_held_drew (S := fun V => V.cell? ⟨2, 0, none⟩ = some (sen (a 1))) (by kernel_rfl) (KP.out _ nb) ?_
    intro hS0
    refine wpAnyH_take (i := 0) (v := .agg (hbs zh)) rfl (by kernel_rfl) (by kernel_rfl) (by kernel_rfl) (fun _ _ _ h => h) (yields_buildT rfl 69 #[] rfl #[] (by kernel_rfl) (hbs zh) build_zero) hS0 ?_
    try simp only [Act.put, List.setIfInBounds_toArray, List.set_cons_zero, List.set_cons_succ]
    refine wpAnyH_take (i := 1) (v := sen (a 1)) rfl (by kernel_rfl) (by kernel_rfl) (by kernel_rfl) (fun _ _ _ h => h) (Or.inl ⟨by kernel_rfl, by intro w hw; have hc := hw; go_simp⟩) hS0 ?_
    try simp only [Act.put, List.setIfInBounds_toArray, List.set_cons_zero, List.set_cons_succ]
    refine wpAnyH_ready (rs := [2]) (by kernel_rfl) (by simp) ?_
    refine ready_storeT rfl rfl (.tmp 6) (.tmp 27) 69 32 rfl Tryz.sizeOf69 hb (by kernel_rfl) z32 69 (hp_dr BE.out) (hbs zh) (by kernel_rfl) (by rw [hbs_size]; simp) (hbs_one _) z32_size ?_ AllReadyH.nil
    intro w5 j5 f5
    have n5 : Nw w w5 := (NE.out.tr nb).trans f5 (fun k hk e => by have := HHB.out; omega)
    have c5 : w5.cell? ⟨2, 0, none⟩ = some (sen (a 1)) := n5.cellOf CW.out
    refine ⟨c5, fun hS0 => ?_⟩
    try simp only [Act.put, List.setIfInBounds_toArray, List.set_cons_zero, List.set_cons_succ]
    refine wpAnyH_ready (rs := [3]) (by kernel_rfl) (by simp) ?_
    refine AllReadyH.cons rfl (fun K' hK => ?_) AllReadyH.nil
    go_simp
    refine hK.out _ _ c5 (fun hS0 => ?_)
    try simp only [Act.put, List.setIfInBounds_toArray, List.set_cons_zero, List.set_cons_succ]
    refine wpAnyH_done (by kernel_rfl) ?_ _
    try go_wp2_with fail
    exact bodyPost_ret (results_cell_slot Tryz.results209 Tryz.isAgg69 Tryz.sizeOf69 rfl _ rfl j5 (by rw [hbs_size]; simp)) rfl ⟨rfl, n5⟩
  · have nb : Nw w1 w1.drew := (Fr.refl _ _).drew
    go_upto_region 2 with fail
    refine wp_region_held_drew (S := fun V => V.cell? ⟨2, 0, none⟩ = some (sen (a 1))) (by kernel_rfl) (KP.out _ nb) ?_
    intro hS0
    refine wpAnyH_take (i := 0) (v := .agg (hbs zh)) rfl (by kernel_rfl) (by kernel_rfl) (by kernel_rfl) (fun _ _ _ h => h) (yields_buildT rfl 69 #[] rfl #[] (by kernel_rfl) (hbs zh) build_zero) hS0 ?_
    try simp only [Act.put, List.setIfInBounds_toArray, List.set_cons_zero, List.set_cons_succ]
    refine wpAnyH_take (i := 1) (v := sen (a 1)) rfl (by kernel_rfl) (by kernel_rfl) (by kernel_rfl) (fun _ _ _ h => h) (Or.inl ⟨by kernel_rfl, by intro w hw; have hc := hw; go_simp⟩) hS0 ?_
    try simp only [Act.put, List.setIfInBounds_toArray, List.set_cons_zero, List.set_cons_succ]
    refine wpAnyH_ready (rs := [2]) (by kernel_rfl) (by simp) ?_
    refine ready_storeT rfl rfl (.tmp 6) (.tmp 27) 69 32 rfl Tryz.sizeOf69 hb (by kernel_rfl) z32 69 (hp_dr BE.out) (hbs zh) (by kernel_rfl) (by rw [hbs_size]; simp) (hbs_one _) z32_size ?_ AllReadyH.nil
    intro w5 j5 f5
    have n5 : Nw w w5 := (NE.out.tr nb).trans f5 (fun k hk e => by have := HHB.out; omega)
    have c5 : w5.cell? ⟨2, 0, none⟩ = some (sen (a 1)) := n5.cellOf CW.out
    refine ⟨c5, fun hS0 => ?_⟩
    try simp only [Act.put, List.setIfInBounds_toArray, List.set_cons_zero, List.set_cons_succ]
    refine wpAnyH_ready (rs := [3]) (by kernel_rfl) (by simp) ?_
    refine AllReadyH.cons rfl (fun K' hK => ?_) AllReadyH.nil
    go_simp
    refine hK.out _ _ c5 (fun hS0 => ?_)
    try simp only [Act.put, List.setIfInBounds_toArray, List.set_cons_zero, List.set_cons_succ]
    refine wpAnyH_done (by kernel_rfl) ?_ _
    try go_wp2_with fail
    exact bodyPost_ret (results_cell_slot Tryz.results209 Tryz.isAgg69 Tryz.sizeOf69 rfl _ rfl j5 (by rw [hbs_size]; simp)) rfl ⟨rfl, n5⟩
  · have nb : Nw w1 w1.drew := (Fr.refl _ _).drew
    go_upto_region 2 with fail
    refine wp_region_held_drew (S := fun V => V.cell? ⟨2, 0, none⟩ = some (sen (a 1))) (by kernel_rfl) (KP.out _ nb) ?_
    intro hS0
    refine wpAnyH_take (i := 0) (v := .agg (hbs zh)) rfl (by kernel_rfl) (by kernel_rfl) (by kernel_rfl) (fun _ _ _ h => h) (yields_buildT rfl 69 #[] rfl #[] (by kernel_rfl) (hbs zh) build_zero) hS0 ?_
    try simp only [Act.put, List.setIfInBounds_toArray, List.set_cons_zero, List.set_cons_succ]
    refine wpAnyH_take (i := 1) (v := sen (a 1)) rfl (by kernel_rfl) (by kernel_rfl) (by kernel_rfl) (fun _ _ _ h => h) (Or.inl ⟨by kernel_rfl, by intro w hw; have hc := hw; go_simp⟩) hS0 ?_
    try simp only [Act.put, List.setIfInBounds_toArray, List.set_cons_zero, List.set_cons_succ]
    refine wpAnyH_ready (rs := [2]) (by kernel_rfl) (by simp) ?_
    refine ready_storeT rfl rfl (.tmp 6) (.tmp 27) 69 32 rfl Tryz.sizeOf69 hb (by kernel_rfl) z32 69 (hp_dr BE.out) (hbs zh) (by kernel_rfl) (by rw [hbs_size]; simp) (hbs_one _) z32_size ?_ AllReadyH.nil
    intro w5 j5 f5
    have n5 : Nw w w5 := (NE.out.tr nb).trans f5 (fun k hk e => by have := HHB.out; omega)
    have c5 : w5.cell? ⟨2, 0, none⟩ = some (sen (a 1)) := n5.cellOf CW.out
    refine ⟨c5, fun hS0 => ?_⟩
    try simp only [Act.put, List.setIfInBounds_toArray, List.set_cons_zero, List.set_cons_succ]
    refine wpAnyH_ready (rs := [3]) (by kernel_rfl) (by simp) ?_
    refine AllReadyH.cons rfl (fun K' hK => ?_) AllReadyH.nil
    go_simp
    refine hK.out _ _ c5 (fun hS0 => ?_)
    try simp only [Act.put, List.setIfInBounds_toArray, List.set_cons_zero, List.set_cons_succ]
    refine wpAnyH_done (by kernel_rfl) ?_ _
    try go_wp2_with fail
    exact bodyPost_ret (results_cell_slot Tryz.results209 Tryz.isAgg69 Tryz.sizeOf69 rfl _ rfl j5 (by rw [hbs_size]; simp)) rfl ⟨rfl, n5⟩
set_option maxRecDepth 100000 in
set_option maxHeartbeats 1000000 in
theorem thash_no2 (ad : Option Addr) (n c A C : Nat) (hn : n ≤ 256) (h1 : 1 ≤ C) (h2 : A + C ≤ n) (h : bits BinOp.and IntKind.i64 (C : Int) ((C : Int) - 1) ≠ 0 ∨ (bits BinOp.and IntKind.i64 (C : Int) ((C : Int) - 1) = 0 ∧ A % C ≠ 0)) (w : World) {B : Nat} {a : Nat → Addr} (hS : Sent B w a) :
    Calls Tryz.prog 209 #[.slice ad n c, .int .i64 (A : Int), .int .i64 (C : Int)] w fun e w' => e = .returned (.tuple #[.agg (hbs zh), sen (a 1)]) ∧ Nw w w' := by
  have CW : Hid (w.cell? ⟨2, 0, none⟩ = some (sen (a 1))) := hS.c1
  clear hS
  go_enter Tryz.func209, Tryz.ntmps209
  go_upto_region 1 with fail
  rw [z32_h]
  obtain ⟨w1, hw0⟩ : ∃ q, w.alloc (.cells z32 69) = q := ⟨_, rfl⟩
  have n0 : Nw w w1 := by rw [← hw0]; exact nwa w _
  have b0 : w1.heap[w.heap.size]? = some (.cells z32 69) := by rw [← hw0]; exact heap_new _ _
  rw [hw0]
  clear hw0
  obtain ⟨hb, hhb⟩ : ∃ q, q = w.heap.size := ⟨_, rfl⟩
  rw [← hhb] at b0 ⊢
  have HHB : Hid (hb = w.heap.size) := hhb
  clear hhb
  have NE : Hid (Nw w w1) := n0
  have BE : Hid (w1.heap[hb]? = some (.cells z32 69)) := b0
  clear n0 b0
  have KP : Hid (∀ V, Nw w1 V → V.cell? ⟨2, 0, none⟩ = some (sen (a 1))) := fun V nV => (NE.out.tr nV).cellOf CW.out
  rcases h with h | ⟨h3, h⟩
  · have hb1 : (bits BinOp.and IntKind.i64 (C : Int) ((C : Int) - 1) != 0) = true := by simpa using h
    obtain ⟨v, hv⟩ : ∃ v, v = bits BinOp.and IntKind.i64 (C : Int) ((C : Int) - 1) := ⟨_, rfl⟩
    rw [← hv] at hb1
    have hv' := hv.symm
    clear hv h
    have nb : Nw w1 w1.drew := (Fr.refl _ _).drew
    go_upto_region 4 with fail
    refine wp_region_held_drew (S := fun V => V.cell? ⟨2, 0, none⟩ = some (sen (a 1))) (by kernel_rfl) (KP.out _ nb) ?_
    intro hS0
    refine wpAnyH_take (i := 0) (v := .agg (hbs zh)) rfl (by kernel_rfl) (by kernel_rfl) (by kernel_rfl) (fun _ _ _ h => h) (yields_buildT rfl 69 #[] rfl #[] (by kernel_rfl) (hbs zh) build_zero) hS0 ?_
    try simp only [Act.put, List.setIfInBounds_toArray, List.set_cons_zero, List.set_cons_succ]
    refine wpAnyH_take (i := 1) (v := sen (a 1)) rfl (by kernel_rfl) (by kernel_rfl) (by kernel_rfl) (fun _ _ _ h => h) (Or.inl ⟨by kernel_rfl, by intro w hw; have hc := hw; go_simp⟩) hS0 ?_
    try simp only [Act.put, List.setIfInBounds_toArray, List.set_cons_zero, List.set_cons_succ]
    refine wpAnyH_ready (rs := [2]) (by kernel_rfl) (by simp) ?_
    refine ready_storeT rfl rfl (.tmp 6) (.tmp 40) 69 32 rfl Tryz.sizeOf69 hb (by kernel_rfl) z32 69 (hp_dr BE.out) (hbs zh) (by kernel_rfl) (by rw [hbs_size]; simp) (hbs_one _) z32_size ?_ AllReadyH.nil
    intro w5 j5 f5
    have n5 : Nw w w5 := (NE.out.tr nb).trans f5 (fun k hk e => by have := HHB.out; omega)
    have c5 : w5.cell? ⟨2, 0, none⟩ = some (sen (a 1)) := n5.cellOf CW.out
    refine ⟨c5, fun hS0 => ?_⟩
    try simp only [Act.put, List.setIfInBounds_toArray, List.set_cons_zero, List.set_cons_succ]
    refine wpAnyH_ready (rs := [3]) (by kernel_rfl) (by simp) ?_
    refine AllReadyH.cons rfl (fun K' hK => ?_) AllReadyH.nil
    go_simp
    refine hK.out _ _ c5 (fun hS0 => ?_)
    try simp only [Act.put, List.setIfInBounds_toArray, List.set_cons_zero, List.set_cons_succ]
    refine wpAnyH_done (by kernel_rfl) ?_ _
    try go_wp2_with fail
    exact bodyPost_ret (results_cell_slot Tryz.results209 Tryz.isAgg69 Tryz.sizeOf69 rfl _ rfl j5 (by rw [hbs_size]; simp)) rfl ⟨rfl, n5⟩
  · have hdi : ((A : Int) % (C : Int) != 0) = true := by
      have : (A : Int) % (C : Int) ≠ 0 := by omega
      simpa using this
    clear h
    have nb : Nw w1 w1.drew := (Fr.refl _ _).drew
    go_upto_region 4 with fail
    refine wp_region_held_drew (S := fun V => V.cell? ⟨2, 0, none⟩ = some (sen (a 1))) (by kernel_rfl) (KP.out _ nb) ?_
    intro hS0
    refine wpAnyH_take (i := 0) (v := .agg (hbs zh)) rfl (by kernel_rfl) (by kernel_rfl) (by kernel_rfl) (fun _ _ _ h => h) (yields_buildT rfl 69 #[] rfl #[] (by kernel_rfl) (hbs zh) build_zero) hS0 ?_
    try simp only [Act.put, List.setIfInBounds_toArray, List.set_cons_zero, List.set_cons_succ]
    refine wpAnyH_take (i := 1) (v := sen (a 1)) rfl (by kernel_rfl) (by kernel_rfl) (by kernel_rfl) (fun _ _ _ h => h) (Or.inl ⟨by kernel_rfl, by intro w hw; have hc := hw; go_simp⟩) hS0 ?_
    try simp only [Act.put, List.setIfInBounds_toArray, List.set_cons_zero, List.set_cons_succ]
    refine wpAnyH_ready (rs := [2]) (by kernel_rfl) (by simp) ?_
    refine ready_storeT rfl rfl (.tmp 6) (.tmp 40) 69 32 rfl Tryz.sizeOf69 hb (by kernel_rfl) z32 69 (hp_dr BE.out) (hbs zh) (by kernel_rfl) (by rw [hbs_size]; simp) (hbs_one _) z32_size ?_ AllReadyH.nil
    intro w5 j5 f5
    have n5 : Nw w w5 := (NE.out.tr nb).trans f5 (fun k hk e => by have := HHB.out; omega)
    have c5 : w5.cell? ⟨2, 0, none⟩ = some (sen (a 1)) := n5.cellOf CW.out
    refine ⟨c5, fun hS0 => ?_⟩
    try simp only [Act.put, List.setIfInBounds_toArray, List.set_cons_zero, List.set_cons_succ]
    refine wpAnyH_ready (rs := [3]) (by kernel_rfl) (by simp) ?_
    refine AllReadyH.cons rfl (fun K' hK => ?_) AllReadyH.nil
    go_simp
    refine hK.out _ _ c5 (fun hS0 => ?_)
    try simp only [Act.put, List.setIfInBounds_toArray, List.set_cons_zero, List.set_cons_succ]
    refine wpAnyH_done (by kernel_rfl) ?_ _
    try go_wp2_with fail
    exact bodyPost_ret (results_cell_slot Tryz.results209 Tryz.isAgg69 Tryz.sizeOf69 rfl _ rfl j5 (by rw [hbs_size]; simp)) rfl ⟨rfl, n5⟩
theorem thash_no (ad : Option Addr) (n c : Nat) (x y : Int) (hn : n < 4611686018427387904) (hx : -9223372036854775808 ≤ x ∧ x ≤ 9223372036854775807) (hy : -9223372036854775808 ≤ y ∧ y ≤ 9223372036854775807) (h : ¬ okH n x y) (w : World) {B : Nat} {a : Nat → Addr} (hS : Sent B w a) :
    Calls Tryz.prog 209 #[.slice ad n c, .int .i64 x, .int .i64 y] w fun e w' => e = .returned (.tuple #[.agg (hbs zh), sen (a 1)]) ∧ Nw w w' := by
  by_cases hc : 256 < n ∨ y < 1 ∨ x < 0 ∨ (n : Int) - y < x
  · exact thash_no1 ad n c x y hn hx hy hc w hS
  · obtain ⟨A, rfl⟩ : ∃ A : Nat, x = A := ⟨x.toNat, by omega⟩
    obtain ⟨C, rfl⟩ : ∃ C : Nat, y = C := ⟨y.toNat, by omega⟩
    refine thash_no2 ad n c A C (by omega) (by omega) (by omega) ?_ w hS
    by_cases hb : bits BinOp.and IntKind.i64 (C : Int) ((C : Int) - 1) = 0
    · refine .inr ⟨hb, fun hd => h ?_⟩
      obtain ⟨k, hk, rfl⟩ := (and_pow (by omega) (by omega)).2 hb
      exact ⟨by omega, k, A, hk, rfl, rfl, by omega, hd⟩
    · exact .inl hb
end Go.Proofs.YtjkhcplnedcmeaaGreatDoor
