/- plan: Fold of none. -/
import Derived.Test.YtlaiomgebkeldaaGreatDoorYh
import Derived.Deep.RegionHeld3
namespace Go.Proofs.YtlaiomgebkeldaaGreatDoor
open Go.RowKit
set_option linter.unusedVariables false
set_option linter.unusedSimpArgs false
theorem yields_buildP {P : Program} {ops : Array Oper} {S : World → Prop} {o : Oper} {a : Act} (hgd : o.guard = none) (t : TypeId) (parts : Array (Nat × Operand)) (ho : o.op = .build t parts) (vs : Array (Nat × Value)) (hv : parts.map (fun p => (p.1, a.eval p.2)) = vs)
    (V : Array Value) (hb : ∀ W : World, (Instr.build t vs).run P W = .ok (.agg V) W) : YieldsIf P ops S o (.agg V) a := by
  refine .inl ⟨by simp [Region.wanted, hgd], fun w hw => ?_⟩
  unfold execOp
  simp only [ho, hv, hb, Sem.run_bind, Sem.run_pure, Result.andThen_ok]
theorem ready_storeP {P : Program} {md : Region.Mode} {ops : Array Oper} {Q : Exit → Act → World → Prop} {S : World → Prop} {fuel : Nat} {listed : Array Bool} {a : Act} {w : World} {i : Nat} {o : Oper} {rs : List Nat} (ho : ops[i]? = some o) (hgd : o.guard = none) (x v : Operand) (t : TypeId) (n : Nat) (hop : o.op = .store t x v)
    (hsz : ∀ W : World, (sizeOf t).run P W = .ok n W) (g : Nat) (hx : a.eval x = .pointer (some ⟨g, 0, none⟩)) (U : Array Value) (ty : TypeId) (hg : w.heap[g]? = some (.cells U ty (0, 0))) (Z : Array Value) (hv : a.eval v = .agg Z) (hz : Z.size = n) (h1 : ∀ u ∈ Z.toList, u.oneCell' = true) (hu : U.size = n)
    (h : ∀ w', w'.heap[g]? = some (.cells Z ty (0, 0)) → Fr (fun k => k = g) w w' → S w' ∧ (S w' → wpAnyH P md ops Q S fuel (listed.setIfInBounds i true) (a.put o.dst undef) w')) (hs : AllReadyH P md ops Q S fuel listed a w rs) : AllReadyH P md ops Q S fuel listed a w (i :: rs) :=
  AllReadyH.cons ho (fun K' hK => step_store_agg hgd x v t n hop hsz g 0 hx U ty hg Z hv hz h1 (by rw [hu]; omega) Z (by rw [dropA hu]; simp) (fun w' q1 q2 _ => hK.out _ _ (h w' q1 q2).1 (h w' q1 q2).2)) hs
set_option maxRecDepth 100000 in
set_option maxHeartbeats 2000000 in
theorem pfold_none (ad : Option Addr) (c : Nat) (w : World) {B : Nat} {a : Nat → Addr} (hS : Sent B w a) :
    Calls Tryz.prog 91 #[.slice ad 0 c] w fun e w' => e = .returned (.tuple #[.agg (hbs zh), sen (a 1)]) ∧ Nw w w' := by
  have CW : Hid (w.cell? ⟨1, 0, none⟩ = some (sen (a 1))) := hS.c1
  clear hS
  go_enter Tryz.func91, Tryz.ntmps91
  go_upto_region 1 with fail
  rw [z32_h]
  obtain ⟨w1, hw0⟩ : ∃ q, w.alloc (.cells z32 99) = q := ⟨_, rfl⟩
  have n0 : Nw w w1 := by rw [← hw0]; exact nwa w _
  have b0 : w1.heap[w.heap.size]? = some (.cells z32 99) := by rw [← hw0]; exact heap_new _ _
  rw [hw0]
  clear hw0
  obtain ⟨hb, hhb⟩ : ∃ q, q = w.heap.size := ⟨_, rfl⟩
  rw [← hhb] at b0 ⊢
  have HHB : Hid (hb = w.heap.size) := hhb
  clear hhb
  have NE : Hid (Nw w w1) := n0
  have BE : Hid (w1.heap[hb]? = some (.cells z32 99)) := b0
  clear n0 b0
  have KP : Hid (∀ V, Nw w1 V → V.cell? ⟨1, 0, none⟩ = some (sen (a 1))) := fun V nV => (NE.out.tr nV).cellOf CW.out
  have nb : Nw w1 w1.drew := (Fr.refl _ _).drew
  go_upto_region 2 with fail
  refine wp_region_held_drew (S := fun V => V.cell? ⟨1, 0, none⟩ = some (sen (a 1))) (by kernel_rfl) (KP.out _ nb) ?_
  intro hS0
  refine wpAnyH_take (i := 0) (v := .agg (hbs zh)) rfl (by kernel_rfl) (by kernel_rfl) (by kernel_rfl) (fun _ _ _ h => h) (yields_buildP rfl 99 #[] rfl #[] (by kernel_rfl) (hbs zh) build_zero) hS0 ?_
  try simp only [Act.put, List.setIfInBounds_toArray, List.set_cons_zero, List.set_cons_succ]
  refine wpAnyH_take (i := 1) (v := sen (a 1)) rfl (by kernel_rfl) (by kernel_rfl) (by kernel_rfl) (fun _ _ _ h => h) (Or.inl ⟨by kernel_rfl, by intro w hw; have hc := hw; go_simp⟩) hS0 ?_
  try simp only [Act.put, List.setIfInBounds_toArray, List.set_cons_zero, List.set_cons_succ]
  refine wpAnyH_ready (rs := [2]) (by kernel_rfl) (by simp) ?_
  refine ready_storeP rfl rfl (.tmp 2) (.tmp 11) 99 32 rfl Tryz.sizeOf99 hb (by kernel_rfl) z32 99 (hp_dr BE.out) (hbs zh) (by kernel_rfl) (by rw [hbs_size]; simp) (hbs_one _) z32_size ?_ AllReadyH.nil
  intro w5 j5 f5
  have n5 : Nw w w5 := (NE.out.tr nb).trans f5 (fun k hk e => by have := HHB.out; omega)
  have c5 : w5.cell? ⟨1, 0, none⟩ = some (sen (a 1)) := n5.cellOf CW.out
  refine ⟨c5, fun hS0 => ?_⟩
  try simp only [Act.put, List.setIfInBounds_toArray, List.set_cons_zero, List.set_cons_succ]
  refine wpAnyH_ready (rs := [3]) (by kernel_rfl) (by simp) ?_
  refine AllReadyH.cons rfl (fun K' hK => ?_) AllReadyH.nil
  go_simp
  refine hK.out _ _ c5 (fun hS0 => ?_)
  try simp only [Act.put, List.setIfInBounds_toArray, List.set_cons_zero, List.set_cons_succ]
  refine wpAnyH_done (by kernel_rfl) ?_ _
  try go_wp2_with fail
  exact bodyPost_ret (results_cell_slot Tryz.results91 Tryz.isAgg99 Tryz.sizeOf99 rfl _ rfl j5 (by rw [hbs_size]; simp)) rfl ⟨rfl, n5⟩
end Go.Proofs.YtlaiomgebkeldaaGreatDoor
