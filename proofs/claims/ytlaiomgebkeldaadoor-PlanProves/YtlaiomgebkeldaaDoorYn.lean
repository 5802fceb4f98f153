/- The document's Fold. -/
import Derived.Test.YtlaiomgebkeldaaDoorYi
import Derived.Test.YtlaiomgebkeldaaDoorRag
import Derived.Test.YtlaiomgebkeldaaDoorEg
namespace Go.Proofs.YtlaiomgebkeldaaDoor
open Go.RowKit
set_option linter.unusedVariables false
set_option linter.unusedSimpArgs false
theorem results_cellsP {P : Program} {w : World} {fn : Func} {i j : Nat} {t u : TypeId} {n m g k : Nat} {tmps : Array Value} {V U : Array Value} {ty tz : TypeId} {f f2 : Nat × Nat} (hr : fn.results = #[.cell i t, .cell j u]) (hagg : ∀ W : World, (isAgg t).run P W = .ok true W) (hsz : ∀ W : World, (sizeOf t).run P W = .ok n W)
    (hagg2 : ∀ W : World, (isAgg u).run P W = .ok true W) (hsz2 : ∀ W : World, (sizeOf u).run P W = .ok m W)
    (hx : tmps.getD i undef = .pointer (some ⟨g, 0, none⟩)) (hy : tmps.getD j undef = .pointer (some ⟨k, 0, none⟩)) (hg : w.heap[g]? = some (.cells V ty f)) (hV : V.size = n) (hk : w.heap[k]? = some (.cells U tz f2)) (hU : U.size = m) : (results fn tmps).run P w = .ok (.tuple #[.agg V, .agg U]) w := by
  have hl : (loadCells ⟨g, 0, none⟩ n).run P w = .ok V w := by
    have := run_loadCells_list (P := P) w ⟨g, 0, none⟩ V.toList (fun j v hv => by
      rw [addZ, cell_of hg]
      simpa using hv)
    simpa [hV] using this
  have hl2 : (loadCells ⟨k, 0, none⟩ m).run P w = .ok U w := by
    have := run_loadCells_list (P := P) w ⟨k, 0, none⟩ U.toList (fun j v hv => by
      rw [addZ, cell_of hk]
      simpa using hv)
    simpa [hU] using this
  have ha : ∀ (W : World) (q : Nat), (asAddr (.pointer (some ⟨q, 0, none⟩))).run P W = .ok ⟨q, 0, none⟩ W := fun W q => by simp [asAddr]
  have hx2 : tmps[i]?.getD undef = .pointer (some ⟨g, 0, none⟩) := by rw [← hx]; simp [Array.getD]; split <;> simp_all
  have hy2 : tmps[j]?.getD undef = .pointer (some ⟨k, 0, none⟩) := by rw [← hy]; simp [Array.getD]; split <;> simp_all
  simp [results, hr, hx2, hy2, ha, loadVar, hagg, hsz, hl, hagg2, hsz2, hl2]
theorem yields_load_h {P : Program} {ops : Array Oper} {S : World → Prop} {o : Oper} {a : Act} (hw0 : Region.wanted o (yielded ops a.tmps) = true) (x : Operand) (t : TypeId) (n : Nat) (ho : o.op = .load t x) (hagg : ∀ W : World, (isAgg t).run P W = .ok true W) (hsz : ∀ W : World, (sizeOf t).run P W = .ok n W) (g off : Nat) (hx : a.eval x = .pointer (some ⟨g, off, none⟩)) (V : Array Value) (hV : V.size = n)
    (hc : ∀ W, S W → ∀ j, j < n → W.cell? ⟨g, off + j, none⟩ = V[j]?) : YieldsIf P ops S o (.agg V) a := by
  refine .inl ⟨hw0, fun w hw => ?_⟩
  have hl : (loadCells ⟨g, off, none⟩ n).run P w = .ok V w := by
    have := run_loadCells_list (P := P) w ⟨g, off, none⟩ V.toList (fun j v hv => by
      have hj : j < n := by
        have := (List.getElem?_eq_some_iff.1 hv).1
        simpa [hV] using this
      rw [addO, hc w hw j hj]
      simpa using hv)
    simpa [hV] using this
  unfold execOp
  simp only [ho, hx, Instr.loadAt, sure, loadVar, Sem.run_bind, Sem.run_pure, hagg, hsz, hl, Result.andThen_ok, if_true]
theorem step_load_h {P : Program} {ops : Array Oper} {o : Oper} {a : Act} {w : World} {K : Act → World → Prop} {Q : Exit → Act → World → Prop} {E : Prop} (hgd : o.guard = none) (x : Operand) (t : TypeId) (n : Nat) (ho : o.op = .load t x)
    (hagg : ∀ W : World, (isAgg t).run P W = .ok true W) (hsz : ∀ W : World, (sizeOf t).run P W = .ok n W) (g off : Nat) (hx : a.eval x = .pointer (some ⟨g, off, none⟩)) (V : Array Value) (hV : V.size = n) (hc : ∀ j, j < n → w.cell? ⟨g, off + j, none⟩ = V[j]?)
    (h : K (a.put o.dst (.agg V)) w) : if Region.wanted o (yielded ops a.tmps) = true then Oper.wp P o a w K Q else E := by
  have hw : Region.wanted o (yielded ops a.tmps) = true := by simp [Region.wanted, hgd]
  rw [if_pos hw]
  have hl : (loadCells ⟨g, off, none⟩ n).run P w = .ok V w := by
    have := run_loadCells_list (P := P) w ⟨g, off, none⟩ V.toList (fun j v hv => by
      have hj : j < n := by
        have := (List.getElem?_eq_some_iff.1 hv).1
        simpa [hV] using this
      rw [addO, hc j hj]
      simpa using hv)
    simpa [hV] using this
  unfold Oper.wp execOp
  simp only [ho, hx, Instr.loadAt, sure, loadVar, Sem.run_bind, Sem.run_pure, hagg, hsz, hl, Result.andThen_ok, if_true]
  exact h
set_option maxRecDepth 100000 in
set_option maxHeartbeats 4000000 in
theorem dfold_some {w : World} {ad : Option Addr} {n c : Nat} {T : List (List UInt8)} (hs : Hss w (.slice ad T.length c) T) (hn : T.length = n + 1) (h32 : ∀ x ∈ T, x.length = 32) (hl : n ≤ 1048576) (hlt : ∀ g off, ad = some ⟨g, off, none⟩ → g < w.heap.size) :
    Calls Tryd.prog 10 #[.slice ad (n + 1) c] w fun e w' => e = .returned (.tuple #[.agg (hbs (fdp T)), .agg #[.int .i64 0, .int .i64 0]]) ∧ Nw w w' := by
  obtain ⟨ad', c', e0, hc0⟩ := hs
  injection e0 with e1 e2 e3
  subst e1
  obtain ⟨x0, hx0⟩ : ∃ t, T[n]? = some t := ⟨_, List.getElem?_eq_getElem (by omega)⟩
  obtain ⟨g, off, rfl, hcn⟩ := hc0 n x0 hx0
  have HC : Hid (∀ V, Nw w V → ∀ k h, T[k]? = some h → ∀ j, j < 32 → V.cell? ⟨g, off + k * 32 + j, none⟩ = (hbs h)[j]?) := fun V nV k h hk j hj => by
    obtain ⟨g', o', e4, h3⟩ := hc0 k h hk
    cases e4
    exact (nV.cell (p := ⟨g, _, none⟩) (hlt g off rfl) (fun f => f)).trans (h3 j hj)
  have HG : Hid (g < w.heap.size) := hlt g off rfl
  have HX0 : Hid (T[n]? = some x0) := hx0
  have HN : Hid (T.length = n + 1) := hn
  have H32 : Hid (∀ x ∈ T, x.length = 32) := h32
  have hx32 : (hbs x0).size = 32 := by rw [hbs_size, h32 x0 (List.mem_of_getElem? hx0)]
  have HF0 : Hid (fdp (T.drop n) = x0) := by
    show _ = _
    have : T.drop n = [x0] := by
      rw [List.drop_eq_getElem_cons (by omega), List.drop_of_length_le (by omega)]
      rw [List.getElem?_eq_getElem (by omega)] at hx0
      simpa using hx0
    rw [this, fdp]
  have HFS : Hid (∀ k x, k + 1 ≤ n → T[k]? = some x → fdp (T.drop k) = ndp x (fdp (T.drop (k + 1)))) := fun k x hk hx => by
    have hkl : k < T.length := by omega
    rw [List.drop_eq_getElem_cons hkl, fdp_cons _ _ (by intro e; have := congrArg List.length e; simp at this; omega)]
    rw [List.getElem?_eq_getElem hkl] at hx
    simp only [Option.some.injEq] at hx
    rw [hx]
  have HF32 : Hid (∀ k, k ≤ n → (fdp (T.drop k)).length = 32) := fun k hk => by
    by_cases e : k = n
    · subst e; rw [HF0.out]; exact h32 x0 (List.mem_of_getElem? hx0)
    · obtain ⟨x, hx⟩ : ∃ x, T[k]? = some x := ⟨_, List.getElem?_eq_getElem (by omega)⟩
      rw [HFS.out k x (by omega) hx]
      exact ndp_len _ _
  have hni : ((n : Int) + 1 == 0) = false := by simp; omega
  clear hx0 hn h32 hc0 hlt hcn
  go_enter Tryd.func10, Tryd.ntmps10
  go_upto_region 1 with fail
  rw [z32_h]
  refine gen_wq (fun V => Nw w V ∧ V.heap[w.heap.size]? = some (.cells z32 26) ∧ V.heap[w.heap.size + 1]? = some (.cells #[.int .i64 0, .int .i64 0] 32)) ⟨(by repeat first | with_reducible exact nwr w | with_reducible refine Fr.alloc ?_ _ | with_reducible refine Fr.drew ?_ | (with_reducible refine Fr.setCell ?_ _ _ (fun h => ?_); rotate_left; focus (simp only at h; omega))), by (repeat first | with_reducible exact heap_new _ _ | with_reducible exact heap_new _ _ | with_reducible exact heap_next _ _ _ | with_reducible exact heap_third _ _ _ _ | with_reducible refine hp_dr ?_ | (with_reducible refine hp_ne ?_ ?_; focus omega) | (with_reducible refine hp_al ?_ ?_; focus (first | omega | (simp <;> omega))) | with_reducible apply hp_set) <;> rfl, by (repeat first | with_reducible exact heap_next _ _ _ | with_reducible exact heap_new _ _ | with_reducible exact heap_next _ _ _ | with_reducible exact heap_third _ _ _ _ | with_reducible refine hp_dr ?_ | (with_reducible refine hp_ne ?_ ?_; focus omega) | (with_reducible refine hp_al ?_ ?_; focus (first | omega | (simp <;> omega))) | with_reducible apply hp_set) <;> rfl⟩ ?_
  rintro w0 ⟨n0, b0, b1⟩
  obtain ⟨p, hp⟩ : ∃ p, p = w.heap.size := ⟨_, rfl⟩
  have HPP : Hid (p = w.heap.size) := hp
  rw [← hp] at b0 b1 ⊢
  clear hp
  have N0 : Hid (Nw w w0) := n0
  have B0 : Hid (w0.heap[p]? = some (.cells z32 26)) := b0
  have B1 : Hid (w0.heap[p + 1]? = some (.cells #[.int .i64 0, .int .i64 0] 32)) := b1
  clear n0 b0 b1
  go_wp2_with first
    | refine wple_load_at rfl (.tmp 15) 26 32 rfl Tryd.isAgg26 Tryd.sizeOf26 g (off + n * 32) rfl (hbs x0) hx32 (HC.out _ N0.out n x0 HX0.out) ?_
    | (refine wp_store_agg rfl (.tmp 4) (.tmp 16) 26 32 rfl Tryd.sizeOf26 w0.heap.size 0 rfl z32 26 (by rw [← z32_h]; exact heap_new _ _) (hbs x0) rfl hx32 (hbs_one _) (by decide) (hbs x0) (by rw [dropA z32_size]; simp) ?_; intro w4 j4 f4 z4; clear z4; have N4 : Hid (Nw w0 w4) := (nwa w0 _).trans f4 (fun q hq e => by omega); have J4 : Hid (w4.heap[w0.heap.size]? = some (.cells (hbs x0) 26)) := j4; clear f4 j4)
  obtain ⟨q, hq⟩ : ∃ q, q = w0.heap.size := ⟨_, rfl⟩
  have HQQ : Hid (q = w0.heap.size) := hq
  rw [← hq] at J4 ⊢
  clear hq hni
  have HI0 : Hid ((n : Int) + 1 - 2 = (n : Int) - 1) := by show _ = _; omega
  rw [HI0.out]
  go_loopw [5] (fun i wr => ∃ k : Nat, k ≤ n ∧ i = .int .i64 ((k : Int) - 1) ∧ wr.heap[q]? = some (.cells (hbs (fdp (T.drop k))) 26) ∧ Nw w0 wr) (fun i _ => (intOf i + 1).toNat)
  case atStart => exact ⟨n, Nat.le_refl _, rfl, by rw [HF0.out]; exact J4.out, N4.out⟩
  case round =>
    obtain ⟨k, hk, rfl, hb, hnw⟩ := hrel
    have HB : Hid (wr.heap[q]? = some (.cells (hbs (fdp (T.drop k))) 26)) := hb
    have HW : Hid (Nw w0 wr) := hnw
    clear hb hnw
    rcases k with _ | k
    · have hz : ¬ (0 : Int) ≤ ((0 : Nat) : Int) - 1 := by omega
      have hz2 : decide ((0 : Int) ≤ ((0 : Nat) : Int) - 1) = false := by decide
      obtain ⟨R, hR⟩ : ∃ R, R = fdp (T.drop 0) := ⟨_, rfl⟩
      have HRE : Hid (R = fdp T) := by show _ = _; rw [hR, List.drop_zero]
      have R32 := HF32.out 0 hk
      rw [← hR] at R32 HB
      have hR32 : (hbs R).size = 32 := by rw [hbs_size, R32]
      have hpq : p ≠ q := by have := heap_lt B0.out; have := HQQ.out; omega
      have HBP : Hid (wr.heap[p]? = some (.cells z32 26)) := (HW.out.block p (heap_lt B0.out) (fun f => f)).trans B0.out
      have HB1 : Hid (wr.heap[p + 1]? = some (.cells #[.int .i64 0, .int .i64 0] 32)) := (HW.out.block _ (heap_lt B1.out) (fun f => f)).trans B1.out
      clear hR R32
      have lp1 := heap_lt HB1.out
      go_wp2_with first
        | refine wple_load_at rfl (.tmp 4) 26 32 rfl Tryd.isAgg26 Tryd.sizeOf26 q 0 rfl (hbs R) hR32 (hash_cells HB.out) ?_
        | (refine wp_store_agg rfl (.tmp 2) (.tmp 30) 26 32 rfl Tryd.sizeOf26 p 0 rfl z32 26 HBP.out (hbs R) rfl hR32 (hbs_one _) (by decide) (hbs R) (by rw [dropA z32_size]; simp) ?_; intro w7 j7 f7 z7; clear z7; have b7 := (f7.block _ (heap_lt HB1.out) (fun e => by omega)).trans HB1.out; have y0 := (cell_of b7 0).trans rfl; have y1 := (cell_of b7 1).trans rfl; have u0 := frozen_of b7 0; have u1 := frozen_of b7 1; have lb7 := heap_lt b7)
      have NF : Nw w w7 := (N0.out.tr HW.out).trans f7 (fun k hk e => by have := HPP.out; omega)
      have hpw : w.heap.size ≤ p := by have := HPP.out; omega
      refine bodyPost_ret (results_cellsP (V := hbs R) (U := #[.int .i64 0, .int .i64 0]) (ty := 26) (tz := 32) (f := (0, 0)) (f2 := (0, 0)) Tryd.results10 Tryd.isAgg26 Tryd.sizeOf26 Tryd.isAgg32 Tryd.sizeOf32 rfl rfl ?_ hR32 ?_ rfl) rfl ⟨by rw [HRE.out], ?_⟩
      · exact hp_ne (by omega) (hp_ne (by omega) j7)
      · exact hp_set (hp_set b7 rfl) rfl
      · exact (NF.setCell _ _ (fun h => by simp only at h; omega)).setCell _ _ (fun h => by simp only at h; omega)
    · obtain ⟨x, hx⟩ : ∃ x, T[k]? = some x := ⟨_, List.getElem?_eq_getElem (by have := HN.out; omega)⟩
      have HX : Hid (T[k]? = some x) := hx
      have e0 : ((k + 1 : Nat) : Int) - 1 = (k : Int) := by omega
      rw [e0]
      have X32 : Hid (x.length = 32) := H32.out x (List.mem_of_getElem? hx)
      have hx32 : (hbs x).size = 32 := by rw [hbs_size, X32.out]
      have R32 := HF32.out (k + 1) hk
      obtain ⟨R, hR⟩ : ∃ R, R = fdp (T.drop (k + 1)) := ⟨_, rfl⟩
      have HRS : Hid (fdp (T.drop k) = ndp x R) := by show _ = _; rw [hR]; exact HFS.out k x hk hx
      rw [← hR] at R32 HB
      have HR32 : Hid (R.length = 32) := R32
      have hR32 : (hbs R).size = 32 := by rw [hbs_size, R32]
      have hN32 : (hbs (ndp x R)).size = 32 := by rw [hbs_size, ndp_len]
      have HQN : Hid (∀ V, Calls Tryd.prog 33 #[.agg (hbs x), .agg (hbs R)] V fun e w' => e = .returned (.agg (hbs (ndp x R))) ∧ Nw V w') := fun V => Rf.refnode_any x R X32.out HR32.out V
      have hkn : (k : Int) < (n : Int) + 1 := by omega
      have hk0 : (0 : Int) ≤ (k : Int) := by omega
      have hS : ∀ V, Nw wr V → ∀ j, j < 32 → V.cell? ⟨g, off + k * 32 + j, none⟩ = (hbs x)[j]? := fun V nV => HC.out V ((N0.out.tr HW.out).tr nV) k x HX.out
      have HS : Hid (∀ V, Nw wr V → ∀ j, j < 32 → V.cell? ⟨g, off + k * 32 + j, none⟩ = (hbs x)[j]?) := hS
      clear hx hR R32 e0 hS
      go_wp2
      have nb : Nw wr wr.drew := (Fr.refl _ _).drew
      refine wp_region_held_drew (S := fun V => ∀ j, j < 32 → V.cell? ⟨g, off + k * 32 + j, none⟩ = (hbs x)[j]?) (by kernel_rfl) (HS.out _ nb) ?_
      intro hS0
      refine wpAnyH_take (i := 0) (v := .slice (some ⟨g, off, none⟩) (n + 1) c) rfl (by kernel_rfl) (by kernel_rfl) (by kernel_rfl) (fun _ _ _ h => h) (Or.inl ⟨by rfl, by intro w hw; go_simp⟩) hS0 ?_
      try simp only [Act.put, List.setIfInBounds_toArray, List.set_cons_zero, List.set_cons_succ]
      refine wpAnyH_take (i := 1) (v := .int .i64 (k : Int)) rfl (by kernel_rfl) (by kernel_rfl) (by kernel_rfl) (fun _ _ _ h => h) (Or.inl ⟨by rfl, by intro w hw; go_simp⟩) hS0 ?_
      try simp only [Act.put, List.setIfInBounds_toArray, List.set_cons_zero, List.set_cons_succ]
      refine wpAnyH_take (i := 2) (v := .pointer (some ⟨g, off + k * 32, none⟩)) rfl (by kernel_rfl) (by kernel_rfl) (by kernel_rfl) (fun _ _ _ h => h) (Or.inl ⟨by rfl, by intro w hw; go_simp⟩) hS0 ?_
      try simp only [Act.put, List.setIfInBounds_toArray, List.set_cons_zero, List.set_cons_succ]
      refine wpAnyH_take (i := 3) (v := .agg (hbs x)) rfl (by kernel_rfl) (by kernel_rfl) (by kernel_rfl) (fun _ _ _ h => h) (yields_load_h (by rfl) (.tmp 26) 26 32 rfl Tryd.isAgg26 Tryd.sizeOf26 g (off + k * 32) rfl (hbs x) hx32 (fun W hW => hW)) hS0 ?_
      try simp only [Act.put, List.setIfInBounds_toArray, List.set_cons_zero, List.set_cons_succ]
      refine wpAnyH_ready (rs := [4]) (by kernel_rfl) (by simp) ?_
      refine AllReadyH.cons rfl (fun K' hK => ?_) AllReadyH.nil
      refine step_load_h rfl (.tmp 4) 26 32 rfl Tryd.isAgg26 Tryd.sizeOf26 q 0 rfl (hbs R) hR32 (hash_cells (hp_dr HB.out)) ?_
      refine hK.out _ _ hS0 (fun hS0 => ?_)
      try simp only [Act.put, List.setIfInBounds_toArray, List.set_cons_zero, List.set_cons_succ]
      refine wpAnyH_ready (rs := [5]) (by kernel_rfl) (by simp) ?_
      refine AllReadyH.cons rfl (fun K' hK => ?_) AllReadyH.nil
      go_simp
      go_wp2_with (go_at_call 33; refine (HQN.out _).mono ?_; rintro e7 w7 ⟨rfl, n7⟩)
      have n7' : Nw wr w7 := nb.tr n7
      refine hK.out _ _ (HS.out _ n7') (fun hS0 => ?_)
      try simp only [Act.put, List.setIfInBounds_toArray, List.set_cons_zero, List.set_cons_succ]
      refine wpAnyH_ready (rs := [6]) (by kernel_rfl) (by simp) ?_
      have B7 : w7.heap[q]? = some (.cells (hbs R) 26) := (n7'.block _ (heap_lt HB.out) (fun f => f)).trans HB.out
      refine ready_storeP rfl rfl (.tmp 4) (.tmp 29) 26 32 rfl Tryd.sizeOf26 q rfl (hbs R) 26 B7 (hbs (ndp x R)) rfl hN32 (hbs_one _) hR32 ?_ AllReadyH.nil
      intro w8 j8 f8
      have hgq : g ≠ q := by have := HG.out; have := HQQ.out; have := N0.out.size; omega
      refine ⟨fun j hj => (f8.cell (p := ⟨g, _, none⟩) (by have := HG.out; have := N0.out.size; have := HW.out.size; have := n7'.size; show g < _; omega) hgq).trans (HS.out _ n7' j hj), fun hS0 => ?_⟩
      try simp only [Act.put, List.setIfInBounds_toArray, List.set_cons_zero, List.set_cons_succ]
      refine wpAnyH_done (by kernel_rfl) ?_ _
      have N8 : Hid (Nw w0 w8) := (HW.out.tr n7').trans f8 (fun k hk e => by have := HQQ.out; omega)
      have J8 : Hid (w8.heap[q]? = some (.cells (hbs (ndp x R)) 26)) := j8
      clear hS0 j8 f8 n7' n7 B7
      go_wp2_with fail
      exact ⟨⟨k, by omega, rfl, by rw [HRS.out]; exact J8.out, N8.out⟩, by simp [intOf]⟩
set_option maxRecDepth 100000 in
set_option maxHeartbeats 2000000 in
theorem dfold_none (ad : Option Addr) (c : Nat) (w : World) :
    Calls Tryd.prog 10 #[.slice ad 0 c] w fun e w' => e = .returned (.tuple #[.agg (hbs zh), .agg #[.int .i64 2, .int .i64 (-1)]]) ∧ Nw w w' := by
  obtain ⟨Z, hZe⟩ : ∃ Z, Z = zh := ⟨_, rfl⟩
  have HZ : Hid (Z = zh) := hZe
  have hZ : (hbs Z).size = 32 := by rw [hbs_size, hZe]; simp
  rw [← hZe]
  clear hZe
  go_enter Tryd.func10, Tryd.ntmps10
  go_upto_region 1 with fail
  rw [z32_h]
  refine gen_wq (fun V => Nw w V ∧ V.heap[w.heap.size]? = some (.cells z32 26) ∧ V.heap[w.heap.size + 1]? = some (.cells #[.int .i64 0, .int .i64 0] 32)) ⟨(by repeat first | with_reducible exact nwr w | with_reducible refine Fr.alloc ?_ _ | with_reducible refine Fr.drew ?_ | (with_reducible refine Fr.setCell ?_ _ _ (fun h => ?_); rotate_left; focus (simp only at h; omega))), by (repeat first | with_reducible exact heap_new _ _ | with_reducible exact heap_new _ _ | with_reducible exact heap_next _ _ _ | with_reducible exact heap_third _ _ _ _ | with_reducible refine hp_dr ?_ | (with_reducible refine hp_ne ?_ ?_; focus omega) | (with_reducible refine hp_al ?_ ?_; focus (first | omega | (simp <;> omega))) | with_reducible apply hp_set) <;> rfl, by (repeat first | with_reducible exact heap_next _ _ _ | with_reducible exact heap_new _ _ | with_reducible exact heap_next _ _ _ | with_reducible exact heap_third _ _ _ _ | with_reducible refine hp_dr ?_ | (with_reducible refine hp_ne ?_ ?_; focus omega) | (with_reducible refine hp_al ?_ ?_; focus (first | omega | (simp <;> omega))) | with_reducible apply hp_set) <;> rfl⟩ ?_
  rintro w0 ⟨n0, b0, b1⟩
  obtain ⟨p, hp⟩ : ∃ p, p = w.heap.size := ⟨_, rfl⟩
  have HPP : Hid (p = w.heap.size) := hp
  rw [← hp] at b0 b1 ⊢
  clear hp
  go_wp2_with first
    | (refine wpl_zero rfl rfl ?_; rw [← HZ.out])
    | (go_at_call 32; refine (plain_any 2 _ (by decide)).mono ?_; rintro e w2 ⟨rfl, n2⟩; have c0 := (n2.block _ (heap_lt b0) (fun f => f)).trans b0; have c1 := (n2.block _ (heap_lt b1) (fun f => f)).trans b1)
    | (refine wp_store_agg rfl (.tmp 2) (.tmp 9) 26 32 rfl Tryd.sizeOf26 p 0 rfl z32 26 c0 (hbs Z) rfl hZ (hbs_one _) (by decide) (hbs Z) (by rw [dropA z32_size]; simp) ?_; intro w7 j7 f7 z7; clear z7; have b7 := (f7.block _ (heap_lt c1) (fun e => by omega)).trans c1; have y0 := (cell_of b7 0).trans rfl; have y1 := (cell_of b7 1).trans rfl; have u0 := frozen_of b7 0; have u1 := frozen_of b7 1; have lb7 := heap_lt b7)
  have NF : Nw w w7 := (n0.tr n2).trans f7 (fun k hk e => by have := HPP.out; omega)
  have hpw : w.heap.size ≤ p := by have := HPP.out; omega
  refine bodyPost_ret (results_cellsP (V := hbs Z) (U := #[.int .i64 2, .int .i64 (-1)]) (ty := 26) (tz := 32) (f := (0, 0)) (f2 := (0, 0)) Tryd.results10 Tryd.isAgg26 Tryd.sizeOf26 Tryd.isAgg32 Tryd.sizeOf32 rfl rfl ?_ hZ ?_ rfl) rfl ⟨rfl, ?_⟩
  · exact hp_ne (by omega) (hp_ne (by omega) j7)
  · exact hp_set (hp_set b7 rfl) rfl
  · exact (NF.setCell _ _ (fun h => by simp only at h; omega)).setCell _ _ (fun h => by simp only at h; omega)
end Go.Proofs.YtlaiomgebkeldaaDoor
