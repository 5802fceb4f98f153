/- compact: Append's refusals, Hashes. -/
import Derived.Test.YthbimomhbeoieaaDoorX5
import Derived.Test.YthbimomhbeoieaaDoorX6
namespace Go.Proofs.YthbimomhbeoieaaDoor
open Go.RowKit
set_option linter.unusedVariables false
set_option linter.unusedSimpArgs false
def hss (T : List Tre) : List (List UInt8) := T.map (·.H)
theorem hss_take (T : List Tre) (k : Nat) (t : Tre) (h : T[k]? = some t) : hsc (hss (T.take (k + 1))) = hsc (hss (T.take k)) ++ (hbs t.H).toList := by
  rw [List.take_add_one, h]
  simp only [Option.toList_some, hss, List.map_append, List.map_cons, List.map_nil]
  rw [hsc_app, hsc_one]
/-- A thing loaded whole out of a row, where the order is the text's. -/
theorem wpl_load_at {P : Program} {w : World} {ops : Array Oper} {rest : List Oper} {o : Oper} {a : Act} {Q : Exit → Act → World → Prop} (hgd : o.guard = none) (x : Operand) (t : TypeId) (n : Nat) (ho : o.op = .load t x)
    (hagg : ∀ W : World, (isAgg t).run P W = .ok true W) (hsz : ∀ W : World, (sizeOf t).run P W = .ok n W) (g off : Nat) (hx : a.eval x = .pointer (some ⟨g, off, none⟩)) (V : Array Value) (hV : V.size = n) (hc : ∀ j, j < n → w.cell? ⟨g, off + j, none⟩ = V[j]?)
    (h : wpList P ops Q rest (a.put o.dst (.agg V)) w) : wpList P ops Q (o :: rest) a w := by
  refine wpList_plain hgd fun K hK => ?_
  have hl : (loadCells ⟨g, off, none⟩ n).run P w = .ok V w := by
    have := run_loadCells_list (P := P) w ⟨g, off, none⟩ V.toList (fun j v hv => by
      have hj : j < n := by
        have := (List.getElem?_eq_some_iff.1 hv).1
        simpa [hV] using this
      rw [addO, hc j hj]
      simpa using hv)
    simpa [hV] using this
  unfold Oper.wp execOp
  simp only [ho, hx, Instr.loadAt, sure, loadVar, Sem.run_bind, Sem.run_pure, hagg, hsz, hl, Result.andThen_ok, if_true]
  exact hK _ _ h
set_option maxRecDepth 100000 in
set_option maxHeartbeats 2000000 in
theorem rhashes_any {w : World} {b base : Nat} {v : Value} {B E : Nat} {T : List Tre} (h : Rg w b base v B E T) (hl : T.length ≤ 1000000) :
    Calls Tryd.prog 14 #[.pointer (some ⟨b, 0, none⟩)] w fun e w' => ∃ v', e = .returned v' ∧ w'.ownsRow w.heap.size 24 32 v' T.length (hsc (hss T)) ∧ Nw w w' := by
  obtain ⟨i0, hi, hz0, hz1, hz2⟩ := info_parts infoHs
  obtain ⟨va0, vc0, rfl⟩ := ownsRow_form h.own
  have HR : Hid (Rg w b base (.slice va0 T.length vc0) B E T) := h
  have q := rthere_any b true _ _ _ w h.blk
  have c3 := h.cs.2.2.2
  have lb := heap_lt h.blk
  obtain ⟨n, hn⟩ : ∃ n, n = T.length := ⟨_, rfl⟩
  have HN : Hid (n = T.length) := hn
  rw [← hn] at hl c3 ⊢
  obtain ⟨wm, hmk, hown, hgr⟩ := run_make_own (P := Tryd.prog) w w.heap.size 41 24 i0 (.agg z32) 32 Tryd.underlying41 hi hz0 hz1 .i64 .i64 n (by rw [hz2]; omega) (by unfold maxLen; omega) (Nat.le_refl _)
  have NM : Hid (Nw w wm) := (Fr.refl _ _).grown hgr (fun k e _ => by cases e)
  have OM : Hid (wm.ownsRow w.heap.size 24 32 (.slice (some ⟨w.heap.size, 0, none⟩) 0 n) 0 []) := hown
  have c3m := NM.out.cellOf c3
  have lbm := Nat.lt_of_lt_of_le lb NM.out.size
  clear hn hown hgr h
  go_enter Tryd.func14, Tryd.ntmps14
  go_wp2_with fail
  refine q.mono ?_
  rintro e w1 ⟨rfl, rfl⟩
  go_wp2_with fail
  go_loopw [3, 20] (fun r i wr => ∃ (k : Nat) (va : Option Addr) (vc : Nat), k ≤ n ∧ r = .slice va k vc ∧ i = .int .i64 k ∧ wr.ownsRow w1.heap.size 24 32 (.slice va k vc) k (hsc (hss (T.take k))) ∧ Nw w1 wr) (fun _ i _ => n - (intOf i).toNat)
  case atStart => exact ⟨0, _, _, by omega, rfl, rfl, by simpa [hsc, hss] using OM.out, NM.out⟩
  case round =>
    obtain ⟨k, va, vc, hk, rfl, rfl, ho, hnw⟩ := hrel
    have HO : Hid (wr.ownsRow w1.heap.size 24 32 (.slice va k vc) k (hsc (hss (T.take k)))) := ho
    have HW : Hid (Nw w1 wr) := hnw
    clear ho hnw
    by_cases hlt : k < n
    · obtain ⟨t, ht⟩ : ∃ t, T[k]? = some t := ⟨_, List.getElem?_eq_getElem (by rw [← HN.out]; exact hlt)⟩
      have hto : t.ok := HR.out.ok t (List.mem_of_getElem? ht)
      obtain ⟨g, hva0, hgb, htc⟩ := Rg.at (g := 0) (HR.out.nw HW.out) ht
      subst hva0
      have HC : Hid (∀ j, j < 34 → wr.cell? ⟨g, k * 34 + j, none⟩ = t.c[j]?) := htc
      have HS : Hid (hsc (hss (T.take (k + 1))) = hsc (hss (T.take k)) ++ (hbs t.H).toList) := hss_take T k t ht
      have ht34 : t.c.size = 34 := Tre.size hto.h32
      have HT32 : Hid (t.H.length = 32) := hto.h32
      have hRl : (hbs t.H).size = 32 := by rw [hbs_size, HT32.out]
      have hki : (k : Int) < (n : Int) := by omega
      clear htc hto ht hgb c3 c3m lb lbm
      go_wp2_with first
        | refine wpl_load_at rfl (.tmp 22) 68 34 rfl Tryd.isAgg68 Tryd.sizeOf68 g (k * 34) rfl t.c ht34 HC.out ?_
        | (refine wp_store_agg rfl (.tmp 5) (.tmp 23) 68 34 rfl Tryd.sizeOf68 wr.heap.size 0 rfl zt.c 68 (by rw [← zt_h]; exact heap_new _ _) t.c rfl ht34 (Tre.one _) (Nat.le_of_eq zt34.symm) t.c (by rw [dropAll zt34]; simp) ?_; intro w4 j4 f4 _; have N4 : Hid (Nw wr w4) := (nwa wr _).trans f4 (fun q hq e => by omega); have J4 : Hid (w4.heap[wr.heap.size]? = some (.cells t.c 68)) := j4; have own2 : Hid ((w4.alloc (.cells (hbs t.H) 24)).ownsRow w1.heap.size 24 32 (.slice va k vc) k (hsc (hss (T.take k)))) := (ownsRow_keep HO.out (fun g hg => N4.out.block g (HO.out.lt g hg).2 (fun f => f))).alloc _; clear f4 j4)
        | refine wpl_load_at rfl (.tmp 25) 24 32 rfl Tryd.isAgg24 Tryd.sizeOf24 wr.heap.size 2 rfl (hbs t.H) hRl (Tre.cells J4.out).2.2 ?_
        | refine wp_build1 rfl (.tmp 26) rfl (hbs t.H) rfl hRl ?_
        | (at_builtin; refine wpList_two _ rfl (.tmp 24) (.tmp 27) 41 rfl w1.heap.size 24 i0 (.agg z32) 32 32 Tryd.underlying41 hi hz0 hz1 hz2 z32_size (by decide) (.slice va k vc) k (hsc (hss (T.take k))) rfl own2.out ⟨w4.heap.size, 0, none⟩ 1 1 (hbs t.H).toList rfl (by simp [hRl]) (hash_new _ _ _) (hbs_one _) (by unfold maxLen; omega) (by omega) (by have := HW.out.size; have := N4.out.size; simp; omega) ?_; intro v' w5 o5 t5; have N5 : Hid (Nw w1 w5) := ((HW.out.tr N4.out).alloc _).trans t5.fr (fun j hj q => by have := (HO.out.lt j q).1; omega); rw [← HS.out] at o5; obtain ⟨xa, xc, rfl⟩ := ownsRow_form o5; have O5 : Hid (w5.ownsRow w1.heap.size 24 32 (.slice xa (k + 1) xc) (k + 1) (hsc (hss (T.take (k + 1))))) := o5; clear o5 t5)
      exact ⟨⟨k + 1, xa, xc, by omega, rfl, by go_num, O5.out, N5.out⟩, by simp [intOf]; omega⟩
    · obtain rfl : k = n := by omega
      have hkn : ¬ (k : Int) < (k : Int) := by omega
      go_wp2
      have O6 := HO.out
      rw [HN.out, List.take_length, ← HN.out] at O6
      go_ret
      exact ⟨_, rfl, O6, HW.out⟩
end Go.Proofs.YthbimomhbeoieaaDoor
