/- plan: parts and tiles compared; Fold. -/
import Derived.Test.YtjkhcplnedcmeaaGreatDoorYgb
import Derived.Test.YtjkhcplnedcmeaaGreatDoorGHq
import Derived.Test.YtjkhcplnedcmeaaGreatDoorY1
import Derived.Test.YtjkhcplnedcmeaaGreatDoorEg
import Derived.Test.YtjkhcplnedcmeaaGreatDoorLg1
import Derived.WalkMore
import Derived.Deep.RegionHeld
import Derived.Deep.DeepCutAuto
import Derived.Deep.RegionHeld3
namespace Go.Proofs.YtjkhcplnedcmeaaGreatDoor
open Go.RowKit Go.Shelf
set_option linter.unusedVariables false
set_option linter.unusedSimpArgs false
/-- The cells of a row of tiles. -/
theorem tic_cellsP {w : World} {base : Nat} {ad : Option Addr} {c : Nat} {l : List Ti} (h : w.ownsRow base 120 3 (.slice ad l.length c) l.length (tic l)) (k : Nat) (t : Ti) (ht : l[k]? = some t) :
    ∃ g, ad = some ⟨g, 0, none⟩ ∧ w.cell? ⟨g, k * 3, none⟩ = some (.int .u8 (t.L : Int)) ∧ w.cell? ⟨g, k * 3 + 1, none⟩ = some (.int .u64 (t.I : Int)) ∧ w.cell? ⟨g, k * 3 + 2, none⟩ = some (.int .i64 (t.W : Int)) := by
  rcases h.2 with ⟨e, h0⟩ | ⟨g, cap, cur, e, _⟩
  · have := (List.getElem?_eq_some_iff.1 ht).1; omega
  · injection e with e1 e2 e3
    subst e1
    obtain ⟨q1, q2, q3⟩ := tic_at l k t ht
    have a := h.cells (g := g) rfl _ _ q1
    have b := h.cells (g := g) rfl _ _ q2
    have c := h.cells (g := g) rfl _ _ q3
    rw [addZ] at a b c
    exact ⟨g, rfl, a, b, c⟩
section
variable {w : World} {o : Oper} {a : Act} {K : Act → Prop}
end
end Go.Proofs.YtjkhcplnedcmeaaGreatDoor
namespace Go.Proofs.YtjkhcplnedcmeaaGreatDoor
open Go.RowKit Go.Shelf
set_option linter.unusedVariables false
set_option linter.unusedSimpArgs false
def ndp (A B : List UInt8) : List UInt8 := Sh (1 :: (A ++ B))
theorem ndp_len (A B : List UInt8) : (ndp A B).length = 32 := Sh_len _
theorem dropA {A : Array Value} {n : Nat} (h : A.size = n) : A.toList.drop (0 + n) = [] := List.drop_eq_nil_of_le (by simp [h])
theorem wple_load_at {P : Program} {w : World} {ops : Array Oper} {rest : List Oper} {o : Oper} {a : Act} {Q : Exit → Act → World → Prop} (hgd : o.guard = none) (x : Operand) (t : TypeId) (n : Nat) (ho : o.op = .load t x)
    (hagg : ∀ W : World, (isAgg t).run P W = .ok true W) (hsz : ∀ W : World, (sizeOf t).run P W = .ok n W) (g off : Nat) (hx : a.eval x = .pointer (some ⟨g, off, none⟩)) (V : Array Value) (hV : V.size = n) (hc : ∀ j, j < n → w.cell? ⟨g, off + j, none⟩ = V[j]?)
    (h : wpList P ops Q rest (a.put o.dst (.agg V)) w) : wpList P ops Q (o :: rest) a w := by
  refine wpList_plain hgd fun K hK => ?_
  have hl : (loadCells ⟨g, off, none⟩ n).run P w = .ok V w := by
    have := run_loadCells_list (P := P) w ⟨g, off, none⟩ V.toList (fun j v hv => by
      have hj : j < n := by
        have := (List.getElem?_eq_some_iff.1 hv).1
        simpa [hV] using this
      rw [addO, hc j hj]
      simpa using hv)
    simpa [hV] using this
  unfold Oper.wp execOp
  simp only [ho, hx, Instr.loadAt, sure, loadVar, Sem.run_bind, Sem.run_pure, hagg, hsz, hl, Result.andThen_ok, if_true]
  exact hK _ _ h
abbrev Hsq := { h : List UInt8 // h.length = 32 }
/-- Folded from the right. -/
def fdp : List (List UInt8) → List UInt8
  | [] => Sh []
  | [x] => x
  | x :: y :: r => ndp x (fdp (y :: r))
theorem fdp_cons (x : List UInt8) (l : List (List UInt8)) (h : l ≠ []) : fdp (x :: l) = ndp x (fdp l) := by
  cases l with
  | nil => exact absurd rfl h
  | cons y r => rfl
theorem fdp_dwn {β : Type} (f : β → List UInt8) (V : Nat → β) (L : List (List UInt8)) (n : Nat) (hL : L.length = n + 1) (hV : ∀ j, j < n → L[j]? = some (f (V j))) (x0 : List UInt8) (hx : L[n]? = some x0) :
    ∀ k, k ≤ n → (dwn V n k).foldl (fun r x => ndp (f x.2) r) x0 = fdp (L.drop (n - k))
  | 0, _ => by
    have : L.drop n = [x0] := by
      rw [List.drop_eq_getElem_cons (by omega), List.drop_of_length_le (by omega)]
      rw [List.getElem?_eq_getElem (by omega)] at hx
      simpa using hx
    simp [dwn, this, fdp]
  | k + 1, hk => by
    have ih := fdp_dwn f V L n hL hV x0 hx k (by omega)
    rw [dwn_succ, List.foldl_append, ih]
    have h1 : n - 1 - k = n - (k + 1) := by omega
    have h2 : n - (k + 1) + 1 = n - k := by omega
    have h3 := hV (n - (k + 1)) (by omega)
    have hne : L.drop (n - k) ≠ [] := by
      intro e
      have := congrArg List.length e
      simp at this; omega
    rw [List.drop_eq_getElem_cons (i := n - (k + 1)) (by omega), h2, fdp_cons _ _ hne, h1]
    rw [List.getElem?_eq_getElem (by omega)] at h3
    simp only [Option.some.injEq] at h3
    rw [h3]; rfl
theorem foldp32 {β : Type} (f : β → List UInt8) (l : List β) (x : List UInt8) (hx : x.length = 32) : (l.foldl (fun r y => ndp (f y) r) x).length = 32 := by
  rcases List.eq_nil_or_concat l with rfl | ⟨r, y, rfl⟩
  · exact hx
  · rw [List.concat_eq_append, List.foldl_append]; exact ndp_len _ _
/-- A row of hashes in block g. -/
structure Hrw (w : World) (g : Nat) (L : List (List UInt8)) : Prop where
  lt : g < w.heap.size
  ok : ∀ x ∈ L, x.length = 32
  cs : ∀ k x, L[k]? = some x → ∀ j, j < 32 → w.cell? ⟨g, k * 32 + j, none⟩ = (hbs x)[j]?
theorem Hrw.nw {w w' : World} {g : Nat} {L : List (List UInt8)} (h : Hrw w g L) (n : Nw w w') : Hrw w' g L :=
  ⟨Nat.lt_of_lt_of_le h.lt n.size, h.ok, fun k x hx j hj => (n.cell (p := ⟨g, _, none⟩) h.lt (fun f => f)).trans (h.cs k x hx j hj)⟩
theorem Hrw.of {w : World} {base g n c : Nat} {L : List (List UInt8)} (h : w.ownsRow base 69 32 (.slice (some ⟨g, 0, none⟩) n c) L.length (hsc L)) (hok : ∀ x ∈ L, x.length = 32) : Hrw w g L := by
  refine ⟨(h.lt g rfl).2, hok, fun k x hx j hj => ?_⟩
  have hl := (List.getElem?_eq_some_iff.1 hx).1
  obtain ⟨ad, c, e, hc⟩ := Hss.of hok h
  obtain ⟨g', off, e2, hc2⟩ := hc k x hx
  rcases h.2 with ⟨hv, hn⟩ | ⟨g2, cap', cur, hv, hb, _⟩
  · omega
  · simp only [Value.slice.injEq] at hv e
    have e3 : some (⟨g, 0, none⟩ : Addr) = some ⟨g', off, none⟩ := by rw [e.1, e2]
    cases e3
    have := hc2 j hj; rwa [Nat.zero_add] at this
set_option maxRecDepth 100000 in
set_option maxHeartbeats 2000000 in
theorem pfold_some {w : World} {g n c : Nat} {T : List (List UInt8)} (h : Hrw w g T) (hn : T.length = n + 1) (hcap2 : n ≤ c) (hl : n ≤ 1048576) (hL : Laid w) (hgb : 19 ≤ w.heap.size) :
    Calls Tryz.prog 188 #[.slice (some ⟨g, 0, none⟩) (n + 1) c] w fun e w' => e = .returned (.tuple #[.agg (hbs (fdp T)), .nilIface]) ∧ Nw w w' := by
  obtain ⟨x0, hx0⟩ : ∃ t, T[n]? = some t := ⟨_, List.getElem?_eq_getElem (by omega)⟩
  have HR : Hid (Hrw w g T) := h
  have HL : Hid (Laid w) := hL
  have HX0 : Hid (T[n]? = some x0) := hx0
  have HN : Hid (T.length = n + 1) := hn
  have HG : Hid (g < w.heap.size) := h.lt
  have hni : ((n : Int) + 1 == 0) = false := by simp; omega
  have hnl : n ≤ 1048576 := hl
  have hx32 : (hbs x0).size = 32 := by rw [hbs_size, h.ok x0 (List.mem_of_getElem? hx0)]
  have HX32 : Hid (x0.length = 32) := h.ok x0 (List.mem_of_getElem? hx0)
  have hb9 : Hid (19 ≤ w.heap.size) := hgb
  clear h hL hx0 hn hgb hl
  refine (callsIn_wide (n := 5)).1 (callsIn_of_wp_marks Tryz.func188 rfl trivial ?_ rfl)
  simp only [Tryz.ntmps188, List.size_toArray, List.length_cons, List.length_nil, Nat.reduceAdd, Nat.reduceSub, Array.replicate_succ, Array.replicate_zero, List.push_toArray, List.append_toArray, List.nil_append, List.cons_append]
  refine wpIn_wide.2 ?_
  go_upto_region 1 with fail
  rw [z32_h]
  obtain ⟨w0, hw0⟩ : ∃ q, w.alloc (.cells z32 69) = q := ⟨_, rfl⟩
  have n0 : Nw w w0 := by rw [← hw0]; exact nwa w _
  have b0 : w0.heap[w.heap.size]? = some (.cells z32 69) := by rw [← hw0]; exact heap_new _ _
  rw [hw0]
  clear hw0
  obtain ⟨hb, hhb⟩ : ∃ q, q = w.heap.size := ⟨_, rfl⟩
  rw [← hhb] at b0 ⊢
  have HHB : Hid (hb = w.heap.size) := hhb
  clear hhb
  have R0 := HR.out.nw n0
  have HC : Hid (∀ j, j < 32 → w0.cell? ⟨g, (n * 32) + j, none⟩ = (hbs x0)[j]?) := R0.cs n x0 HX0.out
  have BE : Hid (w0.heap[hb]? = some (.cells z32 69)) := b0
  have NE : Hid (Nw w w0) := n0
  have LB : g < w0.heap.size := R0.lt
  clear n0 b0 R0
  go_wp2_with first
    | refine wple_load_at rfl (.tmp 18) 69 32 rfl Tryz.isAgg69 Tryz.sizeOf69 g (n * 32) rfl (hbs x0) hx32 HC.out ?_
    | (refine wp_store_agg rfl (.tmp 5) (.tmp 19) 69 32 rfl Tryz.sizeOf69 w0.heap.size 0 rfl z32 69 (by rw [← z32_h]; exact heap_new _ _) (hbs x0) rfl hx32 (hbs_one _) (by decide) (hbs x0) (by rw [dropA z32_size]; simp) ?_; intro w4 j4 f4 z4; clear z4; have N4 : Hid (Nw w0 w4) := (nwa w0 _).trans f4 (fun q hq e => by omega); have J4 : Hid (w4.heap[w0.heap.size]? = some (.cells (hbs x0) 69)) := j4; have lb4 := Nat.lt_of_lt_of_le LB N4.out.size; clear f4 j4)
    | (go_at_call 210; refine (backh_any _ _ _ _).mono ?_; rintro e w5 ⟨rfl, rfl⟩)
  have hcw : (w4.alloc (Obj.cells #[Value.slice (some ⟨g, 0, none⟩) n c] 45)).heap.size = w4.heap.size + 1 := by simp
  have BX := heap_new w4 (Obj.cells #[Value.slice (some ⟨g, 0, none⟩) n c] 45)
  obtain ⟨wL, hwL⟩ : ∃ q, w4.alloc (Obj.cells #[Value.slice (some ⟨g, 0, none⟩) n c] 45) = q := ⟨_, rfl⟩
  have NL : Hid (Nw w4 wL) := by show Nw _ _; rw [← hwL]; exact nwa w4 _
  rw [hwL] at hcw BX ⊢
  have HBX : Hid (wL.heap[w4.heap.size]? = some (.cells #[Value.slice (some ⟨g, 0, none⟩) n c] 45)) := BX
  have HCW : Hid (wL.heap.size = w4.heap.size + 1) := hcw
  obtain ⟨r, hr⟩ : ∃ r, r = w0.heap.size := ⟨_, rfl⟩
  rw [← hr] at J4 ⊢
  obtain ⟨s, hs⟩ : ∃ s, s = w4.heap.size := ⟨_, rfl⟩
  rw [← hs] at HBX ⊢
  have HRR : Hid (r = w0.heap.size) := hr
  have HSS : Hid (s = w4.heap.size) := hs
  clear hwL hcw BX hr hs lb4 hni
  have NA : Hid (Nw w wL) := (NE.out.tr N4.out).tr NL.out
  have RA := HR.out.nw NA.out
  have hlt1 : r < wL.heap.size := by have := HRR.out; have := N4.out.size; have := HCW.out; have := heap_lt J4.out; omega
  have hTo : ∀ j, j < T.length → ∃ t : Hsq, T[j]? = some t.1 := fun j hj => ⟨⟨T[j], HR.out.ok _ (List.getElem_mem hj)⟩, List.getElem?_eq_getElem hj⟩
  have t0 : Hsq := ⟨x0, HR.out.ok x0 (List.mem_of_getElem? HX0.out)⟩
  let V : Nat → Hsq := fun j => if hj : j < T.length then ⟨T[j], HR.out.ok _ (List.getElem_mem hj)⟩ else t0
  have hV : ∀ j, j < n → T[j]? = some (V j).1 := fun j hj => by
    have : j < T.length := by have := HN.out; omega
    show _ = some (dite _ _ _ : Hsq).1
    rw [dif_pos this]; exact List.getElem?_eq_getElem this
  have HV : Hid (∀ j, j < n → T[j]? = some (V j).1) := hV
  clear_value V
  clear hV hTo
  refine back_law (β := Hsq) (enc := fun t => hbs t.1) (tt := 69) (th := 69) (d3 := 7) (V := V) (len := n) (r := r) rfl (enters_of Tryz.func226 (by kernel_rfl) rfl)
    (backh_stops (fun t : Hsq => hbs t.1) (fun t => by rw [hbs_size, t.2]) 4 (by omega) s wL.heap.size r g n c V hnl ?_ ?_ wL (Nat.le_refl _) ?_ ?_)
    (fun pre => hbs (pre.foldl (fun r x => ndp x.2.1 r) x0)) hlt1 ?h0 (by simp) (by simp) ?assign ?body ?done
  · have := HG.out; have := NA.out.size; have := HRR.out; have := NE.out.size; exact ⟨by omega, by omega⟩
  · have := HSS.out; have := HCW.out; have := HRR.out; have := heap_lt J4.out; exact ⟨by omega, by omega⟩
  · exact (cell_of HBX.out 0).trans rfl
  · intro k hk j hj
    exact RA.cs k _ (HV.out k hk) j hj
  case h0 => exact (NL.out.block r (heap_lt J4.out) (fun f => f)).trans J4.out
  case assign =>
    intro x W K hK
    have hsz : (hbs x.2.1).size = 32 := by rw [hbs_size, x.2.2]
    simp only [List.setIfInBounds_toArray, List.set_cons_zero, List.set_cons_succ] at hK ⊢
    have HK : Hid (∀ W', W'.heap[W.heap.size]? = some (.cells (hbs x.2.1) 69) → Nw W W' → _) := hK
    clear hK
    go_wp2_with (refine wp_store_agg rfl (.tmp 7) (.tmp 25) 69 32 rfl Tryz.sizeOf69 W.heap.size 0 rfl z32 69 (by rw [← z32_h]; exact heap_new _ _) (hbs x.2.1) rfl hsz (hbs_one _) (by decide) (hbs x.2.1) (by rw [dropA z32_size]; simp) ?_; intro w6 j6 f6 z6; clear z6)
    exact HK.out _ j6 ((nwa W _).trans f6 (fun q hq e => by omega))
  case body =>
    intro pre x Bx W Q' hBx hb1 hr1 hfr hK
    simp only [List.setIfInBounds_toArray, List.set_cons_zero, List.set_cons_succ] at hK ⊢
    have h32 : (pre.foldl (fun r (x : Nat × Hsq) => ndp x.2.1 r) x0).length = 32 := foldp32 (fun x : Nat × Hsq => x.2.1) pre x0 HX32.out
    obtain ⟨R, hR⟩ : ∃ R, R = pre.foldl (fun r (x : Nat × Hsq) => ndp x.2.1 r) x0 := ⟨_, rfl⟩
    have hR2 : (pre ++ [x]).foldl (fun r (x : Nat × Hsq) => ndp x.2.1 r) x0 = ndp x.2.1 R := by rw [List.foldl_append, ← hR]; rfl
    rw [hR2] at hK
    rw [← hR] at h32 hr1
    have HK : Hid (∀ a' W', W'.heap[r]? = some (.cells (hbs (ndp x.2.1 R)) 69) → Fr (fun k => k = r) W W' → Q' .normal a' W') := hK
    have HB1 : Hid (W.heap[Bx]? = some (.cells (hbs x.2.1) 69)) := hb1
    have HR1 : Hid (W.heap[r]? = some (.cells (hbs R) 69)) := hr1
    have QN : Hid (Calls Tryz.prog 42 #[.agg (hbs x.2.1), .agg (hbs R)] W fun e w' => e = .returned (.agg (hbs (ndp x.2.1 R))) ∧ Nw W w') := node_any x.2.1 R x.2.2 h32 W ((HL.out.nw NA.out).fr hfr (by have := HRR.out; have := HL.out.lt; have := NE.out.size; omega))
    have hx2 : (hbs x.2.1).size = 32 := by rw [hbs_size, x.2.2]
    have hR32 : (hbs R).size = 32 := by rw [hbs_size, h32]
    have hN32 : (hbs (ndp x.2.1 R)).size = 32 := by rw [hbs_size, ndp_len]
    have lB := heap_lt hb1
    have lr := heap_lt hr1
    clear hK hR hR2 hfr hb1 hr1 RA
    go_wp2_with first
      | refine wple_load_at rfl (.tmp 7) 69 32 rfl Tryz.isAgg69 Tryz.sizeOf69 Bx 0 rfl (hbs x.2.1) hx2 (hash_cells HB1.out) ?_
      | refine wple_load_at rfl (.tmp 5) 69 32 rfl Tryz.isAgg69 Tryz.sizeOf69 r 0 rfl (hbs R) hR32 (fun j _ => by rw [Nat.zero_add]; exact cell_of HR1.out j) ?_
      | (go_at_call 42; refine QN.out.mono ?_; rintro e w6 ⟨rfl, n6⟩; have B6 : Hid (w6.heap[r]? = some (.cells (hbs R) 69)) := (n6.block _ (heap_lt HR1.out) (fun f => f)).trans HR1.out; have N6 : Hid (Nw W w6) := n6; clear n6)
      | (refine wp_store_agg rfl (.tmp 5) (.tmp 28) 69 32 rfl Tryz.sizeOf69 r 0 rfl (hbs R) 69 B6.out (hbs (ndp x.2.1 R)) rfl hN32 (hbs_one _) (Nat.le_of_eq hR32.symm) (hbs (ndp x.2.1 R)) (by rw [dropA hR32]; simp) ?_; intro w7 j7 f7 z7; clear z7)
    exact HK.out _ _ j7 ((N6.out.mono (fun _ _ f => f.elim)).trans f7 (fun _ _ e => e))
  case done =>
    intro D W hD hrb hfr hK
    have e1 : (dwn V n n).foldl (fun r (x : Nat × Hsq) => ndp x.2.1 r) x0 = fdp T := by
      have := fdp_dwn (fun t : Hsq => t.1) V T n HN.out (fun j hj => HV.out j hj) x0 HX0.out n (Nat.le_refl _)
      simpa using this
    rw [e1] at hrb
    have hF32 : (hbs (fdp T)).size = 32 := by rw [← e1, hbs_size, foldp32 (fun x : Nat × Hsq => x.2.1) _ x0 HX32.out]
    obtain ⟨R, hR⟩ : ∃ R, R = fdp T := ⟨_, rfl⟩
    rw [← hR] at hrb hF32
    have HRE : Hid (R = fdp T) := hR
    have hhr : hb ≠ r := by have := HHB.out; have := HRR.out; have := heap_lt BE.out; omega
    have HBW : Hid (W.heap[hb]? = some (.cells z32 69)) := (hfr.block hb (by have := heap_lt BE.out; have := N4.out.size; have := NL.out.size; omega) hhr).trans (((N4.out.tr NL.out).block hb (heap_lt BE.out) (fun f => f)).trans BE.out)
    have HRB : Hid (W.heap[r]? = some (.cells (hbs R) 69)) := hrb
    have HFR : Hid (Fr (fun k => k = r) wL W) := hfr
    have HKK : Hid (W.heap[D]? = some (.deferred (some []))) := hK
    have HD : Hid (wL.heap.size ≤ D) := hD
    clear e1 hR hrb hfr hK hD hhr RA
    go_wp2_with first
      | refine wple_load_at rfl (.tmp 5) 69 32 rfl Tryz.isAgg69 Tryz.sizeOf69 r 0 rfl (hbs R) hF32 (fun j _ => by rw [Nat.zero_add]; exact cell_of HRB.out j) ?_
      | (refine wp_store_agg rfl (.tmp 2) (.tmp 29) 69 32 rfl Tryz.sizeOf69 hb 0 rfl z32 69 HBW.out (hbs R) rfl hF32 (hbs_one _) (by decide) (hbs R) (by rw [dropA z32_size]; simp) ?_; intro w7 j7 f7 z7; clear z7)
    have hDh : D ≠ hb := by have := HD.out; have := heap_lt BE.out; have := N4.out.size; have := NL.out.size; omega
    have hK7 : w7.heap[D]? = some (.deferred (some [])) := (f7.block D (heap_lt HKK.out) (fun e => hDh e)).trans HKK.out
    refine ⟨by simp, .inl ⟨_, _, rfl, run_takeDeferred hK7, ?_⟩⟩
    have j8 : (w7.putObj D (.deferred none)).heap[hb]? = some (.cells (hbs R) 69) := (World.putObj_heap_other (fun e => hDh e.symm)).trans j7
    rw [← HRE.out]
    refine ⟨_, results_cell_slot Tryz.results188 Tryz.isAgg69 Tryz.sizeOf69 rfl _ rfl j8 hF32, rfl, ?_⟩
    have h1 : Nw w W := NA.out.trans HFR.out (fun k hk e => by have := HRR.out; have := NE.out.size; omega)
    have h2 : Nw w w7 := h1.trans f7 (fun k hk e => by have := HHB.out; omega)
    exact h2.grown (grownBy_putObj' _ _ _) (fun k e hk => by cases e; have := HD.out; have := NA.out.size; omega)
end Go.Proofs.YtjkhcplnedcmeaaGreatDoor
namespace Go.Proofs.YtjkhcplnedcmeaaGreatDoor
open Go.RowKit
set_option linter.unusedVariables false
set_option linter.unusedSimpArgs false
end Go.Proofs.YtjkhcplnedcmeaaGreatDoor
