/- emit: Root. -/
import Derived.Test.YtkjonddlmiedcaaDoorY2
namespace Go.Proofs.YtkjonddlmiedcaaDoor
open Go.RowKit Go.Shelf
set_option linter.unusedVariables false
set_option linter.unusedSimpArgs false
abbrev Hsk := { h : List UInt8 // h.length = 32 }
/-- Folded from the right. -/
def fde : List (List UInt8) → List UInt8
  | [] => Sh []
  | [x] => x
  | x :: y :: r => ndh x (fde (y :: r))
theorem fde_cons (x : List UInt8) (l : List (List UInt8)) (h : l ≠ []) : fde (x :: l) = ndh x (fde l) := by
  cases l with
  | nil => exact absurd rfl h
  | cons y r => rfl
theorem fde_dwn {β : Type} (f : β → List UInt8) (V : Nat → β) (L : List (List UInt8)) (n : Nat) (hL : L.length = n + 1) (hV : ∀ j, j < n → L[j]? = some (f (V j))) (x0 : List UInt8) (hx : L[n]? = some x0) :
    ∀ k, k ≤ n → (dwn V n k).foldl (fun r x => ndh (f x.2) r) x0 = fde (L.drop (n - k))
  | 0, _ => by
    have : L.drop n = [x0] := by
      rw [List.drop_eq_getElem_cons (by omega), List.drop_of_length_le (by omega)]
      rw [List.getElem?_eq_getElem (by omega)] at hx
      simpa using hx
    simp [dwn, this, fde]
  | k + 1, hk => by
    have ih := fde_dwn f V L n hL hV x0 hx k (by omega)
    rw [dwn_succ, List.foldl_append, ih]
    have h1 : n - 1 - k = n - (k + 1) := by omega
    have h2 : n - (k + 1) + 1 = n - k := by omega
    have h3 := hV (n - (k + 1)) (by omega)
    have hne : L.drop (n - k) ≠ [] := by
      intro e
      have := congrArg List.length e
      simp at this; omega
    rw [List.drop_eq_getElem_cons (i := n - (k + 1)) (by omega), h2, fde_cons _ _ hne, h1]
    rw [List.getElem?_eq_getElem (by omega)] at h3
    simp only [Option.some.injEq] at h3
    rw [h3]; rfl
theorem folde32 {β : Type} (f : β → List UInt8) (l : List β) (x : List UInt8) (hx : x.length = 32) : (l.foldl (fun r y => ndh (f y) r) x).length = 32 := by
  rcases List.eq_nil_or_concat l with rfl | ⟨r, y, rfl⟩
  · exact hx
  · rw [List.concat_eq_append, List.foldl_append]; exact ndh_len _ _
set_option maxRecDepth 100000 in
set_option maxHeartbeats 1000000 in
theorem eroot_empty {w : World} {b base : Nat} {v : Value} {n : Nat} (h : Bd w b base v n []) (hL : Laid w) :
    Calls Tryd.prog 14 #[.pointer (some ⟨b, 0, none⟩)] w fun e w' => e = .returned (.agg (hbs (Sh []))) ∧ Nw w w' := by
  obtain ⟨va, vc, rfl⟩ := ownsRow_form h.own
  have HL : Hid (Laid w) := hL
  have hs : (hbs (Sh [])).size = 32 := by rw [hbs_size, Sh_len]
  obtain ⟨R, hR⟩ : ∃ R, R = Sh [] := ⟨_, rfl⟩
  have QE : Hid (∀ V, Nw w V → Calls Tryd.prog 15 #[] V fun e w' => e = .returned (.agg (hbs R)) ∧ Nw V w') := fun V nV => by rw [hR]; exact empty_any V (HL.out.nw nV)
  rw [← hR] at hs ⊢
  have B0 := h.nw (nwa w (.cells z32 32))
  have q := ethere_any b true _ _ _ B0.blk
  have c2 : (w.alloc (.cells z32 32)).cell? ⟨b, 2, none⟩ = some (.slice va 0 vc) := B0.cs.2.2
  have lb := heap_lt B0.blk
  clear h hL hR B0
  go_enter Tryd.func14, Tryd.ntmps14
  go_upto_region 1 with fail
  rw [z32_h]
  obtain ⟨w0, hw0⟩ : ∃ q, w.alloc (.cells z32 32) = q := ⟨_, rfl⟩
  have n0 : Hid (Nw w w0) := by show Nw _ _; rw [← hw0]; exact nwa w _
  have b0 : Hid (w0.heap[w.heap.size]? = some (.cells z32 32)) := by show _ = _; rw [← hw0]; exact heap_new _ _
  rw [hw0] at q c2 lb ⊢
  clear hw0
  obtain ⟨hb, hhb⟩ : ∃ q, q = w.heap.size := ⟨_, rfl⟩
  rw [← hhb] at b0 ⊢
  have HHB : Hid (hb = w.heap.size) := hhb
  clear hhb
  go_wp2_with fail
  refine q.mono ?_
  rintro e w1 ⟨rfl, rfl⟩
  go_wp2_with fail
  refine (QE.out _ n0.out).mono ?_
  rintro e w2 ⟨rfl, n2⟩
  have B2 : w2.heap[hb]? = some (.cells z32 32) := (n2.block _ (heap_lt b0.out) (fun f => f)).trans b0.out
  go_wp2_with (refine wp_store_agg rfl (.tmp 2) (.tmp 17) 32 32 rfl Tryd.sizeOf32 hb 0 rfl z32 32 B2 (hbs R) rfl hs (hbs_one _) (by decide) (hbs R) (by rw [dropA z32_size]; simp) ?_; intro w4 j4 f4 z4; clear z4)
  exact bodyPost_ret (results_cell Tryd.results14 Tryd.isAgg32 Tryd.sizeOf32 rfl j4 hs) rfl ⟨rfl, (n0.out.tr n2).trans f4 (fun k hk e => by have := HHB.out; omega)⟩
set_option maxRecDepth 100000 in
set_option maxHeartbeats 2000000 in
theorem eroot_some {w : World} {b base : Nat} {v : Value} {E : Nat} {T : List (List UInt8)} (h : Bd w b base v E T) (hne : T ≠ []) (hl : T.length ≤ 1000000) (hL : Laid w) :
    Calls Tryd.prog 14 #[.pointer (some ⟨b, 0, none⟩)] w fun e w' => e = .returned (.agg (hbs (fde T))) ∧ Nw w w' := by
  obtain ⟨va, vc, rfl⟩ := ownsRow_form h.own
  obtain ⟨n, hn⟩ : ∃ n, T.length = n + 1 := ⟨T.length - 1, by have := List.length_pos_iff.2 hne; omega⟩
  rw [hn] at h
  obtain ⟨x0, hx0⟩ : ∃ t, T[n]? = some t := ⟨_, List.getElem?_eq_getElem (by omega)⟩
  obtain ⟨g, hva, hgb, _⟩ := Bd.at h hx0
  subst hva
  have HR : Hid (Bd w b base (.slice (some ⟨g, 0, none⟩) (n + 1) vc) E T) := h
  have HL : Hid (Laid w) := hL
  have HX0 : Hid (T[n]? = some x0) := hx0
  have HN : Hid (T.length = n + 1) := hn
  have HG : Hid (g < w.heap.size ∧ base ≤ g) := ⟨(h.own.lt g rfl).2, hgb⟩
  have hni : ¬ (n : Int) + 1 = 0 := by omega
  have hnl : n ≤ 1000000 := by omega
  have hx32 : (hbs x0).size = 32 := by rw [hbs_size, h.ok x0 (List.mem_of_getElem? hx0)]
  have HX32 : Hid (x0.length = 32) := h.ok x0 (List.mem_of_getElem? hx0)
  have hb9 := h.nb
  have hcap : n + 1 ≤ vc := by
    rcases h.own.2 with ⟨hv, _⟩ | ⟨g', cap', cur, hv, _, _, q1, q2, _⟩
    · cases hv
    · simp only [Value.slice.injEq] at hv; omega
  have hcap2 : n ≤ vc := by omega
  have hgne : g ≠ b := h.ne g rfl
  clear h hL hx0 hn hgb hl
  refine (callsIn_wide (n := 5)).1 (callsIn_of_wp_marks Tryd.func14 rfl trivial ?_ rfl)
  simp only [Tryd.ntmps14, List.size_toArray, List.length_cons, List.length_nil, Nat.reduceAdd, Nat.reduceSub, Array.replicate_succ, Array.replicate_zero, List.push_toArray, List.append_toArray, List.nil_append, List.cons_append]
  refine wpIn_wide.2 ?_
  go_upto_region 1 with fail
  rw [z32_h]
  obtain ⟨w0, hw0⟩ : ∃ q, w.alloc (.cells z32 32) = q := ⟨_, rfl⟩
  have n0 : Nw w w0 := by rw [← hw0]; exact nwa w _
  have b0 : w0.heap[w.heap.size]? = some (.cells z32 32) := by rw [← hw0]; exact heap_new _ _
  rw [hw0]
  clear hw0
  obtain ⟨hb, hhb⟩ : ∃ q, q = w.heap.size := ⟨_, rfl⟩
  rw [← hhb] at b0 ⊢
  have HHB : Hid (hb = w.heap.size) := hhb
  clear hhb
  have R0 := HR.out.nw n0
  have q := ethere_any b true _ _ w0 R0.blk
  have c3 := R0.cs.2.2
  have lb := heap_lt R0.blk
  have HC : Hid (∀ j, j < 32 → w0.cell? ⟨g, (n * 32) + j, none⟩ = (hbs x0)[j]?) := by
    obtain ⟨g', e1, _, e2⟩ := Bd.at R0 HX0.out
    cases e1
    exact e2
  clear R0
  go_wp2_with fail
  refine q.mono ?_
  rintro e w1 ⟨rfl, rfl⟩
  have BE : Hid (w1.heap[hb]? = some (.cells z32 32)) := b0
  have NE : Hid (Nw w w1) := n0
  have C3 : Hid (w1.cell? ⟨b, 2, none⟩ = some (.slice (some ⟨g, 0, none⟩) (n + 1) vc)) := c3
  have LB : Hid (b < w1.heap.size) := lb
  clear n0 b0 q hni hne
  go_wp2_with first
    | refine wple_load_at rfl (.tmp 29) 32 32 rfl Tryd.isAgg32 Tryd.sizeOf32 g (n * 32) rfl (hbs x0) hx32 HC.out ?_
    | (refine wp_store_agg rfl (.tmp 4) (.tmp 30) 32 32 rfl Tryd.sizeOf32 w1.heap.size 0 rfl z32 32 (by rw [← z32_h]; exact heap_new _ _) (hbs x0) rfl hx32 (hbs_one _) (by decide) (hbs x0) (by rw [dropA z32_size]; simp) ?_; intro w4 j4 f4 z4; clear z4; have N4 : Hid (Nw w1 w4) := (nwa w1 _).trans f4 (fun q hq e => by omega); have J4 : Hid (w4.heap[w1.heap.size]? = some (.cells (hbs x0) 32)) := j4; have c34 := N4.out.cellOf C3.out; have lb4 := Nat.lt_of_lt_of_le LB.out N4.out.size; clear f4 j4)
    | (go_at_call 26; refine (backh_any _ _ _ _).mono ?_; rintro e w5 ⟨rfl, rfl⟩)
  have hcw : (w4.alloc (Obj.cells #[Value.slice (some ⟨g, 0, none⟩) n vc] 22)).heap.size = w4.heap.size + 1 := by simp
  have BX := heap_new w4 (Obj.cells #[Value.slice (some ⟨g, 0, none⟩) n vc] 22)
  obtain ⟨wL, hwL⟩ : ∃ q, w4.alloc (Obj.cells #[Value.slice (some ⟨g, 0, none⟩) n vc] 22) = q := ⟨_, rfl⟩
  have NL : Hid (Nw w4 wL) := by show Nw _ _; rw [← hwL]; exact nwa w4 _
  rw [hwL] at hcw BX ⊢
  have HBX : Hid (wL.heap[w4.heap.size]? = some (.cells #[Value.slice (some ⟨g, 0, none⟩) n vc] 22)) := BX
  have HCW : Hid (wL.heap.size = w4.heap.size + 1) := hcw
  obtain ⟨r, hr⟩ : ∃ r, r = w1.heap.size := ⟨_, rfl⟩
  rw [← hr] at J4 ⊢
  obtain ⟨s, hs⟩ : ∃ s, s = w4.heap.size := ⟨_, rfl⟩
  rw [← hs] at HBX ⊢
  have HRR : Hid (r = w1.heap.size) := hr
  have HSS : Hid (s = w4.heap.size) := hs
  clear hwL hcw BX hr hs c3 lb c34 lb4
  have NA : Hid (Nw w wL) := (NE.out.tr N4.out).tr NL.out
  have RA := HR.out.nw NA.out
  have hlt1 : r < wL.heap.size := by have := HRR.out; have := N4.out.size; have := HCW.out; have := heap_lt J4.out; omega
  have hTo : ∀ j, j < T.length → ∃ t : Hsk, T[j]? = some t.1 := fun j hj => ⟨⟨T[j], HR.out.ok _ (List.getElem_mem hj)⟩, List.getElem?_eq_getElem hj⟩
  have t0 : Hsk := ⟨x0, HR.out.ok x0 (List.mem_of_getElem? HX0.out)⟩
  let V : Nat → Hsk := fun j => if hj : j < T.length then ⟨T[j], HR.out.ok _ (List.getElem_mem hj)⟩ else t0
  have hV : ∀ j, j < n → T[j]? = some (V j).1 := fun j hj => by
    have : j < T.length := by have := HN.out; omega
    show _ = some (dite _ _ _ : Hsk).1
    rw [dif_pos this]; exact List.getElem?_eq_getElem this
  have HV : Hid (∀ j, j < n → T[j]? = some (V j).1) := hV
  clear_value V
  clear hV hTo
  refine back_law (β := Hsk) (enc := fun t => hbs t.1) (tt := 32) (th := 32) (d3 := 6) (V := V) (len := n) (r := r) rfl (enters_of Tryd.func33 (by kernel_rfl) rfl)
    (backh_stops (fun t : Hsk => hbs t.1) (fun t => by rw [hbs_size, t.2]) 4 (by omega) s wL.heap.size r g n vc V hnl ?_ ?_ wL (Nat.le_refl _) ?_ ?_)
    (fun pre => hbs (pre.foldl (fun r x => ndh x.2.1 r) x0)) hlt1 ?h0 (by simp) (by simp) ?assign ?body ?done
  · have := HG.out; have := NA.out.size; have := HRR.out; have := NE.out.size; exact ⟨by omega, by omega⟩
  · have := HSS.out; have := HCW.out; have := HRR.out; have := heap_lt J4.out; exact ⟨by omega, by omega⟩
  · exact (cell_of HBX.out 0).trans rfl
  · intro k hk j hj
    obtain ⟨g', e1, _, e2⟩ := Bd.at RA (HV.out k hk)
    cases e1
    exact e2 j hj
  case h0 => exact (NL.out.block r (heap_lt J4.out) (fun f => f)).trans J4.out
  case assign =>
    intro x W K hK
    have hsz : (hbs x.2.1).size = 32 := by rw [hbs_size, x.2.2]
    simp only [List.setIfInBounds_toArray, List.set_cons_zero, List.set_cons_succ] at hK ⊢
    have HK : Hid (∀ W', W'.heap[W.heap.size]? = some (.cells (hbs x.2.1) 32) → Nw W W' → _) := hK
    clear hK
    go_wp2_with (refine wp_store_agg rfl (.tmp 6) (.tmp 39) 32 32 rfl Tryd.sizeOf32 W.heap.size 0 rfl z32 32 (by rw [← z32_h]; exact heap_new _ _) (hbs x.2.1) rfl hsz (hbs_one _) (by decide) (hbs x.2.1) (by rw [dropA z32_size]; simp) ?_; intro w6 j6 f6 z6; clear z6)
    exact HK.out _ j6 ((nwa W _).trans f6 (fun q hq e => by omega))
  case body =>
    intro pre x Bx W Q' hBx hb1 hr1 hfr hK
    simp only [List.setIfInBounds_toArray, List.set_cons_zero, List.set_cons_succ] at hK ⊢
    have h32 : (pre.foldl (fun r (x : Nat × Hsk) => ndh x.2.1 r) x0).length = 32 := folde32 (fun x : Nat × Hsk => x.2.1) pre x0 HX32.out
    obtain ⟨R, hR⟩ : ∃ R, R = pre.foldl (fun r (x : Nat × Hsk) => ndh x.2.1 r) x0 := ⟨_, rfl⟩
    have hR2 : (pre ++ [x]).foldl (fun r (x : Nat × Hsk) => ndh x.2.1 r) x0 = ndh x.2.1 R := by rw [List.foldl_append, ← hR]; rfl
    rw [hR2] at hK
    rw [← hR] at h32 hr1
    have HK : Hid (∀ a' W', W'.heap[r]? = some (.cells (hbs (ndh x.2.1 R)) 32) → Fr (fun k => k = r) W W' → Q' .normal a' W') := hK
    have HB1 : Hid (W.heap[Bx]? = some (.cells (hbs x.2.1) 32)) := hb1
    have HR1 : Hid (W.heap[r]? = some (.cells (hbs R) 32)) := hr1
    have QN : Hid (Calls Tryd.prog 12 #[.agg (hbs x.2.1), .agg (hbs R)] W fun e w' => e = .returned (.agg (hbs (ndh x.2.1 R))) ∧ Nw W w') := node_any x.2.1 R x.2.2 h32 W ((HL.out.nw NA.out).fr hfr (by have := HRR.out; have := HL.out.lt; have := NE.out.size; omega))
    have hx2 : (hbs x.2.1).size = 32 := by rw [hbs_size, x.2.2]
    have hR32 : (hbs R).size = 32 := by rw [hbs_size, h32]
    have hN32 : (hbs (ndh x.2.1 R)).size = 32 := by rw [hbs_size, ndh_len]
    have lB := heap_lt hb1
    have lr := heap_lt hr1
    clear hK hR hR2 hfr hb1 hr1 RA
    go_wp2_with first
      | refine wple_load_at rfl (.tmp 6) 32 32 rfl Tryd.isAgg32 Tryd.sizeOf32 Bx 0 rfl (hbs x.2.1) hx2 (hash_cells HB1.out) ?_
      | refine wple_load_at rfl (.tmp 4) 32 32 rfl Tryd.isAgg32 Tryd.sizeOf32 r 0 rfl (hbs R) hR32 (fun j _ => by rw [Nat.zero_add]; exact cell_of HR1.out j) ?_
      | (go_at_call 12; refine QN.out.mono ?_; rintro e w6 ⟨rfl, n6⟩; have B6 : Hid (w6.heap[r]? = some (.cells (hbs R) 32)) := (n6.block _ (heap_lt HR1.out) (fun f => f)).trans HR1.out; have N6 : Hid (Nw W w6) := n6; clear n6)
      | (refine wp_store_agg rfl (.tmp 4) (.tmp 42) 32 32 rfl Tryd.sizeOf32 r 0 rfl (hbs R) 32 B6.out (hbs (ndh x.2.1 R)) rfl hN32 (hbs_one _) (Nat.le_of_eq hR32.symm) (hbs (ndh x.2.1 R)) (by rw [dropA hR32]; simp) ?_; intro w7 j7 f7 z7; clear z7)
    exact HK.out _ _ j7 ((N6.out.mono (fun _ _ f => f.elim)).trans f7 (fun _ _ e => e))
  case done =>
    intro D W hD hrb hfr hK
    have e1 : (dwn V n n).foldl (fun r (x : Nat × Hsk) => ndh x.2.1 r) x0 = fde T := by
      have := fde_dwn (fun t : Hsk => t.1) V T n HN.out (fun j hj => HV.out j hj) x0 HX0.out n (Nat.le_refl _)
      simpa using this
    rw [e1] at hrb
    have hF32 : (hbs (fde T)).size = 32 := by rw [← e1, hbs_size, folde32 (fun x : Nat × Hsk => x.2.1) _ x0 HX32.out]
    obtain ⟨R, hR⟩ : ∃ R, R = fde T := ⟨_, rfl⟩
    rw [← hR] at hrb hF32
    have HRE : Hid (R = fde T) := hR
    have hhr : hb ≠ r := by have := HHB.out; have := HRR.out; have := heap_lt BE.out; omega
    have HBW : Hid (W.heap[hb]? = some (.cells z32 32)) := (hfr.block hb (by have := heap_lt BE.out; have := N4.out.size; have := NL.out.size; omega) hhr).trans (((N4.out.tr NL.out).block hb (heap_lt BE.out) (fun f => f)).trans BE.out)
    have HRB : Hid (W.heap[r]? = some (.cells (hbs R) 32)) := hrb
    have HFR : Hid (Fr (fun k => k = r) wL W) := hfr
    have HKK : Hid (W.heap[D]? = some (.deferred (some []))) := hK
    have HD : Hid (wL.heap.size ≤ D) := hD
    clear e1 hR hrb hfr hK hD hhr RA
    go_wp2_with first
      | refine wple_load_at rfl (.tmp 4) 32 32 rfl Tryd.isAgg32 Tryd.sizeOf32 r 0 rfl (hbs R) hF32 (fun j _ => by rw [Nat.zero_add]; exact cell_of HRB.out j) ?_
      | (refine wp_store_agg rfl (.tmp 2) (.tmp 43) 32 32 rfl Tryd.sizeOf32 hb 0 rfl z32 32 HBW.out (hbs R) rfl hF32 (hbs_one _) (by decide) (hbs R) (by rw [dropA z32_size]; simp) ?_; intro w7 j7 f7 z7; clear z7)
    have hDh : D ≠ hb := by have := HD.out; have := heap_lt BE.out; have := N4.out.size; have := NL.out.size; omega
    have hK7 : w7.heap[D]? = some (.deferred (some [])) := (f7.block D (heap_lt HKK.out) (fun e => hDh e)).trans HKK.out
    refine ⟨by simp, .inl ⟨_, _, rfl, run_takeDeferred hK7, ?_⟩⟩
    have j8 : (w7.putObj D (.deferred none)).heap[hb]? = some (.cells (hbs R) 32) := (World.putObj_heap_other (fun e => hDh e.symm)).trans j7
    rw [← HRE.out]
    refine ⟨_, results_cell Tryd.results14 Tryd.isAgg32 Tryd.sizeOf32 rfl j8 hF32, rfl, ?_⟩
    have h1 : Nw w W := NA.out.trans HFR.out (fun k hk e => by have := HRR.out; have := NE.out.size; omega)
    have h2 : Nw w w7 := h1.trans f7 (fun k hk e => by have := HHB.out; omega)
    exact h2.grown (grownBy_putObj' _ _ _) (fun k e hk => by cases e; have := HD.out; have := NA.out.size; omega)
end Go.Proofs.YtkjonddlmiedcaaDoor
