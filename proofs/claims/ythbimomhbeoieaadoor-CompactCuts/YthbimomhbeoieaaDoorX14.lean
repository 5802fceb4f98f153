/- compact: Root of some leaves: the hashes, folded from the right. -/
import Derived.Test.YthbimomhbeoieaaDoorX13
import Derived.Test.YthbimomhbeoieaaDoorY1
namespace Go.Proofs.YthbimomhbeoieaaDoor
open Go.RowKit Go.Shelf
set_option linter.unusedVariables false
set_option linter.unusedSimpArgs false
abbrev Trk := { t : Tre // t.ok }
/-- Folded from the right. -/
def fldr : List (List UInt8) → List UInt8
  | [] => Sh []
  | [x] => x
  | x :: y :: r => nod x (fldr (y :: r))
theorem fldr_cons (x : List UInt8) (l : List (List UInt8)) (h : l ≠ []) : fldr (x :: l) = nod x (fldr l) := by
  cases l with
  | nil => exact absurd rfl h
  | cons y r => rfl
theorem fldr_dwn {β : Type} (f : β → List UInt8) (V : Nat → β) (L : List (List UInt8)) (n : Nat) (hL : L.length = n + 1) (hV : ∀ j, j < n → L[j]? = some (f (V j))) (x0 : List UInt8) (hx : L[n]? = some x0) :
    ∀ k, k ≤ n → (dwn V n k).foldl (fun r x => nod (f x.2) r) x0 = fldr (L.drop (n - k))
  | 0, _ => by
    have : L.drop n = [x0] := by
      rw [List.drop_eq_getElem_cons (by omega), List.drop_of_length_le (by omega)]
      rw [List.getElem?_eq_getElem (by omega)] at hx
      simpa using hx
    simp [dwn, this, fldr]
  | k + 1, hk => by
    have ih := fldr_dwn f V L n hL hV x0 hx k (by omega)
    rw [dwn_succ, List.foldl_append, ih]
    have h1 : n - 1 - k = n - (k + 1) := by omega
    have h2 : n - (k + 1) + 1 = n - k := by omega
    have h3 := hV (n - (k + 1)) (by omega)
    have hne : L.drop (n - k) ≠ [] := by
      intro e
      have := congrArg List.length e
      simp at this; omega
    rw [List.drop_eq_getElem_cons (i := n - (k + 1)) (by omega), h2, fldr_cons _ _ hne, h1]
    rw [List.getElem?_eq_getElem (by omega)] at h3
    simp only [Option.some.injEq] at h3
    rw [h3]; rfl
theorem nod32 (a b : List UInt8) : (nod a b).length = 32 := nod_len a b
theorem foldl32 {β : Type} (f : β → List UInt8) (l : List β) (x : List UInt8) (hx : x.length = 32) : (l.foldl (fun r y => nod (f y) r) x).length = 32 := by
  rcases List.eq_nil_or_concat l with rfl | ⟨r, y, rfl⟩
  · exact hx
  · rw [List.concat_eq_append, List.foldl_append]; exact nod32 _ _
set_option maxRecDepth 100000 in
set_option maxHeartbeats 2000000 in
theorem rroot_some {w : World} {b base : Nat} {v : Value} {E : Nat} {T : List Tre} (h : Rg w b base v 0 E T) (hne : T ≠ []) (hl : T.length ≤ 1000000) (hL : Laid w) :
    Calls Tryd.prog 11 #[.pointer (some ⟨b, 0, none⟩)] w fun e w' => e = .returned (.tuple #[.agg (hbs (fldr (hss T))), .nilIface]) ∧ Nw w w' := by
  obtain ⟨va, vc, rfl⟩ := ownsRow_form h.own
  obtain ⟨n, hn⟩ : ∃ n, T.length = n + 1 := ⟨T.length - 1, by have := List.length_pos_iff.2 hne; omega⟩
  rw [hn] at h
  obtain ⟨x0, hx0⟩ : ∃ t, T[n]? = some t := ⟨_, List.getElem?_eq_getElem (by omega)⟩
  obtain ⟨g, hva, hgb, _⟩ := Rg.at (g := 0) h hx0
  subst hva
  have HR : Hid (Rg w b base (.slice (some ⟨g, 0, none⟩) (n + 1) vc) 0 E T) := h
  have HL : Hid (Laid w) := hL
  have HX0 : Hid (T[n]? = some x0) := hx0
  have HN : Hid (T.length = n + 1) := hn
  have HG : Hid (g < w.heap.size ∧ base ≤ g) := ⟨(h.own.lt g rfl).2, hgb⟩
  have hni : ¬ (n : Int) + 1 = 0 := by omega
  have hnl : n ≤ 1000000 := by omega
  have hx32 : (hbs x0.H).size = 32 := by rw [hbs_size, (h.ok x0 (List.mem_of_getElem? hx0)).h32]
  have HX32 : Hid (x0.H.length = 32) := (h.ok x0 (List.mem_of_getElem? hx0)).h32
  have hb9 := h.nb
  have hcap : n + 1 ≤ vc := by
    rcases h.own.2 with ⟨hv, _⟩ | ⟨g', cap', cur, hv, _, _, q1, q2, _⟩
    · cases hv
    · simp only [Value.slice.injEq] at hv; omega
  have hcap2 : n ≤ vc := by omega
  have hgne : g ≠ b := h.ne g rfl
  clear h hL hx0 hn hgb hl
  refine (callsIn_wide (n := 5)).1 (callsIn_of_wp_marks Tryd.func11 rfl trivial ?_ rfl)
  simp only [Tryd.ntmps11, List.size_toArray, List.length_cons, List.length_nil, Nat.reduceAdd, Nat.reduceSub, Array.replicate_succ, Array.replicate_zero, List.push_toArray, List.append_toArray, List.nil_append, List.cons_append]
  refine wpIn_wide.2 ?_
  go_upto_region 1 with fail
  rw [z32_h]
  obtain ⟨w0, hw0⟩ : ∃ q, w.alloc (.cells z32 24) = q := ⟨_, rfl⟩
  have n0 : Nw w w0 := by rw [← hw0]; exact nwa w _
  have b0 : w0.heap[w.heap.size]? = some (.cells z32 24) := by rw [← hw0]; exact heap_new _ _
  rw [hw0]
  clear hw0
  obtain ⟨hb, hhb⟩ : ∃ q, q = w.heap.size := ⟨_, rfl⟩
  rw [← hhb] at b0 ⊢
  have HHB : Hid (hb = w.heap.size) := hhb
  clear hhb
  have R0 := HR.out.nw n0
  have q := rthere_any b true _ _ _ w0 R0.blk
  have c1 := R0.cs.2.1
  have c3 := R0.cs.2.2.2
  have lb := heap_lt R0.blk
  have HC : Hid (∀ j, j < 32 → w0.cell? ⟨g, (n * 34 + 2) + j, none⟩ = (hbs x0.H)[j]?) := by
    obtain ⟨g', e1, _, e2⟩ := Rg.at (g := 0) R0 HX0.out
    cases e1
    intro j hj
    have := e2 (2 + j) (by omega)
    rw [← Nat.add_assoc] at this
    rw [this]
    exact Tre.ch x0 j
  clear R0
  go_wp2_with fail
  refine q.mono ?_
  rintro e w1 ⟨rfl, rfl⟩
  have BE : Hid (w1.heap[hb]? = some (.cells z32 24)) := b0
  have NE : Hid (Nw w w1) := n0
  have C3 : Hid (w1.cell? ⟨b, 3, none⟩ = some (.slice (some ⟨g, 0, none⟩) (n + 1) vc)) := c3
  have LB : Hid (b < w1.heap.size) := lb
  clear n0 b0 q hni hne
  go_wp2_with first
    | refine wpl_load_at rfl (.tmp 40) 24 32 rfl Tryd.isAgg24 Tryd.sizeOf24 g (n * 34 + 2) rfl (hbs x0.H) hx32 HC.out ?_
    | (refine wp_store_agg rfl (.tmp 5) (.tmp 41) 24 32 rfl Tryd.sizeOf24 w1.heap.size 0 rfl z32 24 (by rw [← z32_h]; exact heap_new _ _) (hbs x0.H) rfl hx32 (hbs_one _) (by decide) (hbs x0.H) (by rw [dropAll z32_size]; simp) ?_; intro w4 j4 f4 z4; clear z4; have N4 : Hid (Nw w1 w4) := (nwa w1 _).trans f4 (fun q hq e => by omega); have J4 : Hid (w4.heap[w1.heap.size]? = some (.cells (hbs x0.H) 24)) := j4; have c34 := N4.out.cellOf C3.out; have lb4 := Nat.lt_of_lt_of_le LB.out N4.out.size; clear f4 j4)
    | (go_at_call 28; refine (backt_any _ _ _ _).mono ?_; rintro e w5 ⟨rfl, rfl⟩)
  have hcw : (w4.alloc (Obj.cells #[Value.slice (some ⟨g, 0, none⟩) n vc] 28)).heap.size = w4.heap.size + 1 := by simp
  have BX := heap_new w4 (Obj.cells #[Value.slice (some ⟨g, 0, none⟩) n vc] 28)
  obtain ⟨wL, hwL⟩ : ∃ q, w4.alloc (Obj.cells #[Value.slice (some ⟨g, 0, none⟩) n vc] 28) = q := ⟨_, rfl⟩
  have NL : Hid (Nw w4 wL) := by show Nw _ _; rw [← hwL]; exact nwa w4 _
  rw [hwL] at hcw BX ⊢
  have HBX : Hid (wL.heap[w4.heap.size]? = some (.cells #[Value.slice (some ⟨g, 0, none⟩) n vc] 28)) := BX
  have HCW : Hid (wL.heap.size = w4.heap.size + 1) := hcw
  obtain ⟨r, hr⟩ : ∃ r, r = w1.heap.size := ⟨_, rfl⟩
  rw [← hr] at J4 ⊢
  obtain ⟨s, hs⟩ : ∃ s, s = w4.heap.size := ⟨_, rfl⟩
  rw [← hs] at HBX ⊢
  have HRR : Hid (r = w1.heap.size) := hr
  have HSS : Hid (s = w4.heap.size) := hs
  clear hwL hcw BX hr hs c1 c3 lb c34 lb4
  have NA : Hid (Nw w wL) := (NE.out.tr N4.out).tr NL.out
  have RA := HR.out.nw NA.out
  have hlt1 : r < wL.heap.size := by have := HRR.out; have := N4.out.size; have := HCW.out; have := heap_lt J4.out; omega
  have hTo : ∀ j, j < T.length → ∃ t : Trk, T[j]? = some t.1 := fun j hj => ⟨⟨T[j], HR.out.ok _ (List.getElem_mem hj)⟩, List.getElem?_eq_getElem hj⟩
  have t0 : Trk := ⟨x0, HR.out.ok x0 (List.mem_of_getElem? HX0.out)⟩
  let V : Nat → Trk := fun j => if hj : j < T.length then ⟨T[j], HR.out.ok _ (List.getElem_mem hj)⟩ else t0
  have hV : ∀ j, j < n → T[j]? = some (V j).1 := fun j hj => by
    have : j < T.length := by have := HN.out; omega
    show _ = some (dite _ _ _ : Trk).1
    rw [dif_pos this]; exact List.getElem?_eq_getElem this
  have HV : Hid (∀ j, j < n → T[j]? = some (V j).1) := hV
  clear_value V
  clear hV hTo
  refine back_law (β := Trk) (enc := fun t => t.1.c) (tt := 68) (th := 24) (d3 := 7) (V := V) (len := n) (r := r) rfl (enters_of Tryd.func38 (by kernel_rfl) rfl)
    (backt_stops (fun t : Trk => t.1.c) (fun t => Tre.size t.2.h32) 4 (by omega) s wL.heap.size r g n vc V hnl ?_ ?_ wL (Nat.le_refl _) ?_ ?_)
    (fun pre => hbs (pre.foldl (fun r x => nod x.2.1.H r) x0.H)) hlt1 ?h0 (by simp) (by simp) ?assign ?body ?done
  · have := HG.out; have := NA.out.size; have := HRR.out; have := NE.out.size; exact ⟨by omega, by omega⟩
  · have := HSS.out; have := HCW.out; have := HRR.out; have := heap_lt J4.out; exact ⟨by omega, by omega⟩
  · exact (cell_of HBX.out 0).trans rfl
  · intro k hk j hj
    obtain ⟨g', e1, _, e2⟩ := Rg.at (g := 0) RA (HV.out k hk)
    cases e1
    exact e2 j hj
  case h0 => exact (NL.out.block r (heap_lt J4.out) (fun f => f)).trans J4.out
  case assign =>
    intro x W K hK
    have hsz : x.2.1.c.size = 34 := Tre.size x.2.2.h32
    simp only [List.setIfInBounds_toArray, List.set_cons_zero, List.set_cons_succ] at hK ⊢
    have HK : Hid (∀ W', W'.heap[W.heap.size]? = some (.cells x.2.1.c 68) → Nw W W' → _) := hK
    clear hK
    go_wp2_with (refine wp_store_agg rfl (.tmp 7) (.tmp 50) 68 34 rfl Tryd.sizeOf68 W.heap.size 0 rfl zt.c 68 (by rw [← zt_h]; exact heap_new _ _) x.2.1.c rfl hsz (Tre.one _) (Nat.le_of_eq zt34.symm) x.2.1.c (by rw [dropAll zt34]; simp) ?_; intro w6 j6 f6 z6; clear z6)
    exact HK.out _ j6 ((nwa W _).trans f6 (fun q hq e => by omega))
  case body =>
    intro pre x Bx W Q' hBx hb1 hr1 hfr hK
    simp only [List.setIfInBounds_toArray, List.set_cons_zero, List.set_cons_succ] at hK ⊢
    have h32 : (pre.foldl (fun r (x : Nat × Trk) => nod x.2.1.H r) x0.H).length = 32 := foldl32 (fun x : Nat × Trk => x.2.1.H) pre x0.H HX32.out
    obtain ⟨R, hR⟩ : ∃ R, R = pre.foldl (fun r (x : Nat × Trk) => nod x.2.1.H r) x0.H := ⟨_, rfl⟩
    have hR2 : (pre ++ [x]).foldl (fun r (x : Nat × Trk) => nod x.2.1.H r) x0.H = nod x.2.1.H R := by rw [List.foldl_append, ← hR]; rfl
    rw [hR2] at hK
    rw [← hR] at h32 hr1
    have HK : Hid (∀ a' W', W'.heap[r]? = some (.cells (hbs (nod x.2.1.H R)) 24) → Fr (fun k => k = r) W W' → Q' .normal a' W') := hK
    have HB1 : Hid (W.heap[Bx]? = some (.cells x.2.1.c 68)) := hb1
    have HR1 : Hid (W.heap[r]? = some (.cells (hbs R) 24)) := hr1
    have QN : Hid (Calls Tryd.prog 29 #[.agg (hbs x.2.1.H), .agg (hbs R)] W fun e w' => e = .returned (.agg (hbs (nod x.2.1.H R))) ∧ Nw W w') := node_any x.2.1.H R x.2.2.h32 h32 W ((HL.out.nw NA.out).fr hfr (by have := HRR.out; have := HL.out.lt; have := NE.out.size; omega))
    have hx2 : (hbs x.2.1.H).size = 32 := by rw [hbs_size, x.2.2.h32]
    have hR32 : (hbs R).size = 32 := by rw [hbs_size, h32]
    have hN32 : (hbs (nod x.2.1.H R)).size = 32 := by rw [hbs_size, nod32]
    have lB := heap_lt hb1
    have lr := heap_lt hr1
    clear hK hR hR2 hfr hb1 hr1 RA
    go_wp2_with first
      | refine wpl_load_at rfl (.tmp 51) 24 32 rfl Tryd.isAgg24 Tryd.sizeOf24 Bx 2 rfl (hbs x.2.1.H) hx2 (Tre.cells HB1.out).2.2 ?_
      | refine wpl_load_at rfl (.tmp 5) 24 32 rfl Tryd.isAgg24 Tryd.sizeOf24 r 0 rfl (hbs R) hR32 (fun j _ => by rw [Nat.zero_add]; exact cell_of HR1.out j) ?_
      | (go_at_call 29; refine QN.out.mono ?_; rintro e w6 ⟨rfl, n6⟩; have B6 : Hid (w6.heap[r]? = some (.cells (hbs R) 24)) := (n6.block _ (heap_lt HR1.out) (fun f => f)).trans HR1.out; have N6 : Hid (Nw W w6) := n6; clear n6)
      | (refine wp_store_agg rfl (.tmp 5) (.tmp 54) 24 32 rfl Tryd.sizeOf24 r 0 rfl (hbs R) 24 B6.out (hbs (nod x.2.1.H R)) rfl hN32 (hbs_one _) (Nat.le_of_eq hR32.symm) (hbs (nod x.2.1.H R)) (by rw [dropAll hR32]; simp) ?_; intro w7 j7 f7 z7; clear z7)
    exact HK.out _ _ j7 ((N6.out.mono (fun _ _ f => f.elim)).trans f7 (fun _ _ e => e))
  case done =>
    intro D W hD hrb hfr hK
    have e1 : (dwn V n n).foldl (fun r (x : Nat × Trk) => nod x.2.1.H r) x0.H = fldr (hss T) := by
      have := fldr_dwn (fun t : Trk => t.1.H) V (hss T) n (by simp [hss, HN.out]) (fun j hj => by simp [hss, HV.out j hj]) x0.H (by simp [hss, HX0.out]) n (Nat.le_refl _)
      simpa using this
    rw [e1] at hrb
    have hF32 : (hbs (fldr (hss T))).size = 32 := by rw [← e1, hbs_size, foldl32 (fun x : Nat × Trk => x.2.1.H) _ x0.H HX32.out]
    obtain ⟨R, hR⟩ : ∃ R, R = fldr (hss T) := ⟨_, rfl⟩
    rw [← hR] at hrb hF32
    have HRE : Hid (R = fldr (hss T)) := hR
    have hhr : hb ≠ r := by have := HHB.out; have := HRR.out; have := heap_lt BE.out; omega
    have HBW : Hid (W.heap[hb]? = some (.cells z32 24)) := (hfr.block hb (by have := heap_lt BE.out; have := N4.out.size; have := NL.out.size; omega) hhr).trans (((N4.out.tr NL.out).block hb (heap_lt BE.out) (fun f => f)).trans BE.out)
    have HRB : Hid (W.heap[r]? = some (.cells (hbs R) 24)) := hrb
    have HFR : Hid (Fr (fun k => k = r) wL W) := hfr
    have HKK : Hid (W.heap[D]? = some (.deferred (some []))) := hK
    have HD : Hid (wL.heap.size ≤ D) := hD
    clear e1 hR hrb hfr hK hD hhr RA
    go_wp2_with first
      | refine wpl_load_at rfl (.tmp 5) 24 32 rfl Tryd.isAgg24 Tryd.sizeOf24 r 0 rfl (hbs R) hF32 (fun j _ => by rw [Nat.zero_add]; exact cell_of HRB.out j) ?_
      | (refine wp_store_agg rfl (.tmp 2) (.tmp 55) 24 32 rfl Tryd.sizeOf24 hb 0 rfl z32 24 HBW.out (hbs R) rfl hF32 (hbs_one _) (by decide) (hbs R) (by rw [dropAll z32_size]; simp) ?_; intro w7 j7 f7 z7; clear z7)
    have hDh : D ≠ hb := by have := HD.out; have := heap_lt BE.out; have := N4.out.size; have := NL.out.size; omega
    have hK7 : w7.heap[D]? = some (.deferred (some [])) := (f7.block D (heap_lt HKK.out) (fun e => hDh e)).trans HKK.out
    refine ⟨by simp, .inl ⟨_, _, rfl, run_takeDeferred hK7, ?_⟩⟩
    have j8 : (w7.putObj D (.deferred none)).heap[hb]? = some (.cells (hbs R) 24) := (World.putObj_heap_other (fun e => hDh e.symm)).trans j7
    rw [← HRE.out]
    refine ⟨_, results_cell_slot Tryd.results11 Tryd.isAgg24 Tryd.sizeOf24 rfl _ rfl j8 hF32, rfl, ?_⟩
    have h1 : Nw w W := NA.out.trans HFR.out (fun k hk e => by have := HRR.out; have := NE.out.size; omega)
    have h2 : Nw w w7 := h1.trans f7 (fun k hk e => by have := HHB.out; omega)
    exact h2.grown (grownBy_putObj' _ _ _) (fun k e hk => by cases e; have := HD.out; have := NA.out.size; omega)
end Go.Proofs.YthbimomhbeoieaaDoor
