/- The document's Inclusion (verify); errors told alike. -/
import Derived.Test.YtaeocbdphfkflaaDoorAf
import Derived.Test.YtaeocbdphfkflaaDoorAj
namespace Go.Proofs.YtaeocbdphfkflaaDoor
open Go.RowKit Go.Shelf
set_option linter.unusedVariables false
set_option linter.unusedSimpArgs false
theorem evA {w : World} {a : Nat → Addr} {c : Nat} (h : c = 0 ∨ c = 5 ∨ c = 10) : EV w a (erv a c) c none := by
  rcases h with rfl | rfl | rfl
  · exact .inl ⟨rfl, rfl, rfl⟩
  · exact .inr (.inl ⟨4, by decide, rfl, rfl, rfl⟩)
  · exact .inr (.inl ⟨9, by decide, rfl, rfl, rfl⟩)
/-- Same of an error and the document's. -/
theorem same_erv {B : Nat} {w : World} {a : Nat → Addr} (hS : Sent B w a) (c : Nat) (h : c = 0 ∨ c = 5 ∨ c = 10) : Calls Tryd.prog 12 #[erv a c, .agg (dfa c)] w fun e w' => e = .returned (.bool true) ∧ Nw w w' := by
  rcases h with rfl | rfl | rfl
  · exact same_any hS (evA (.inl rfl)) 0 0
  · exact same_any hS (evA (.inr (.inl rfl))) 5 (-1)
  · exact same_any hS (evA (.inr (.inr rfl))) 10 (-1)
/-- Is of an error. -/
theorem is_erv {B : Nat} {w : World} {a : Nat → Addr} (hS : Sent B w a) (c : Nat) (h : c = 0 ∨ c = 5 ∨ c = 10) (h0 : c ≠ 0) : Calls Tryd.prog 21 #[erv a c, .int .i64 (c : Int)] w fun e w' => e = .returned (.bool true) ∧ Nw w w' := by
  have := isE_any hS (evA (w := w) (a := a) h) (c : Int)
  refine this.mono ?_
  rintro e w' ⟨rfl, hn⟩
  refine ⟨?_, hn⟩
  rcases h with rfl | rfl | rfl
  · exact absurd rfl h0
  · rfl
  · rfl
set_option maxRecDepth 100000 in
set_option maxHeartbeats 4000000 in
theorem rincl_any (i n : Nat) (hi : i < 18446744073709551616) (hn : n < 18446744073709551616) (x : List UInt8) (hx : x.length = 32) (L : List (List UInt8)) (hL32 : ∀ y ∈ L, y.length = 32) (ad : Option Addr) (cap : Nat) (hcap : L.length ≤ cap) (r : List UInt8) (hr : r.length = 32) (w : World) (hs : Hrs w ad L) :
    Calls Tryd.prog 15 #[.int .u64 (i : Int), .int .u64 (n : Int), .agg (hbs x), .slice ad L.length cap, .agg (hbs r)] w fun e w' => e = .returned (.agg (dfa (icA i n x L r))) ∧ Nw w w' := by
  have QR : Hid (∀ V, Nw w V → Calls Tryd.prog 11 #[.int .u64 (i : Int), .int .u64 (n : Int), .agg (hbs x), .slice ad L.length cap] V fun e w' => e = .returned (.tuple #[.agg (hbs (rtA i n x L).1), .agg (dfa (rtA i n x L).2)]) ∧ Nw V w') := fun V nV => rroot_any i n hi hn x hx L hL32 ad cap hcap V (hs.nw hL32 nV)
  have hz32 := rtA_len i n x L hx
  have hcd := rtA_code i n x L
  have HIC : Hid (icA i n x L r = if (rtA i n x L).2 = 0 then (if (rtA i n x L).1 = r then 0 else 10) else (rtA i n x L).2) := rfl
  obtain ⟨D, hD⟩ : ∃ d, d = dfa (icA i n x L r) := ⟨_, rfl⟩
  have HD := hid_of hD
  rw [← hD]
  obtain ⟨z, hz⟩ : ∃ z, z = (rtA i n x L).1 := ⟨_, rfl⟩
  obtain ⟨k, hk⟩ : ∃ k, k = (rtA i n x L).2 := ⟨_, rfl⟩
  rw [← hz, ← hk] at QR HIC
  rw [← hz] at hz32
  rw [← hk] at hcd
  have Z32 : Hid (z.length = 32) := hz32
  have R32 : Hid (r.length = 32) := hr
  have hzs : (hbs z).size = 32 := by rw [hbs_size, hz32]
  have hxs : (hbs x).size = 32 := by rw [hbs_size, hx]
  have hrs : (hbs r).size = 32 := by rw [hbs_size, hr]
  obtain ⟨ln, hln⟩ : ∃ q, q = L.length := ⟨_, rfl⟩
  rw [← hln] at QR ⊢
  have f0 := fun W => fneq0 W
  have f5 := fun W => fneq5 W
  have f10 := fun W => fneq10 W
  clear hD hz hk hz32 hx hL32 hr hs hln hcap
  go_enter Tryd.func15, Tryd.ntmps15
  go_upto_region 1 with fail
  obtain ⟨wa, hwa⟩ : ∃ q, w.alloc (.cells (hbs x) 24) = q := ⟨_, rfl⟩
  have na : Nw w wa := by rw [← hwa]; exact nwa w _
  have xa : wa.heap[w.heap.size]? = some (.cells (hbs x) 24) := by rw [← hwa]; exact heap_new _ _
  have sa : wa.heap.size = w.heap.size + 1 := by rw [← hwa]; simp
  rw [hwa]
  obtain ⟨wb, hwb⟩ : ∃ q, wa.alloc (.cells (hbs r) 24) = q := ⟨_, rfl⟩
  have nb : Nw wa wb := by rw [← hwb]; exact nwa wa _
  have xb : wb.heap[wa.heap.size]? = some (.cells (hbs r) 24) := by rw [← hwb]; exact heap_new _ _
  have sb : wb.heap.size = w.heap.size + 2 := by rw [← hwb]; simp [sa]
  rw [hwb]
  rw [sa] at xb
  obtain ⟨wc, hwc⟩ : ∃ q, wb.alloc (.cells #[.int .i64 0, .int .i64 0] 35) = q := ⟨_, rfl⟩
  have nc : Nw wb wc := by rw [← hwc]; exact nwa wb _
  have xc : wc.heap[wb.heap.size]? = some (.cells #[.int .i64 0, .int .i64 0] 35) := by rw [← hwc]; exact heap_new _ _
  rw [hwc]
  rw [sb] at xc
  have NC : Hid (Nw w wc) := (na.tr nb).tr nc
  have HX : Hid (wc.heap[w.heap.size]? = some (.cells (hbs x) 24)) := ((nb.tr nc).block _ (heap_lt xa) (fun f => f)).trans xa
  have HA : Hid (wc.heap[w.heap.size + 1]? = some (.cells (hbs r) 24)) := (nc.block _ (heap_lt xb) (fun f => f)).trans xb
  have HF : Hid (wc.heap[w.heap.size + 2]? = some (.cells #[.int .i64 0, .int .i64 0] 35)) := xc
  clear hwa na xa sa hwb nb xb sb hwc nc xc
  go_wp2_with (refine wple_load_at rfl (.tmp 7) 24 32 rfl Tryd.isAgg24 Tryd.sizeOf24 w.heap.size 0 rfl (hbs x) hxs (hash_cells HX.out) ?_)
  refine (QR.out _ NC.out).mono ?_
  rintro e w2 ⟨rfl, n2⟩
  have HA2 : Hid (w2.heap[w.heap.size + 1]? = some (.cells (hbs r) 24)) := (n2.block _ (heap_lt HA.out) (fun f => f)).trans HA.out
  have HF2 : Hid (w2.heap[w.heap.size + 2]? = some (.cells #[.int .i64 0, .int .i64 0] 35)) := (n2.block _ (heap_lt HF.out) (fun f => f)).trans HF.out
  have N2 : Hid (Nw w w2) := NC.out.tr n2
  clear n2 NC HX HA HF
  obtain ⟨G, hG⟩ : ∃ g, g = dfa k := ⟨_, rfl⟩
  have HG := hid_of hG
  rw [← hG]
  have hGs : G.size = 2 := by rw [hG]; rcases hcd with rfl | rfl | rfl <;> rfl
  have hG1 : ∀ u ∈ G.toList, u.oneCell' = true := by rw [hG]; rcases hcd with rfl | rfl | rfl <;> decide
  have HG1 := hid_of hG1
  clear hG hG1
  have e1 := heap_next w2 (.cells z32 24) (.cells #[.int .i64 0, .int .i64 0] 35)
  have e0 : ((w2.alloc (.cells z32 24)).alloc (.cells #[.int .i64 0, .int .i64 0] 35)).heap[w2.heap.size]? = some (.cells z32 24) := ((nwa (w2.alloc (.cells z32 24)) _).block _ (heap_lt (heap_new _ _)) (fun f => f)).trans (heap_new _ _)
  have nE : Nw w2 ((w2.alloc (.cells z32 24)).alloc (.cells #[.int .i64 0, .int .i64 0] 35)) := (nwa w2 _).alloc _
  have E0 := hid_of e0
  have E1 := hid_of e1
  have NE := hid_of nE
  clear e0 e1 nE
  go_upto_region 2 with first
    | (refine wp_store_agg rfl (.tmp 11) (.tmp 19) 24 32 rfl Tryd.sizeOf24 w2.heap.size 0 rfl z32 24 (by rw [← z32_h] at E0; exact E0.out) (hbs z) rfl hzs (hbs_one _) (by decide) (hbs z) (by rw [dropA z32_size]; simp) ?_; intro w5 j5 g5 z5; clear z5; have E5 : Hid (w5.heap[w2.heap.size + 1]? = some (.cells #[.int .i64 0, .int .i64 0] 35)) := (g5.block _ (by rw [z32_h]; exact heap_lt E1.out) (fun q => by omega)).trans (by rw [z32_h]; exact E1.out); have G5 : Hid (Fr (fun k => k = w2.heap.size) ((w2.alloc (.cells z32 24)).alloc (.cells #[.int .i64 0, .int .i64 0] 35)) w5) := (by rw [← z32_h]; exact g5))
    | (refine wp_store_agg rfl (.tmp 12) (.tmp 20) 35 2 rfl Tryd.sizeOf35 (w2.heap.size + 1) 0 rfl _ 35 E5.out G rfl hGs HG1.out (by decide) G (by simp [hGs]) ?_; intro w6 j6 g6 z6; clear z6)
  have N6 : Nw w2 w6 := (NE.out.trans G5.out (fun k hk q => by omega)).trans g6 (fun k hk q => by omega)
  have B0 := (g6.block _ (heap_lt j5) (fun q => by omega)).trans j5
  have HB0 := hid_of B0
  have HA6 : Hid (w6.heap[w.heap.size + 1]? = some (.cells (hbs r) 24)) := (N6.block _ (heap_lt HA2.out) (fun f => f)).trans HA2.out
  have HF6 : Hid (w6.heap[w.heap.size + 2]? = some (.cells #[.int .i64 0, .int .i64 0] 35)) := (N6.block _ (heap_lt HF2.out) (fun f => f)).trans HF2.out
  have N7 : Hid (Nw w w6) := N2.out.tr N6
  have hcG : ∀ j, j < 2 → w6.cell? ⟨w2.heap.size + 1, 0 + j, none⟩ = G[j]? := fun j _ => by rw [Nat.zero_add, cell_of j6]
  have HCG := hid_of hcG
  clear E0 E1 NE E5 G5 g5 g6 j5 j6 N6 B0 HA2 HF2 N2 hcG
  rcases hcd with rfl | rfl | rfl
  · have HGv : G = #[.int .i64 0, .int .i64 0] := HG.out
    subst HGv
    by_cases he : z = r
    · have hd1 : (!decide (z = r)) = false := by rw [decide_eq_true he]; rfl
      have HRR : Hid (D = #[.int .i64 0, .int .i64 0]) := by show _ = _; rw [HD.out, HIC.out, if_pos rfl, if_pos he]; rfl
      clear he HD HIC
      go_wp2_with first
        | refine wple_load_at rfl (.tmp 12) 35 2 rfl Tryd.isAgg35 Tryd.sizeOf35 (w2.heap.size + 1) 0 rfl _ hGs HCG.out ?_
        | refine wple_load_at rfl (.tmp 11) 24 32 rfl Tryd.isAgg24 Tryd.sizeOf24 w2.heap.size 0 rfl (hbs z) hzs (hash_cells HB0.out) ?_
        | refine wple_load_at rfl (.tmp 9) 24 32 rfl Tryd.isAgg24 Tryd.sizeOf24 (w.heap.size + 1) 0 rfl (hbs r) hrs (hash_cells HA6.out) ?_
        | (refine wpl_neqA rfl (.tmp 25) (.tmp 26) rfl z r Z32.out R32.out rfl rfl ?_; rw [hd1])
        | (refine wp_store_agg rfl (.tmp 10) (.tmp 29) 35 2 rfl Tryd.sizeOf35 (w.heap.size + 2) 0 rfl _ 35 HF6.out #[.int .i64 0, .int .i64 0] rfl rfl (by decide) (by decide) #[.int .i64 0, .int .i64 0] rfl ?_; intro w8 j8 f8 z8; clear z8)
      exact bodyPost_ret (results_cell Tryd.results15 Tryd.isAgg35 Tryd.sizeOf35 rfl j8 rfl) rfl ⟨by rw [HRR.out], N7.out.trans f8 (fun k hk q => by omega)⟩
    · have hd1 : (!decide (z = r)) = true := by rw [decide_eq_false he]; rfl
      have HRR : Hid (D = #[.int .i64 10, .int .i64 (-1)]) := by show _ = _; rw [HD.out, HIC.out, if_pos rfl, if_neg he]; rfl
      clear he HD HIC
      go_wp2_with first
        | refine wple_load_at rfl (.tmp 12) 35 2 rfl Tryd.isAgg35 Tryd.sizeOf35 (w2.heap.size + 1) 0 rfl _ hGs HCG.out ?_
        | refine wple_load_at rfl (.tmp 11) 24 32 rfl Tryd.isAgg24 Tryd.sizeOf24 w2.heap.size 0 rfl (hbs z) hzs (hash_cells HB0.out) ?_
        | refine wple_load_at rfl (.tmp 9) 24 32 rfl Tryd.isAgg24 Tryd.sizeOf24 (w.heap.size + 1) 0 rfl (hbs r) hrs (hash_cells HA6.out) ?_
        | (refine wpl_neqA rfl (.tmp 25) (.tmp 26) rfl z r Z32.out R32.out rfl rfl ?_; rw [hd1])
      refine (plain10 _).mono ?_
      rintro e w4 ⟨rfl, n4⟩
      have HF4 : Hid (w4.heap[w.heap.size + 2]? = some (.cells #[.int .i64 0, .int .i64 0] 35)) := (n4.block _ (heap_lt HF6.out) (fun f => f)).trans HF6.out
      have N4 : Hid (Nw w w4) := N7.out.tr n4
      clear n4
      go_wp2_with (refine wp_store_agg rfl (.tmp 10) (.tmp 28) 35 2 rfl Tryd.sizeOf35 (w.heap.size + 2) 0 rfl _ 35 HF4.out #[.int .i64 10, .int .i64 (-1)] rfl rfl (by decide) (by decide) #[.int .i64 10, .int .i64 (-1)] rfl ?_; intro w8 j8 f8 z8; clear z8)
      exact bodyPost_ret (results_cell Tryd.results15 Tryd.isAgg35 Tryd.sizeOf35 rfl j8 rfl) rfl ⟨by rw [HRR.out], N4.out.trans f8 (fun k hk q => by omega)⟩
  · have HGv : G = #[.int .i64 5, .int .i64 (-1)] := HG.out
    subst HGv
    have HRR : Hid (D = #[.int .i64 5, .int .i64 (-1)]) := by show _ = _; rw [HD.out, HIC.out, if_neg (by decide)]; rfl
    clear HD HIC
    go_wp2_with first
      | refine wple_load_at rfl (.tmp 12) 35 2 rfl Tryd.isAgg35 Tryd.sizeOf35 (w2.heap.size + 1) 0 rfl _ hGs HCG.out ?_
      | (refine wp_store_agg rfl (.tmp 10) (.tmp 24) 35 2 rfl Tryd.sizeOf35 (w.heap.size + 2) 0 rfl _ 35 HF6.out #[.int .i64 5, .int .i64 (-1)] rfl rfl (by decide) (by decide) #[.int .i64 5, .int .i64 (-1)] rfl ?_; intro w8 j8 f8 z8; clear z8)
    exact bodyPost_ret (results_cell Tryd.results15 Tryd.isAgg35 Tryd.sizeOf35 rfl j8 rfl) rfl ⟨by rw [HRR.out], N7.out.trans f8 (fun k hk q => by omega)⟩
  · have HGv : G = #[.int .i64 10, .int .i64 (-1)] := HG.out
    subst HGv
    have HRR : Hid (D = #[.int .i64 10, .int .i64 (-1)]) := by show _ = _; rw [HD.out, HIC.out, if_neg (by decide)]; rfl
    clear HD HIC
    go_wp2_with first
      | refine wple_load_at rfl (.tmp 12) 35 2 rfl Tryd.isAgg35 Tryd.sizeOf35 (w2.heap.size + 1) 0 rfl _ hGs HCG.out ?_
      | (refine wp_store_agg rfl (.tmp 10) (.tmp 24) 35 2 rfl Tryd.sizeOf35 (w.heap.size + 2) 0 rfl _ 35 HF6.out #[.int .i64 10, .int .i64 (-1)] rfl rfl (by decide) (by decide) #[.int .i64 10, .int .i64 (-1)] rfl ?_; intro w8 j8 f8 z8; clear z8)
    exact bodyPost_ret (results_cell Tryd.results15 Tryd.isAgg35 Tryd.sizeOf35 rfl j8 rfl) rfl ⟨by rw [HRR.out], N7.out.trans f8 (fun k hk q => by omega)⟩
end Go.Proofs.YtaeocbdphfkflaaDoor
