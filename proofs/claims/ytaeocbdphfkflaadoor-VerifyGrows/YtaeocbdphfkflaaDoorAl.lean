/- The document's sub and Consistency (verify). -/
import Derived.Test.YtaeocbdphfkflaaDoorAk
import Derived.Test.YtaeocbdphfkflaaDoorAj
namespace Go.Proofs.YtaeocbdphfkflaaDoor
open Go.RowKit Go.Shelf
set_option linter.unusedVariables false
set_option linter.unusedSimpArgs false
theorem knb_same (n : Nat) (b : Bool) : knb n n b = b := by unfold knb; rw [gds_same]; simp
theorem rsub18_any (bf : List UInt8) (hbf : bf.length = 32) : ∀ (N n o : Nat) (b : Bool) (L : List (List UInt8)) (ad : Option Addr) (cap : Nat) (w : World), n ≤ N → 1 ≤ o → o ≤ n → n ≤ 9223372036854775808 → L.length = (gds o n).length + (if knb o n b then 0 else 1) → L.length ≤ cap → (∀ y ∈ L, y.length = 32) → Hrs w ad L →
    Calls Tryd.prog 39 #[.int .u64 (o : Int), .int .u64 (n : Int), .bool b, .agg (hbs bf), .slice ad L.length cap] w fun e w' => e = .returned (.tuple #[.agg (hbs (sbA o n b bf L).1), .agg (hbs (sbA o n b bf L).2)]) ∧ Nw w w'
  | 0, n, o, b, L, ad, cap, w, hN, h1, ho, hn2, hl, hc, h32, hr => by omega
  | N + 1, n, o, b, L, ad, cap, w, hN, h1, ho, hn2, hl, hc, h32, hr => by
    by_cases hlt : o < n
    · have h2 : 2 ≤ n := by omega
      have hkl := spl_lt h2
      have hkp := spl_pos n
      have hlen : (gds o n).length ≤ 63 := gds_len 63 n o (Nat.le_trans hn2 (by decide))
      by_cases hp : o ≤ spl n
      · have e := gds_left hlt h2 hp
        have ek := knb_left b hlt h2 hp
        obtain ⟨q, hq⟩ : ∃ q, q = (gds o (spl n)).length + (if knb o (spl n) b then 0 else 1) := ⟨_, rfl⟩
        have hm : L.length = q + 1 := by rw [hl, e, ek, hq]; simp; omega
        have hq64 : q ≤ 64 := by rw [e] at hlen; simp at hlen; rw [hq]; split <;> omega
        obtain ⟨g, o0, y, rfl, hL, hyL, hyc⟩ := hr.last hm
        have hlm : (L.take q).length = q := by rw [List.length_take]; omega
        have h32' : ∀ z ∈ L.take q, z.length = 32 := fun z hz => h32 z (List.mem_of_mem_take hz)
        have ih := fun V (hV : Nw w V) => rsub18_any bf hbf N (spl n) o b (L.take q) (some ⟨g, o0, none⟩) cap V (by omega) h1 hp (by omega) (by rw [hlm]; exact hq) (by omega) h32' ((hr.take _).nw h32' hV)
        have hs := sbA_len (o := o) (n := spl n) (b := b) hbf h32'
        have := sub_left o n (spl n) q b bf _ _ y hbf hs.1 hs.2 (h32 y hyL) g o0 cap w hlt h2 hn2 rfl (by omega) (by omega) hyc hp (fun V hV => by have := ih V hV; rw [hlm] at this; exact this)
        rw [hm]
        rw [show sbA o n b bf L = ((sbA o (spl n) b bf (L.take q)).1, ndp (sbA o (spl n) b bf (L.take q)).2 y) by rw [congrArg (sbA o n b bf) hL, sbA_left hlt h2 hp (by rw [hlm]; exact hq)]]
        exact this
      · have e := gds_right hlt h2 hp
        have ek := knb_right b hlt h2 hp
        obtain ⟨q, hq⟩ : ∃ q, q = (gds (o - spl n) (n - spl n)).length + 1 := ⟨_, rfl⟩
        have hm : L.length = q + 1 := by rw [hl, e, ek, hq]; simp
        have hq64 : q ≤ 64 := by rw [e] at hlen; simp at hlen; omega
        obtain ⟨g, o0, y, rfl, hL, hyL, hyc⟩ := hr.last hm
        have hlm : (L.take q).length = q := by rw [List.length_take]; omega
        have h32' : ∀ z ∈ L.take q, z.length = 32 := fun z hz => h32 z (List.mem_of_mem_take hz)
        have ih := fun V (hV : Nw w V) => rsub18_any bf hbf N (n - spl n) (o - spl n) false (L.take q) (some ⟨g, o0, none⟩) cap V (by omega) (by omega) (by omega) (by omega) (by rw [hlm, knb_false]; exact hq) (by omega) h32' ((hr.take _).nw h32' hV)
        have hs := sbA_len (o := o - spl n) (n := n - spl n) (b := false) hbf h32'
        have := sub_right o n (spl n) q b bf _ _ y hbf hs.1 hs.2 (h32 y hyL) g o0 cap w hlt h2 hn2 rfl (by omega) (by omega) hyc hp (o - spl n) (n - spl n) (by omega) (by omega) (fun V hV => by have := ih V hV; rw [hlm] at this; exact this)
        rw [hm]
        rw [show sbA o n b bf L = (ndp y (sbA (o - spl n) (n - spl n) false bf (L.take q)).1, ndp y (sbA (o - spl n) (n - spl n) false bf (L.take q)).2) by rw [congrArg (sbA o n b bf) hL, sbA_right hlt h2 hp (by rw [hlm]; exact hq)]]
        exact this
    · obtain rfl : o = n := by omega
      rw [gds_same, knb_same] at hl
      cases b
      · obtain ⟨y, rfl⟩ : ∃ y, L = [y] := by
          match L, hl with
          | [y], _ => exact ⟨y, rfl⟩
        obtain ⟨g, o0, rfl, hg⟩ := hr 0 y rfl
        rw [show sbA o o false bf [y] = (y, y) by unfold sbA; rw [knb_same, gds_same]; rfl]
        exact sub_first o bf y hbf (h32 y (by simp)) g o0 cap w (fun j hj => by have := hg j hj; rwa [Nat.zero_mul, Nat.add_zero] at this)
      · obtain rfl : L = [] := List.length_eq_zero_iff.1 (by simpa using hl)
        rw [show sbA o o true bf [] = (bf, bf) by unfold sbA; rw [knb_same, gds_same]; rfl]
        exact sub_one o bf hbf _ w
/-- Consistency's answer by the two roots. -/
theorem ccA_sub {o n : Nat} {bf af : List UInt8} {L : List (List UInt8)} (h : ¬ (9223372036854775808 < n ∨ o = 0 ∨ n < o)) : ccA o n bf af L = if L.length = (gds o n).length + (if knb o n true then 0 else 1) then (if (sbA o n true bf L).1 = bf ∧ (sbA o n true bf L).2 = af then 0 else 10) else 10 := by
  by_cases ht : true ∈ gds o n
  · have hk : knb o n true = false := by unfold knb; simp [ht]
    cases L with
    | nil => rw [ccA_nil h ht, hk]; simp
    | cons f R =>
      rw [ccA_cons h ht, hk]
      unfold ccr sbA
      rw [hk]
      simp only [pkb, List.length_cons, Bool.false_eq_true, if_false, Nat.add_right_cancel_iff, Prod.ext_iff]
      by_cases h1 : R.length = (gds o n).length
      · simp [h1]
      · simp [h1]
  · have hk : knb o n true = true := by unfold knb; simp [ht]
    rw [ccA_whole h ht]
    unfold ccr sbA
    rw [hk]
    simp only [pkb, if_true, Nat.add_zero, Prod.ext_iff]
    by_cases h1 : L.length = (gds o n).length
    · simp [h1]
    · simp [h1]
set_option maxRecDepth 100000 in
set_option maxHeartbeats 2000000 in
theorem rcons_range (o n : Nat) (ho : o < 18446744073709551616) (hn : n < 18446744073709551616) (h : 9223372036854775808 < n ∨ o = 0 ∨ n < o) (bf af : List UInt8) (sl : Value) (w : World) :
    Calls Tryd.prog 18 #[.int .u64 (o : Int), .int .u64 (n : Int), .agg (hbs bf), .agg (hbs af), sl] w fun e w' => e = .returned (.agg #[.int .i64 5, .int .i64 (-1)]) ∧ Nw w w' := by
  have hcase : (9223372036854775808 : Int) < (n : Int) ∨ (¬ (9223372036854775808 : Int) < (n : Int) ∧ (o : Int) = 0) ∨ (¬ (9223372036854775808 : Int) < (n : Int) ∧ ¬ (o : Int) = 0 ∧ (n : Int) < (o : Int)) := by omega
  clear h
  go_enter Tryd.func18, Tryd.ntmps18
  go_upto_region 1 with fail
  obtain ⟨wa, hwa⟩ : ∃ q, w.alloc (.cells (hbs bf) 24) = q := ⟨_, rfl⟩
  have na : Nw w wa := by rw [← hwa]; exact nwa w _
  have xa : wa.heap[w.heap.size]? = some (.cells (hbs bf) 24) := by rw [← hwa]; exact heap_new _ _
  have sa : wa.heap.size = w.heap.size + 1 := by rw [← hwa]; simp
  rw [hwa]
  obtain ⟨wb, hwb⟩ : ∃ q, wa.alloc (.cells (hbs af) 24) = q := ⟨_, rfl⟩
  have nb : Nw wa wb := by rw [← hwb]; exact nwa wa _
  have xb : wb.heap[wa.heap.size]? = some (.cells (hbs af) 24) := by rw [← hwb]; exact heap_new _ _
  have sb : wb.heap.size = w.heap.size + 2 := by rw [← hwb]; simp [sa]
  rw [hwb]
  rw [sa] at xb
  obtain ⟨wc, hwc⟩ : ∃ q, wb.alloc (.cells #[.int .i64 0, .int .i64 0] 35) = q := ⟨_, rfl⟩
  have nc : Nw wb wc := by rw [← hwc]; exact nwa wb _
  have xc : wc.heap[wb.heap.size]? = some (.cells #[.int .i64 0, .int .i64 0] 35) := by rw [← hwc]; exact heap_new _ _
  rw [hwc]
  rw [sb] at xc
  have NC : Hid (Nw w wc) := (na.tr nb).tr nc
  have HX : Hid (wc.heap[w.heap.size]? = some (.cells (hbs bf) 24)) := ((nb.tr nc).block _ (heap_lt xa) (fun f => f)).trans xa
  have HA : Hid (wc.heap[w.heap.size + 1]? = some (.cells (hbs af) 24)) := (nc.block _ (heap_lt xb) (fun f => f)).trans xb
  have HF : Hid (wc.heap[w.heap.size + 2]? = some (.cells #[.int .i64 0, .int .i64 0] 35)) := xc
  clear hwa na xa sa hwb nb xb sb hwc nc xc
  rcases hcase with h1 | ⟨h1, h2⟩ | ⟨h1, h2, h3⟩
  · skip
    go_wp2_with fail
    refine (plain5 _).mono ?_
    rintro e w4 ⟨rfl, n4⟩
    have HF4 : Hid (w4.heap[w.heap.size + 2]? = some (.cells #[.int .i64 0, .int .i64 0] 35)) := (n4.block _ (heap_lt HF.out) (fun f => f)).trans HF.out
    have N4 : Hid (Nw w w4) := NC.out.tr n4
    clear n4
    go_wp2_with (refine wp_store_agg rfl (.tmp 10) (.tmp 24) 35 2 rfl Tryd.sizeOf35 (w.heap.size + 2) 0 rfl _ 35 HF4.out #[.int .i64 5, .int .i64 (-1)] rfl rfl (by decide) (by decide) #[.int .i64 5, .int .i64 (-1)] rfl ?_; intro w6 j6 f6 z6; clear z6)
    exact bodyPost_ret (results_cell Tryd.results18 Tryd.isAgg35 Tryd.sizeOf35 rfl j6 rfl) rfl ⟨rfl, N4.out.trans f6 (fun k hk q => by omega)⟩
  · have h2b : ((o : Int) == 0) = true := by rw [h2]; rfl
    rw [h2] at *
    go_wp2_with fail
    refine (plain5 _).mono ?_
    rintro e w4 ⟨rfl, n4⟩
    have HF4 : Hid (w4.heap[w.heap.size + 2]? = some (.cells #[.int .i64 0, .int .i64 0] 35)) := (n4.block _ (heap_lt HF.out) (fun f => f)).trans HF.out
    have N4 : Hid (Nw w w4) := NC.out.tr n4
    clear n4
    go_wp2_with (refine wp_store_agg rfl (.tmp 10) (.tmp 24) 35 2 rfl Tryd.sizeOf35 (w.heap.size + 2) 0 rfl _ 35 HF4.out #[.int .i64 5, .int .i64 (-1)] rfl rfl (by decide) (by decide) #[.int .i64 5, .int .i64 (-1)] rfl ?_; intro w6 j6 f6 z6; clear z6)
    exact bodyPost_ret (results_cell Tryd.results18 Tryd.isAgg35 Tryd.sizeOf35 rfl j6 rfl) rfl ⟨rfl, N4.out.trans f6 (fun k hk q => by omega)⟩
  · have h2b : ((o : Int) == 0) = false := by simpa using h2
    go_wp2_with fail
    refine (plain5 _).mono ?_
    rintro e w4 ⟨rfl, n4⟩
    have HF4 : Hid (w4.heap[w.heap.size + 2]? = some (.cells #[.int .i64 0, .int .i64 0] 35)) := (n4.block _ (heap_lt HF.out) (fun f => f)).trans HF.out
    have N4 : Hid (Nw w w4) := NC.out.tr n4
    clear n4
    go_wp2_with (refine wp_store_agg rfl (.tmp 10) (.tmp 24) 35 2 rfl Tryd.sizeOf35 (w.heap.size + 2) 0 rfl _ 35 HF4.out #[.int .i64 5, .int .i64 (-1)] rfl rfl (by decide) (by decide) #[.int .i64 5, .int .i64 (-1)] rfl ?_; intro w6 j6 f6 z6; clear z6)
    exact bodyPost_ret (results_cell Tryd.results18 Tryd.isAgg35 Tryd.sizeOf35 rfl j6 rfl) rfl ⟨rfl, N4.out.trans f6 (fun k hk q => by omega)⟩
set_option maxRecDepth 100000 in
set_option maxHeartbeats 2000000 in
theorem rcons_no (o n : Nat) (h : ¬ (9223372036854775808 < n ∨ o = 0 ∨ n < o)) (bf af : List UInt8) (ad : Option Addr) (ln cap : Nat) (w : World) (hl : ¬ ln = (gds o n).length + (if knb o n true then 0 else 1)) :
    Calls Tryd.prog 18 #[.int .u64 (o : Int), .int .u64 (n : Int), .agg (hbs bf), .agg (hbs af), .slice ad ln cap] w fun e w' => e = .returned (.agg #[.int .i64 10, .int .i64 (-1)]) ∧ Nw w w' := by
  have QL := hid_of (fun V => rsteps_any o n (by omega) (by omega) (by omega) V)
  obtain ⟨s, hs⟩ : ∃ s, s = (gds o n).length + (if knb o n true then 0 else 1) := ⟨_, rfl⟩
  rw [← hs] at QL hl
  have hne : ((ln : Int) == (s : Int)) = false := by rw [beq_eq_false_iff_ne]; omega
  have h1 : ¬ (9223372036854775808 : Int) < (n : Int) := by omega
  have h2 : ¬ (n : Int) < (o : Int) := by omega
  have h3 : ((o : Int) == 0) = false := by rw [beq_eq_false_iff_ne]; omega
  clear h hl hs
  go_enter Tryd.func18, Tryd.ntmps18
  go_upto_region 1 with fail
  obtain ⟨wa, hwa⟩ : ∃ q, w.alloc (.cells (hbs bf) 24) = q := ⟨_, rfl⟩
  have na : Nw w wa := by rw [← hwa]; exact nwa w _
  have xa : wa.heap[w.heap.size]? = some (.cells (hbs bf) 24) := by rw [← hwa]; exact heap_new _ _
  have sa : wa.heap.size = w.heap.size + 1 := by rw [← hwa]; simp
  rw [hwa]
  obtain ⟨wb, hwb⟩ : ∃ q, wa.alloc (.cells (hbs af) 24) = q := ⟨_, rfl⟩
  have nb : Nw wa wb := by rw [← hwb]; exact nwa wa _
  have xb : wb.heap[wa.heap.size]? = some (.cells (hbs af) 24) := by rw [← hwb]; exact heap_new _ _
  have sb : wb.heap.size = w.heap.size + 2 := by rw [← hwb]; simp [sa]
  rw [hwb]
  rw [sa] at xb
  obtain ⟨wc, hwc⟩ : ∃ q, wb.alloc (.cells #[.int .i64 0, .int .i64 0] 35) = q := ⟨_, rfl⟩
  have nc : Nw wb wc := by rw [← hwc]; exact nwa wb _
  have xc : wc.heap[wb.heap.size]? = some (.cells #[.int .i64 0, .int .i64 0] 35) := by rw [← hwc]; exact heap_new _ _
  rw [hwc]
  rw [sb] at xc
  have NC : Hid (Nw w wc) := (na.tr nb).tr nc
  have HX : Hid (wc.heap[w.heap.size]? = some (.cells (hbs bf) 24)) := ((nb.tr nc).block _ (heap_lt xa) (fun f => f)).trans xa
  have HA : Hid (wc.heap[w.heap.size + 1]? = some (.cells (hbs af) 24)) := (nc.block _ (heap_lt xb) (fun f => f)).trans xb
  have HF : Hid (wc.heap[w.heap.size + 2]? = some (.cells #[.int .i64 0, .int .i64 0] 35)) := xc
  clear hwa na xa sa hwb nb xb sb hwc nc xc
  go_wp2_with fail
  refine (QL.out _).mono ?_
  rintro e w3 ⟨rfl, h4⟩
  obtain rfl : wc = w3 := h4.symm
  clear h4
  go_wp2_with fail
  refine (plain10 _).mono ?_
  rintro e w4 ⟨rfl, n4⟩
  have HF4 : Hid (w4.heap[w.heap.size + 2]? = some (.cells #[.int .i64 0, .int .i64 0] 35)) := (n4.block _ (heap_lt HF.out) (fun f => f)).trans HF.out
  have N4 : Hid (Nw w w4) := NC.out.tr n4
  clear n4
  go_wp2_with (refine wp_store_agg rfl (.tmp 10) (.tmp 31) 35 2 rfl Tryd.sizeOf35 (w.heap.size + 2) 0 rfl _ 35 HF4.out #[.int .i64 10, .int .i64 (-1)] rfl rfl (by decide) (by decide) #[.int .i64 10, .int .i64 (-1)] rfl ?_; intro w6 j6 f6 z6; clear z6)
  exact bodyPost_ret (results_cell Tryd.results18 Tryd.isAgg35 Tryd.sizeOf35 rfl j6 rfl) rfl ⟨rfl, N4.out.trans f6 (fun k hk q => by omega)⟩
set_option maxRecDepth 100000 in
set_option maxHeartbeats 4000000 in
theorem rcons_yes (o n : Nat) (h : ¬ (9223372036854775808 < n ∨ o = 0 ∨ n < o)) (bf af : List UInt8) (hbf : bf.length = 32) (haf : af.length = 32) (L : List (List UInt8)) (hL32 : ∀ y ∈ L, y.length = 32) (ad : Option Addr) (cap : Nat) (hcap : L.length ≤ cap) (w : World) (hr : Hrs w ad L) (hl : L.length = (gds o n).length + (if knb o n true then 0 else 1)) :
    Calls Tryd.prog 18 #[.int .u64 (o : Int), .int .u64 (n : Int), .agg (hbs bf), .agg (hbs af), .slice ad L.length cap] w fun e w' => e = .returned (.agg (dfa (if (sbA o n true bf L).1 = bf ∧ (sbA o n true bf L).2 = af then 0 else 10))) ∧ Nw w w' := by
  have QL := hid_of (fun V => rsteps_any o n (by omega) (by omega) (by omega) V)
  have QS0 : ∀ V, Nw w V → Calls Tryd.prog 39 #[.int .u64 (o : Int), .int .u64 (n : Int), .bool true, .agg (hbs bf), .slice ad L.length cap] V fun e w' => e = .returned (.tuple #[.agg (hbs (sbA o n true bf L).1), .agg (hbs (sbA o n true bf L).2)]) ∧ Nw V w' := fun V nV => rsub18_any bf hbf n n o true L ad cap V (Nat.le_refl _) (by omega) (by omega) (by omega) hl hcap hL32 (hr.nw hL32 nV)
  have QS := hid_of QS0
  have hzl := sbA_len (o := o) (n := n) (b := true) hbf hL32
  obtain ⟨X, hX⟩ : ∃ z, z = (sbA o n true bf L).1 := ⟨_, rfl⟩
  obtain ⟨Y, hY⟩ : ∃ z, z = (sbA o n true bf L).2 := ⟨_, rfl⟩
  rw [← hX, ← hY] at QS hzl ⊢
  obtain ⟨D, hD⟩ : ∃ d, d = dfa (if X = bf ∧ Y = af then 0 else 10) := ⟨_, rfl⟩
  have HD := hid_of hD
  rw [← hD]
  have HX32 := hid_of hzl.1
  have HY32 := hid_of hzl.2
  have HBF := hid_of hbf
  have HAF := hid_of haf
  have hXs : (hbs X).size = 32 := by rw [hbs_size, hzl.1]
  have hYs : (hbs Y).size = 32 := by rw [hbs_size, hzl.2]
  have hbfs : (hbs bf).size = 32 := by rw [hbs_size, hbf]
  have hafs : (hbs af).size = 32 := by rw [hbs_size, haf]
  rw [← hl] at QL
  obtain ⟨ln, hln⟩ : ∃ q, q = L.length := ⟨_, rfl⟩
  rw [← hln] at QS QL ⊢
  have h1 : ¬ (9223372036854775808 : Int) < (n : Int) := by omega
  have h2 : ¬ (n : Int) < (o : Int) := by omega
  have h3 : ((o : Int) == 0) = false := by rw [beq_eq_false_iff_ne]; omega
  clear hD h hl hln hX hY QS0 hr hL32 hcap hzl hbf haf
  go_enter Tryd.func18, Tryd.ntmps18
  go_upto_region 1 with fail
  obtain ⟨wa, hwa⟩ : ∃ q, w.alloc (.cells (hbs bf) 24) = q := ⟨_, rfl⟩
  have na : Nw w wa := by rw [← hwa]; exact nwa w _
  have xa : wa.heap[w.heap.size]? = some (.cells (hbs bf) 24) := by rw [← hwa]; exact heap_new _ _
  have sa : wa.heap.size = w.heap.size + 1 := by rw [← hwa]; simp
  rw [hwa]
  obtain ⟨wb, hwb⟩ : ∃ q, wa.alloc (.cells (hbs af) 24) = q := ⟨_, rfl⟩
  have nb : Nw wa wb := by rw [← hwb]; exact nwa wa _
  have xb : wb.heap[wa.heap.size]? = some (.cells (hbs af) 24) := by rw [← hwb]; exact heap_new _ _
  have sb : wb.heap.size = w.heap.size + 2 := by rw [← hwb]; simp [sa]
  rw [hwb]
  rw [sa] at xb
  obtain ⟨wc, hwc⟩ : ∃ q, wb.alloc (.cells #[.int .i64 0, .int .i64 0] 35) = q := ⟨_, rfl⟩
  have nc : Nw wb wc := by rw [← hwc]; exact nwa wb _
  have xc : wc.heap[wb.heap.size]? = some (.cells #[.int .i64 0, .int .i64 0] 35) := by rw [← hwc]; exact heap_new _ _
  rw [hwc]
  rw [sb] at xc
  have NC : Hid (Nw w wc) := (na.tr nb).tr nc
  have HX : Hid (wc.heap[w.heap.size]? = some (.cells (hbs bf) 24)) := ((nb.tr nc).block _ (heap_lt xa) (fun f => f)).trans xa
  have HA : Hid (wc.heap[w.heap.size + 1]? = some (.cells (hbs af) 24)) := (nc.block _ (heap_lt xb) (fun f => f)).trans xb
  have HF : Hid (wc.heap[w.heap.size + 2]? = some (.cells #[.int .i64 0, .int .i64 0] 35)) := xc
  clear hwa na xa sa hwb nb xb sb hwc nc xc
  go_wp2_with fail
  refine (QL.out _).mono ?_
  rintro e w3 ⟨rfl, h4⟩
  obtain rfl : wc = w3 := h4.symm
  clear h4
  go_wp2_with (refine wple_load_at rfl (.tmp 7) 24 32 rfl Tryd.isAgg24 Tryd.sizeOf24 w.heap.size 0 rfl (hbs bf) hbfs (hash_cells HX.out) ?_)
  refine (QS.out _ NC.out).mono ?_
  rintro e w4 ⟨rfl, n4⟩
  have HX4 : Hid (w4.heap[w.heap.size]? = some (.cells (hbs bf) 24)) := (n4.block _ (heap_lt HX.out) (fun f => f)).trans HX.out
  have HA4 : Hid (w4.heap[w.heap.size + 1]? = some (.cells (hbs af) 24)) := (n4.block _ (heap_lt HA.out) (fun f => f)).trans HA.out
  have HF4 : Hid (w4.heap[w.heap.size + 2]? = some (.cells #[.int .i64 0, .int .i64 0] 35)) := (n4.block _ (heap_lt HF.out) (fun f => f)).trans HF.out
  have N4 : Hid (Nw w w4) := NC.out.tr n4
  clear n4 HX HA HF NC
  have e1 := heap_next w4 (.cells z32 24) (.cells z32 24)
  have e0 : ((w4.alloc (.cells z32 24)).alloc (.cells z32 24)).heap[w4.heap.size]? = some (.cells z32 24) := ((nwa (w4.alloc (.cells z32 24)) _).block _ (heap_lt (heap_new _ _)) (fun f => f)).trans (heap_new _ _)
  have nE : Nw w4 ((w4.alloc (.cells z32 24)).alloc (.cells z32 24)) := (nwa w4 _).alloc _
  have E0 := hid_of e0
  have E1 := hid_of e1
  have NE := hid_of nE
  clear e0 e1 nE
  go_upto_region 6 with first
    | (refine wp_store_agg rfl (.tmp 11) (.tmp 38) 24 32 rfl Tryd.sizeOf24 w4.heap.size 0 rfl z32 24 (by rw [← z32_h] at E0; exact E0.out) (hbs X) rfl hXs (hbs_one _) (by decide) (hbs X) (by rw [dropA z32_size]; simp) ?_; intro w5 j5 f5 z5; clear z5; have E5 : Hid (w5.heap[w4.heap.size + 1]? = some (.cells z32 24)) := (f5.block _ (by rw [z32_h]; exact heap_lt E1.out) (fun q => by omega)).trans (by rw [z32_h]; exact E1.out); have G5 : Hid (Fr (fun k => k = w4.heap.size) ((w4.alloc (.cells z32 24)).alloc (.cells z32 24)) w5) := (by rw [← z32_h]; exact f5))
    | (refine wp_store_agg rfl (.tmp 12) (.tmp 39) 24 32 rfl Tryd.sizeOf24 (w4.heap.size + 1) 0 rfl z32 24 E5.out (hbs Y) rfl hYs (hbs_one _) (by decide) (hbs Y) (by rw [dropA z32_size]; simp) ?_; intro w6 j6 f6 z6; clear z6)
  have N6 : Nw w4 w6 := (NE.out.trans G5.out (fun k hk q => by omega)).trans f6 (fun k hk q => by omega)
  have B0 := (f6.block _ (heap_lt j5) (fun q => by omega)).trans j5
  have HB0 := hid_of B0
  have HB1 := hid_of j6
  have HX6 : Hid (w6.heap[w.heap.size]? = some (.cells (hbs bf) 24)) := (N6.block _ (heap_lt HX4.out) (fun f => f)).trans HX4.out
  have HA6 : Hid (w6.heap[w.heap.size + 1]? = some (.cells (hbs af) 24)) := (N6.block _ (heap_lt HA4.out) (fun f => f)).trans HA4.out
  have HF6 : Hid (w6.heap[w.heap.size + 2]? = some (.cells #[.int .i64 0, .int .i64 0] 35)) := (N6.block _ (heap_lt HF4.out) (fun f => f)).trans HF4.out
  have N7 : Hid (Nw w w6) := N4.out.tr N6
  clear E0 E1 NE E5 G5 f5 f6 j5 j6 N6 B0 HX4 HA4 HF4 N4
  have H10 : dfa 10 = #[.int .i64 10, .int .i64 (-1)] := rfl
  have H00 : dfa 0 = #[.int .i64 0, .int .i64 0] := rfl
  by_cases hx : X = bf
  · have hd1 : (!decide (X = bf)) = false := by rw [decide_eq_true hx]; rfl
    by_cases hy : Y = af
    · have hd2 : (!decide (Y = af)) = false := by rw [decide_eq_true hy]; rfl
      have HRR : Hid (D = #[.int .i64 0, .int .i64 0]) := by show _ = _; rw [HD.out, if_pos ⟨hx, hy⟩]; rfl
      clear hx hy H10 H00
      go_wp2_with first
        | refine wpl_loadN (by kernel_rfl) (.tmp 11) 24 32 rfl Tryd.isAgg24 Tryd.sizeOf24 w4.heap.size 0 rfl (hbs X) hXs (hash_cells HB0.out) ?_
        | refine wpl_loadN (by kernel_rfl) (.tmp 7) 24 32 rfl Tryd.isAgg24 Tryd.sizeOf24 w.heap.size 0 rfl (hbs bf) hbfs (hash_cells HX6.out) ?_
        | (refine wpl_neqA (by kernel_rfl) (.tmp 40) (.tmp 41) rfl X bf HX32.out HBF.out rfl rfl ?_; rw [hd1])
        | refine wpl_loadN (by kernel_rfl) (.tmp 12) 24 32 rfl Tryd.isAgg24 Tryd.sizeOf24 (w4.heap.size + 1) 0 rfl (hbs Y) hYs (hash_cells HB1.out) ?_
        | refine wpl_loadN (by kernel_rfl) (.tmp 8) 24 32 rfl Tryd.isAgg24 Tryd.sizeOf24 (w.heap.size + 1) 0 rfl (hbs af) hafs (hash_cells HA6.out) ?_
        | (refine wpl_neqA (by kernel_rfl) (.tmp 44) (.tmp 45) rfl Y af HY32.out HAF.out rfl rfl ?_; rw [hd2])
        | (refine wp_store_agg rfl (.tmp 10) (.tmp 49) 35 2 rfl Tryd.sizeOf35 (w.heap.size + 2) 0 rfl _ 35 HF6.out #[.int .i64 0, .int .i64 0] rfl rfl (by decide) (by decide) #[.int .i64 0, .int .i64 0] rfl ?_; intro w8 j8 f8 z8; clear z8)
      exact bodyPost_ret (results_cell Tryd.results18 Tryd.isAgg35 Tryd.sizeOf35 rfl j8 rfl) rfl ⟨by rw [HRR.out], N7.out.trans f8 (fun k hk q => by omega)⟩
    · have hd2 : (!decide (Y = af)) = true := by rw [decide_eq_false hy]; rfl
      have HRR : Hid (D = #[.int .i64 10, .int .i64 (-1)]) := by show _ = _; rw [HD.out, if_neg (fun q => hy q.2)]; rfl
      clear hx hy H10 H00
      go_wp2_with first
        | refine wpl_loadN (by kernel_rfl) (.tmp 11) 24 32 rfl Tryd.isAgg24 Tryd.sizeOf24 w4.heap.size 0 rfl (hbs X) hXs (hash_cells HB0.out) ?_
        | refine wpl_loadN (by kernel_rfl) (.tmp 7) 24 32 rfl Tryd.isAgg24 Tryd.sizeOf24 w.heap.size 0 rfl (hbs bf) hbfs (hash_cells HX6.out) ?_
        | (refine wpl_neqA (by kernel_rfl) (.tmp 40) (.tmp 41) rfl X bf HX32.out HBF.out rfl rfl ?_; rw [hd1])
        | refine wpl_loadN (by kernel_rfl) (.tmp 12) 24 32 rfl Tryd.isAgg24 Tryd.sizeOf24 (w4.heap.size + 1) 0 rfl (hbs Y) hYs (hash_cells HB1.out) ?_
        | refine wpl_loadN (by kernel_rfl) (.tmp 8) 24 32 rfl Tryd.isAgg24 Tryd.sizeOf24 (w.heap.size + 1) 0 rfl (hbs af) hafs (hash_cells HA6.out) ?_
        | (refine wpl_neqA (by kernel_rfl) (.tmp 44) (.tmp 45) rfl Y af HY32.out HAF.out rfl rfl ?_; rw [hd2])
      refine (plain10 _).mono ?_
      rintro e w4 ⟨rfl, n4⟩
      have HF4 : Hid (w4.heap[w.heap.size + 2]? = some (.cells #[.int .i64 0, .int .i64 0] 35)) := (n4.block _ (heap_lt HF6.out) (fun f => f)).trans HF6.out
      have N4 : Hid (Nw w w4) := N7.out.tr n4
      clear n4
      go_wp2_with (refine wp_store_agg rfl (.tmp 10) (.tmp 48) 35 2 rfl Tryd.sizeOf35 (w.heap.size + 2) 0 rfl _ 35 HF4.out #[.int .i64 10, .int .i64 (-1)] rfl rfl (by decide) (by decide) #[.int .i64 10, .int .i64 (-1)] rfl ?_; intro w6 j6 f6 z6; clear z6)
      exact bodyPost_ret (results_cell Tryd.results18 Tryd.isAgg35 Tryd.sizeOf35 rfl j6 rfl) rfl ⟨by rw [HRR.out], N4.out.trans f6 (fun k hk q => by omega)⟩
  · have hd1 : (!decide (X = bf)) = true := by rw [decide_eq_false hx]; rfl
    have HRR : Hid (D = #[.int .i64 10, .int .i64 (-1)]) := by show _ = _; rw [HD.out, if_neg (fun q => hx q.1)]; rfl
    have hd2 : True := trivial
    clear hx H10 H00
    go_wp2_with first
      | refine wpl_loadN (by kernel_rfl) (.tmp 11) 24 32 rfl Tryd.isAgg24 Tryd.sizeOf24 w4.heap.size 0 rfl (hbs X) hXs (hash_cells HB0.out) ?_
      | refine wpl_loadN (by kernel_rfl) (.tmp 7) 24 32 rfl Tryd.isAgg24 Tryd.sizeOf24 w.heap.size 0 rfl (hbs bf) hbfs (hash_cells HX6.out) ?_
      | (refine wpl_neqA (by kernel_rfl) (.tmp 40) (.tmp 41) rfl X bf HX32.out HBF.out rfl rfl ?_; rw [hd1])
    refine (plain10 _).mono ?_
    rintro e w4 ⟨rfl, n4⟩
    have HF4 : Hid (w4.heap[w.heap.size + 2]? = some (.cells #[.int .i64 0, .int .i64 0] 35)) := (n4.block _ (heap_lt HF6.out) (fun f => f)).trans HF6.out
    have N4 : Hid (Nw w w4) := N7.out.tr n4
    clear n4
    go_wp2_with (refine wp_store_agg rfl (.tmp 10) (.tmp 48) 35 2 rfl Tryd.sizeOf35 (w.heap.size + 2) 0 rfl _ 35 HF4.out #[.int .i64 10, .int .i64 (-1)] rfl rfl (by decide) (by decide) #[.int .i64 10, .int .i64 (-1)] rfl ?_; intro w6 j6 f6 z6; clear z6)
    exact bodyPost_ret (results_cell Tryd.results18 Tryd.isAgg35 Tryd.sizeOf35 rfl j6 rfl) rfl ⟨by rw [HRR.out], N4.out.trans f6 (fun k hk q => by omega)⟩
theorem rcons_any (o n : Nat) (ho : o < 18446744073709551616) (hn : n < 18446744073709551616) (bf af : List UInt8) (hbf : bf.length = 32) (haf : af.length = 32) (L : List (List UInt8)) (hL32 : ∀ y ∈ L, y.length = 32) (ad : Option Addr) (cap : Nat) (hcap : L.length ≤ cap) (w : World) (hr : Hrs w ad L) :
    Calls Tryd.prog 18 #[.int .u64 (o : Int), .int .u64 (n : Int), .agg (hbs bf), .agg (hbs af), .slice ad L.length cap] w fun e w' => e = .returned (.agg (dfa (ccA o n bf af L))) ∧ Nw w w' := by
  by_cases h : 9223372036854775808 < n ∨ o = 0 ∨ n < o
  · rw [ccA_range h]
    exact rcons_range o n ho hn h bf af _ w
  · rw [ccA_sub h]
    by_cases hl : L.length = (gds o n).length + (if knb o n true then 0 else 1)
    · rw [if_pos hl]
      exact rcons_yes o n h bf af hbf haf L hL32 ad cap hcap w hr hl
    · rw [if_neg hl]
      exact rcons_no o n h bf af ad L.length cap w hl
end Go.Proofs.YtaeocbdphfkflaaDoor
