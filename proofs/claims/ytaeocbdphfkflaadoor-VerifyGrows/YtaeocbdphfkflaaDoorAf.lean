/- The document's Root and Inclusion (verify). -/
import Derived.Test.YtaeocbdphfkflaaDoorAe
namespace Go.Proofs.YtaeocbdphfkflaaDoor
open Go.RowKit Go.Shelf
set_option linter.unusedVariables false
set_option linter.unusedSimpArgs false
theorem results_cellsV {P : Program} {w : World} {fn : Func} {i j : Nat} {t u : TypeId} {n m g k : Nat} {tmps : Array Value} {V U : Array Value} {ty tz : TypeId} {f f2 : Nat × Nat} (hr : fn.results = #[.cell i t, .cell j u]) (hagg : ∀ W : World, (isAgg t).run P W = .ok true W) (hsz : ∀ W : World, (sizeOf t).run P W = .ok n W)
    (hagg2 : ∀ W : World, (isAgg u).run P W = .ok true W) (hsz2 : ∀ W : World, (sizeOf u).run P W = .ok m W)
    (hx : tmps.getD i undef = .pointer (some ⟨g, 0, none⟩)) (hy : tmps.getD j undef = .pointer (some ⟨k, 0, none⟩)) (hg : w.heap[g]? = some (.cells V ty f)) (hV : V.size = n) (hk : w.heap[k]? = some (.cells U tz f2)) (hU : U.size = m) : (results fn tmps).run P w = .ok (.tuple #[.agg V, .agg U]) w := by
  have hl : (loadCells ⟨g, 0, none⟩ n).run P w = .ok V w := by
    have := run_loadCells_list (P := P) w ⟨g, 0, none⟩ V.toList (fun j v hv => by
      rw [addZ, cell_of hg]
      simpa using hv)
    simpa [hV] using this
  have hl2 : (loadCells ⟨k, 0, none⟩ m).run P w = .ok U w := by
    have := run_loadCells_list (P := P) w ⟨k, 0, none⟩ U.toList (fun j v hv => by
      rw [addZ, cell_of hk]
      simpa using hv)
    simpa [hU] using this
  have ha : ∀ (W : World) (q : Nat), (asAddr (.pointer (some ⟨q, 0, none⟩))).run P W = .ok ⟨q, 0, none⟩ W := fun W q => by simp [asAddr]
  have hx2 : tmps[i]?.getD undef = .pointer (some ⟨g, 0, none⟩) := by rw [← hx]; simp [Array.getD]; split <;> simp_all
  have hy2 : tmps[j]?.getD undef = .pointer (some ⟨k, 0, none⟩) := by rw [← hy]; simp [Array.getD]; split <;> simp_all
  simp [results, hr, hx2, hy2, ha, loadVar, hagg, hsz, hl, hagg2, hsz2, hl2]
/-- The document's error by its number. -/
def dfa (c : Nat) : Array Value := if c = 0 then #[.int .i64 0, .int .i64 0] else #[.int .i64 (c : Int), .int .i64 (-1)]
theorem fneq5 (w : World) : (binOp .neq 35 (.agg #[.int .i64 5, .int .i64 (-1)]) (.agg #[.int .i64 0, .int .i64 0])).run Tryd.prog w = .ok (.bool true) w := by kernel_rfl
theorem fneq10 (w : World) : (binOp .neq 35 (.agg #[.int .i64 10, .int .i64 (-1)]) (.agg #[.int .i64 0, .int .i64 0])).run Tryd.prog w = .ok (.bool true) w := by kernel_rfl
theorem fneq0 (w : World) : (binOp .neq 35 (.agg #[.int .i64 0, .int .i64 0]) (.agg #[.int .i64 0, .int .i64 0])).run Tryd.prog w = .ok (.bool false) w := by kernel_rfl
theorem plain5 (w : World) : Calls Tryd.prog 32 #[.int .i64 5] w fun e w' => e = .returned (.agg #[.int .i64 5, .int .i64 (-1)]) ∧ Nw w w' := plain_any 5 w (by decide)
theorem plain10 (w : World) : Calls Tryd.prog 32 #[.int .i64 10] w fun e w' => e = .returned (.agg #[.int .i64 10, .int .i64 (-1)]) ∧ Nw w w' := plain_any 10 w (by decide)
theorem build_zeroV (W : World) : (Instr.build 24 #[]).run Tryd.prog W = .ok (.agg z32) W := by kernel_rfl
section
variable {w : World} {ops : Array Oper} {rest : List Oper} {o : Oper} {a : Act} {Q : Exit → Act → World → Prop}
theorem wpl_zeroV (hwant : Region.wanted o (yielded ops a.tmps) = true) (ho : o.op = .build 24 #[])
    (h : wpList Tryd.prog ops Q rest (a.put o.dst (.agg z32)) w) : wpList Tryd.prog ops Q (o :: rest) a w := by
  refine wpList_step fun K hK => ?_
  rw [if_pos hwant]
  unfold Oper.wp execOp
  simp only [ho, Sem.run_bind, Sem.run_pure, Result.andThen_ok, List.map_toArray, List.map_nil, build_zeroV w]
  exact hK _ _ h
end
set_option maxRecDepth 100000 in
set_option maxHeartbeats 2000000 in
theorem rroot_range (i n : Nat) (hi : i < 18446744073709551616) (hn : n < 18446744073709551616) (h : 9223372036854775808 < n ∨ n ≤ i) (x : List UInt8) (hx : x.length = 32) (sl : Value) (w : World) :
    Calls Tryd.prog 11 #[.int .u64 (i : Int), .int .u64 (n : Int), .agg (hbs x), sl] w fun e w' => e = .returned (.tuple #[.agg z32, .agg #[.int .i64 5, .int .i64 (-1)]]) ∧ Nw w w' := by
  obtain ⟨X, hX⟩ : ∃ X, X = hbs x := ⟨_, rfl⟩
  have hXs : X.size = 32 := by rw [hX, hbs_size, hx]
  rw [← hX]
  have hcase : (9223372036854775808 : Int) < (n : Int) ∨ (¬ (9223372036854775808 : Int) < (n : Int) ∧ (n : Int) ≤ (i : Int)) := by omega
  clear hX hx h
  go_enter Tryd.func11, Tryd.ntmps11
  go_upto_region 1 with fail
  rw [z32_h]
  obtain ⟨wa, hwa⟩ : ∃ q, w.alloc (.cells X 24) = q := ⟨_, rfl⟩
  have na : Nw w wa := by rw [← hwa]; exact nwa w _
  have xa : wa.heap[w.heap.size]? = some (.cells X 24) := by rw [← hwa]; exact heap_new _ _
  have sa : wa.heap.size = w.heap.size + 1 := by rw [← hwa]; simp
  rw [hwa]
  obtain ⟨wb, hwb⟩ : ∃ q, wa.alloc (.cells z32 24) = q := ⟨_, rfl⟩
  have nb : Nw wa wb := by rw [← hwb]; exact nwa wa _
  have xb : wb.heap[wa.heap.size]? = some (.cells z32 24) := by rw [← hwb]; exact heap_new _ _
  have sb : wb.heap.size = w.heap.size + 2 := by rw [← hwb]; simp [sa]
  rw [hwb]
  rw [sa] at xb
  obtain ⟨wc, hwc⟩ : ∃ q, wb.alloc (.cells #[.int .i64 0, .int .i64 0] 35) = q := ⟨_, rfl⟩
  have nc : Nw wb wc := by rw [← hwc]; exact nwa wb _
  have xc : wc.heap[wb.heap.size]? = some (.cells #[.int .i64 0, .int .i64 0] 35) := by rw [← hwc]; exact heap_new _ _
  rw [hwc]
  rw [sb] at xc
  have NC : Hid (Nw w wc) := (na.tr nb).tr nc
  have HX : Hid (wc.heap[w.heap.size]? = some (.cells X 24)) := ((nb.tr nc).block _ (heap_lt xa) (fun f => f)).trans xa
  have HR : Hid (wc.heap[w.heap.size + 1]? = some (.cells z32 24)) := (nc.block _ (heap_lt xb) (fun f => f)).trans xb
  have HF : Hid (wc.heap[w.heap.size + 2]? = some (.cells #[.int .i64 0, .int .i64 0] 35)) := xc
  clear hwa na xa sa hwb nb xb sb hwc nc xc
  rcases hcase with h1 | ⟨h1, h2⟩
  · skip
    go_wp2_with first
      | refine wpl_zeroV rfl rfl ?_
    refine (plain5 _).mono ?_
    rintro e w4 ⟨rfl, n4⟩
    have HR4 : Hid (w4.heap[w.heap.size + 1]? = some (.cells z32 24)) := (n4.block _ (heap_lt HR.out) (fun f => f)).trans HR.out
    have HF4 : Hid (w4.heap[w.heap.size + 2]? = some (.cells #[.int .i64 0, .int .i64 0] 35)) := (n4.block _ (heap_lt HF.out) (fun f => f)).trans HF.out
    have N4 : Hid (Nw w w4) := NC.out.tr n4
    clear n4
    go_wp2_with first
      | (refine wp_store_agg rfl (.tmp 8) (.tmp 17) 24 32 rfl Tryd.sizeOf24 (w.heap.size + 1) 0 rfl z32 24 HR4.out z32 rfl z32_size z32_one (by decide) z32 (by rw [dropA z32_size]; simp) ?_; intro w5 j5 f5 z5; clear z5; have HF5 := (f5.block _ (heap_lt HF4.out) (fun q => by omega)).trans HF4.out)
      | (refine wp_store_agg rfl (.tmp 9) (.tmp 18) 35 2 rfl Tryd.sizeOf35 (w.heap.size + 2) 0 rfl _ 35 HF5 #[.int .i64 5, .int .i64 (-1)] rfl rfl (by decide) (by decide) #[.int .i64 5, .int .i64 (-1)] rfl ?_; intro w6 j6 f6 z6; clear z6)
    have j5' := (f6.block _ (heap_lt j5) (fun q => by omega)).trans j5
    exact bodyPost_ret (results_cellsV Tryd.results11 Tryd.isAgg24 Tryd.sizeOf24 Tryd.isAgg35 Tryd.sizeOf35 rfl rfl j5' z32_size j6 rfl) rfl ⟨rfl, (N4.out.trans f5 (fun k hk q => by omega)).trans f6 (fun k hk q => by omega)⟩
  · skip
    go_wp2_with first
      | refine wpl_zeroV rfl rfl ?_
    refine (plain5 _).mono ?_
    rintro e w4 ⟨rfl, n4⟩
    have HR4 : Hid (w4.heap[w.heap.size + 1]? = some (.cells z32 24)) := (n4.block _ (heap_lt HR.out) (fun f => f)).trans HR.out
    have HF4 : Hid (w4.heap[w.heap.size + 2]? = some (.cells #[.int .i64 0, .int .i64 0] 35)) := (n4.block _ (heap_lt HF.out) (fun f => f)).trans HF.out
    have N4 : Hid (Nw w w4) := NC.out.tr n4
    clear n4
    go_wp2_with first
      | (refine wp_store_agg rfl (.tmp 8) (.tmp 17) 24 32 rfl Tryd.sizeOf24 (w.heap.size + 1) 0 rfl z32 24 HR4.out z32 rfl z32_size z32_one (by decide) z32 (by rw [dropA z32_size]; simp) ?_; intro w5 j5 f5 z5; clear z5; have HF5 := (f5.block _ (heap_lt HF4.out) (fun q => by omega)).trans HF4.out)
      | (refine wp_store_agg rfl (.tmp 9) (.tmp 18) 35 2 rfl Tryd.sizeOf35 (w.heap.size + 2) 0 rfl _ 35 HF5 #[.int .i64 5, .int .i64 (-1)] rfl rfl (by decide) (by decide) #[.int .i64 5, .int .i64 (-1)] rfl ?_; intro w6 j6 f6 z6; clear z6)
    have j5' := (f6.block _ (heap_lt j5) (fun q => by omega)).trans j5
    exact bodyPost_ret (results_cellsV Tryd.results11 Tryd.isAgg24 Tryd.sizeOf24 Tryd.isAgg35 Tryd.sizeOf35 rfl rfl j5' z32_size j6 rfl) rfl ⟨rfl, (N4.out.trans f5 (fun k hk q => by omega)).trans f6 (fun k hk q => by omega)⟩
set_option maxRecDepth 100000 in
set_option maxHeartbeats 2000000 in
theorem rroot_no (i n : Nat) (h : ¬ (9223372036854775808 < n ∨ n ≤ i)) (x : List UInt8) (hx : x.length = 32) (ad : Option Addr) (ln cap : Nat) (w : World) (hl : ¬ ln = (sds i n).length) :
    Calls Tryd.prog 11 #[.int .u64 (i : Int), .int .u64 (n : Int), .agg (hbs x), .slice ad ln cap] w fun e w' => e = .returned (.tuple #[.agg z32, .agg #[.int .i64 10, .int .i64 (-1)]]) ∧ Nw w w' := by
  obtain ⟨X, hX⟩ : ∃ X, X = hbs x := ⟨_, rfl⟩
  have hXs : X.size = 32 := by rw [hX, hbs_size, hx]
  rw [← hX]
  have QL := hid_of (fun V => rlong_any i n (by omega) (by omega) V)
  have hne : (((ln : Nat) : Int) == (((sds i n).length : Nat) : Int)) = false := by rw [beq_eq_false_iff_ne]; omega
  obtain ⟨s, hs⟩ : ∃ s, s = (sds i n).length := ⟨_, rfl⟩
  rw [← hs] at QL hne
  have h1 : ¬ (9223372036854775808 : Int) < (n : Int) := by omega
  have h2 : ¬ (n : Int) ≤ (i : Int) := by omega
  clear hX hx h hl hs
  go_enter Tryd.func11, Tryd.ntmps11
  go_upto_region 1 with fail
  rw [z32_h]
  obtain ⟨wa, hwa⟩ : ∃ q, w.alloc (.cells X 24) = q := ⟨_, rfl⟩
  have na : Nw w wa := by rw [← hwa]; exact nwa w _
  have xa : wa.heap[w.heap.size]? = some (.cells X 24) := by rw [← hwa]; exact heap_new _ _
  have sa : wa.heap.size = w.heap.size + 1 := by rw [← hwa]; simp
  rw [hwa]
  obtain ⟨wb, hwb⟩ : ∃ q, wa.alloc (.cells z32 24) = q := ⟨_, rfl⟩
  have nb : Nw wa wb := by rw [← hwb]; exact nwa wa _
  have xb : wb.heap[wa.heap.size]? = some (.cells z32 24) := by rw [← hwb]; exact heap_new _ _
  have sb : wb.heap.size = w.heap.size + 2 := by rw [← hwb]; simp [sa]
  rw [hwb]
  rw [sa] at xb
  obtain ⟨wc, hwc⟩ : ∃ q, wb.alloc (.cells #[.int .i64 0, .int .i64 0] 35) = q := ⟨_, rfl⟩
  have nc : Nw wb wc := by rw [← hwc]; exact nwa wb _
  have xc : wc.heap[wb.heap.size]? = some (.cells #[.int .i64 0, .int .i64 0] 35) := by rw [← hwc]; exact heap_new _ _
  rw [hwc]
  rw [sb] at xc
  have NC : Hid (Nw w wc) := (na.tr nb).tr nc
  have HX : Hid (wc.heap[w.heap.size]? = some (.cells X 24)) := ((nb.tr nc).block _ (heap_lt xa) (fun f => f)).trans xa
  have HR : Hid (wc.heap[w.heap.size + 1]? = some (.cells z32 24)) := (nc.block _ (heap_lt xb) (fun f => f)).trans xb
  have HF : Hid (wc.heap[w.heap.size + 2]? = some (.cells #[.int .i64 0, .int .i64 0] 35)) := xc
  clear hwa na xa sa hwb nb xb sb hwc nc xc
  go_wp2_with fail
  refine (QL.out _).mono ?_
  rintro e w3 ⟨rfl, h3⟩
  obtain rfl : wc = w3 := h3.symm
  clear h3
  go_wp2_with first
    | refine wpl_zeroV rfl rfl ?_
  refine (plain10 _).mono ?_
  rintro e w4 ⟨rfl, n4⟩
  have HR4 : Hid (w4.heap[w.heap.size + 1]? = some (.cells z32 24)) := (n4.block _ (heap_lt HR.out) (fun f => f)).trans HR.out
  have HF4 : Hid (w4.heap[w.heap.size + 2]? = some (.cells #[.int .i64 0, .int .i64 0] 35)) := (n4.block _ (heap_lt HF.out) (fun f => f)).trans HF.out
  have N4 : Hid (Nw w w4) := NC.out.tr n4
  clear n4
  go_wp2_with first
    | (refine wp_store_agg rfl (.tmp 8) (.tmp 25) 24 32 rfl Tryd.sizeOf24 (w.heap.size + 1) 0 rfl z32 24 HR4.out z32 rfl z32_size z32_one (by decide) z32 (by rw [dropA z32_size]; simp) ?_; intro w5 j5 f5 z5; clear z5; have HF5 := (f5.block _ (heap_lt HF4.out) (fun q => by omega)).trans HF4.out)
    | (refine wp_store_agg rfl (.tmp 9) (.tmp 26) 35 2 rfl Tryd.sizeOf35 (w.heap.size + 2) 0 rfl _ 35 HF5 #[.int .i64 10, .int .i64 (-1)] rfl rfl (by decide) (by decide) #[.int .i64 10, .int .i64 (-1)] rfl ?_; intro w6 j6 f6 z6; clear z6)
  have j5' := (f6.block _ (heap_lt j5) (fun q => by omega)).trans j5
  exact bodyPost_ret (results_cellsV Tryd.results11 Tryd.isAgg24 Tryd.sizeOf24 Tryd.isAgg35 Tryd.sizeOf35 rfl rfl j5' z32_size j6 rfl) rfl ⟨rfl, (N4.out.trans f5 (fun k hk q => by omega)).trans f6 (fun k hk q => by omega)⟩
set_option maxRecDepth 100000 in
set_option maxHeartbeats 2000000 in
theorem rroot_yes (i n : Nat) (h : ¬ (9223372036854775808 < n ∨ n ≤ i)) (x : List UInt8) (hx : x.length = 32) (L : List (List UInt8)) (hL32 : ∀ y ∈ L, y.length = 32) (ad : Option Addr) (cap : Nat) (hcap : L.length ≤ cap) (w : World) (hr : Hrs w ad L) (hl : L.length = (sds i n).length) :
    Calls Tryd.prog 11 #[.int .u64 (i : Int), .int .u64 (n : Int), .agg (hbs x), .slice ad L.length cap] w fun e w' => e = .returned (.tuple #[.agg (hbs (clm x L (sds i n))), .agg #[.int .i64 0, .int .i64 0]]) ∧ Nw w w' := by
  have QL := hid_of (fun V => rlong_any i n (by omega) (by omega) V)
  have QS0 : ∀ V, Nw w V → Calls Tryd.prog 34 #[.int .u64 (i : Int), .int .u64 (n : Int), .agg (hbs x), .slice ad L.length cap] V fun e w' => e = .returned (.agg (hbs (clm x L (sds i n)))) ∧ Nw V w' := fun V nV => says_any x hx n n i L ad cap V (Nat.le_refl _) (by omega) (by omega) hl hcap hL32 (hr.nw hL32 nV)
  have QS := hid_of QS0
  have hzs : (hbs (clm x L (sds i n))).size = 32 := by rw [hbs_size, clm_len _ _ _ hx]
  obtain ⟨z, hz⟩ : ∃ z, z = clm x L (sds i n) := ⟨_, rfl⟩
  rw [← hz] at QS hzs ⊢
  rw [← hl] at QL
  obtain ⟨ln, hln⟩ : ∃ q, q = L.length := ⟨_, rfl⟩
  rw [← hln] at QS QL ⊢
  obtain ⟨X, hX⟩ : ∃ X, X = hbs x := ⟨_, rfl⟩
  have hXs : X.size = 32 := by rw [hX, hbs_size, hx]
  rw [← hX] at QS ⊢
  have h1 : ¬ (9223372036854775808 : Int) < (n : Int) := by omega
  have h2 : ¬ (n : Int) ≤ (i : Int) := by omega
  clear hX hx h hl hln hz QS0 hr hL32 hcap
  go_enter Tryd.func11, Tryd.ntmps11
  go_upto_region 1 with fail
  rw [z32_h]
  obtain ⟨wa, hwa⟩ : ∃ q, w.alloc (.cells X 24) = q := ⟨_, rfl⟩
  have na : Nw w wa := by rw [← hwa]; exact nwa w _
  have xa : wa.heap[w.heap.size]? = some (.cells X 24) := by rw [← hwa]; exact heap_new _ _
  have sa : wa.heap.size = w.heap.size + 1 := by rw [← hwa]; simp
  rw [hwa]
  obtain ⟨wb, hwb⟩ : ∃ q, wa.alloc (.cells z32 24) = q := ⟨_, rfl⟩
  have nb : Nw wa wb := by rw [← hwb]; exact nwa wa _
  have xb : wb.heap[wa.heap.size]? = some (.cells z32 24) := by rw [← hwb]; exact heap_new _ _
  have sb : wb.heap.size = w.heap.size + 2 := by rw [← hwb]; simp [sa]
  rw [hwb]
  rw [sa] at xb
  obtain ⟨wc, hwc⟩ : ∃ q, wb.alloc (.cells #[.int .i64 0, .int .i64 0] 35) = q := ⟨_, rfl⟩
  have nc : Nw wb wc := by rw [← hwc]; exact nwa wb _
  have xc : wc.heap[wb.heap.size]? = some (.cells #[.int .i64 0, .int .i64 0] 35) := by rw [← hwc]; exact heap_new _ _
  rw [hwc]
  rw [sb] at xc
  have NC : Hid (Nw w wc) := (na.tr nb).tr nc
  have HX : Hid (wc.heap[w.heap.size]? = some (.cells X 24)) := ((nb.tr nc).block _ (heap_lt xa) (fun f => f)).trans xa
  have HR : Hid (wc.heap[w.heap.size + 1]? = some (.cells z32 24)) := (nc.block _ (heap_lt xb) (fun f => f)).trans xb
  have HF : Hid (wc.heap[w.heap.size + 2]? = some (.cells #[.int .i64 0, .int .i64 0] 35)) := xc
  clear hwa na xa sa hwb nb xb sb hwc nc xc
  have HXC : Hid (∀ j, j < 32 → wc.cell? ⟨w.heap.size, 0 + j, none⟩ = X[j]?) := fun j _ => by rw [Nat.zero_add, cell_of HX.out]
  go_wp2_with fail
  refine (QL.out _).mono ?_
  rintro e w3 ⟨rfl, h3⟩
  obtain rfl : wc = w3 := h3.symm
  clear h3
  go_wp2_with (refine wple_load_at rfl (.tmp 6) 24 32 rfl Tryd.isAgg24 Tryd.sizeOf24 w.heap.size 0 rfl X hXs HXC.out ?_)
  refine (QS.out _ NC.out).mono ?_
  rintro e w4 ⟨rfl, n4⟩
  have HR4 : Hid (w4.heap[w.heap.size + 1]? = some (.cells z32 24)) := (n4.block _ (heap_lt HR.out) (fun f => f)).trans HR.out
  have HF4 : Hid (w4.heap[w.heap.size + 2]? = some (.cells #[.int .i64 0, .int .i64 0] 35)) := (n4.block _ (heap_lt HF.out) (fun f => f)).trans HF.out
  have N4 : Hid (Nw w w4) := NC.out.tr n4
  clear n4
  go_wp2_with first
    | (refine wp_store_agg rfl (.tmp 8) (.tmp 31) 24 32 rfl Tryd.sizeOf24 (w.heap.size + 1) 0 rfl z32 24 HR4.out (hbs z) rfl hzs (hbs_one _) (by decide) (hbs z) (by rw [dropA z32_size]; simp) ?_; intro w5 j5 f5 z5; clear z5; have HF5 := (f5.block _ (heap_lt HF4.out) (fun q => by omega)).trans HF4.out)
    | (refine wp_store_agg rfl (.tmp 9) (.tmp 32) 35 2 rfl Tryd.sizeOf35 (w.heap.size + 2) 0 rfl _ 35 HF5 #[.int .i64 0, .int .i64 0] rfl rfl (by decide) (by decide) #[.int .i64 0, .int .i64 0] rfl ?_; intro w6 j6 f6 z6; clear z6)
  have j5' := (f6.block _ (heap_lt j5) (fun q => by omega)).trans j5
  exact bodyPost_ret (results_cellsV Tryd.results11 Tryd.isAgg24 Tryd.sizeOf24 Tryd.isAgg35 Tryd.sizeOf35 rfl rfl j5' hzs j6 rfl) rfl ⟨rfl, (N4.out.trans f5 (fun k hk q => by omega)).trans f6 (fun k hk q => by omega)⟩
theorem rroot_any (i n : Nat) (hi : i < 18446744073709551616) (hn : n < 18446744073709551616) (x : List UInt8) (hx : x.length = 32) (L : List (List UInt8)) (hL32 : ∀ y ∈ L, y.length = 32) (ad : Option Addr) (cap : Nat) (hcap : L.length ≤ cap) (w : World) (hr : Hrs w ad L) :
    Calls Tryd.prog 11 #[.int .u64 (i : Int), .int .u64 (n : Int), .agg (hbs x), .slice ad L.length cap] w fun e w' => e = .returned (.tuple #[.agg (hbs (rtA i n x L).1), .agg (dfa (rtA i n x L).2)]) ∧ Nw w w' := by
  have e : hbs zh = z32 := by rw [show zh = List.replicate 32 0 from rfl, z32_hbs]
  by_cases h : 9223372036854775808 < n ∨ n ≤ i
  · rw [rtA_range h]
    show Calls _ _ _ _ fun r w' => r = .returned (.tuple #[.agg (hbs zh), .agg #[.int .i64 5, .int .i64 (-1)]]) ∧ Nw w w'
    rw [e]
    exact rroot_range i n hi hn h x hx _ w
  · by_cases hl : L.length = (sds i n).length
    · rw [rtA_yes h hl]
      exact rroot_yes i n h x hx L hL32 ad cap hcap w hr hl
    · rw [rtA_no h hl]
      show Calls _ _ _ _ fun r w' => r = .returned (.tuple #[.agg (hbs zh), .agg #[.int .i64 10, .int .i64 (-1)]]) ∧ Nw w w'
      rw [e]
      exact rroot_no i n h x hx ad L.length cap w hl
end Go.Proofs.YtaeocbdphfkflaaDoor
