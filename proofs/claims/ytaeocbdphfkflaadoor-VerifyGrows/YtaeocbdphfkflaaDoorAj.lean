/- verify.Consistency. -/
import Derived.Test.YtaeocbdphfkflaaDoorAhi
import Derived.Test.YtaeocbdphfkflaaDoorRah
import Derived.Deep.DeepCutAuto
namespace Go.Proofs.YtaeocbdphfkflaaDoor
open Go.RowKit
set_option linter.unusedVariables false
set_option linter.unusedSimpArgs false
/-- What the hashes behind the first one say. -/
def ccr (o n : Nat) (bf af F : List UInt8) (R : List (List UInt8)) : Nat := if R.length = (gds o n).length ∧ clt F F R (gds o n) = (bf, af) then 0 else 10
/-- What Consistency answers: the error's number. -/
def ccA (o n : Nat) (bf af : List UInt8) (L : List (List UInt8)) : Nat :=
  if 9223372036854775808 < n ∨ o = 0 ∨ n < o then 5
  else if true ∈ gds o n then (match L with | [] => 10 | f :: R => ccr o n bf af f R) else ccr o n bf af bf L
theorem ccA_range {o n : Nat} {bf af : List UInt8} {L : List (List UInt8)} (h : 9223372036854775808 < n ∨ o = 0 ∨ n < o) : ccA o n bf af L = 5 := if_pos h
theorem ccA_whole {o n : Nat} {bf af : List UInt8} {L : List (List UInt8)} (h : ¬ (9223372036854775808 < n ∨ o = 0 ∨ n < o)) (ht : ¬ true ∈ gds o n) : ccA o n bf af L = ccr o n bf af bf L := by unfold ccA; rw [if_neg h, if_neg ht]
theorem ccA_nil {o n : Nat} {bf af : List UInt8} (h : ¬ (9223372036854775808 < n ∨ o = 0 ∨ n < o)) (ht : true ∈ gds o n) : ccA o n bf af [] = 10 := by unfold ccA; rw [if_neg h, if_pos ht]
theorem ccA_cons {o n : Nat} {bf af f : List UInt8} {R : List (List UInt8)} (h : ¬ (9223372036854775808 < n ∨ o = 0 ∨ n < o)) (ht : true ∈ gds o n) : ccA o n bf af (f :: R) = ccr o n bf af f R := by unfold ccA; rw [if_neg h, if_pos ht]
theorem ccA_code (o n : Nat) (bf af : List UInt8) (L : List (List UInt8)) : ccA o n bf af L = 0 ∨ ccA o n bf af L = 5 ∨ ccA o n bf af L = 10 := by
  unfold ccA ccr
  split
  · simp
  · split
    · split
      · simp
      · split <;> simp
    · split <;> simp
theorem elemHv : Tryd.prog.elem 25 = 24 := by kernel_rfl
theorem undHv : Tryd.prog.underlying 25 = some (.slice (Tryd.prog.elem 25)) := by rw [elemHv]; exact Tryd.underlying25
/-- A row without its first hash. -/
theorem cut_one (g o m cap : Nat) (hn : m + 1 ≤ cap) : ∃ ad2 : Option Addr, (0 < m → ad2 = some ⟨g, o + 32, none⟩) ∧ ∀ w : World, (Instr.sliceAt 25 (.slice (some ⟨g, o, none⟩) (m + 1) cap) (some (.int .i64 1)) none none).run Tryd.prog w = .ok (.slice ad2 m (cap - 1)) w := by
  by_cases hc : cap = 1
  · refine ⟨some ⟨g, o, none⟩, fun h => by omega, fun w => ?_⟩
    subst hc
    obtain rfl : m = 0 := by omega
    rw [run_sliceAt_slice w _ _ _ _ _ undHv, run_slice_l w _ (some ⟨g, o, none⟩) 1 1 undHv .i64 1 (by omega) (by omega), elemHv, Tryd.sizeOf24 w]
    simp [sliced, Addr.add]
  · refine ⟨some ⟨g, o + 32, none⟩, fun _ => rfl, fun w => ?_⟩
    rw [run_sliceAt_slice w _ _ _ _ _ undHv, run_slice_l w _ (some ⟨g, o, none⟩) (m + 1) cap undHv .i64 1 (by omega) (by omega), elemHv, Tryd.sizeOf24 w]
    simp [sliced, hc, Addr.add]
theorem yields_loadV {P : Program} {ops : Array Oper} {S : World → Prop} {o : Oper} {a : Act} (hgd : Region.wanted o (yielded ops a.tmps) = true) (x : Operand) (t : TypeId) (n : Nat) (ho : o.op = .load t x)
    (hagg : ∀ W : World, (isAgg t).run P W = .ok true W) (hsz : ∀ W : World, (sizeOf t).run P W = .ok n W) (g off : Nat) (hx : a.eval x = .pointer (some ⟨g, off, none⟩))
    (V : Array Value) (hV : V.size = n) (hc : ∀ w, S w → ∀ j, j < n → w.cell? ⟨g, off + j, none⟩ = V[j]?) : YieldsIf P ops S o (.agg V) a := by
  refine .inl ⟨hgd, fun w hw => ?_⟩
  have hl : (loadCells ⟨g, off, none⟩ n).run P w = .ok V w := by
    have := run_loadCells_list (P := P) w ⟨g, off, none⟩ V.toList (fun j v hv => by
      have hj : j < n := by
        have := (List.getElem?_eq_some_iff.1 hv).1
        simpa [hV] using this
      rw [addO, hc w hw j hj]
      simpa using hv)
    simpa [hV] using this
  unfold execOp
  simp only [ho, hx, Instr.loadAt, sure, loadVar, Sem.run_bind, Sem.run_pure, hagg, hsz, hl, Result.andThen_ok, if_true]
theorem yields_h2build {ops : Array Oper} {S : World → Prop} {o : Oper} {a : Act} (hgd : Region.wanted o (yielded ops a.tmps) = true) (x y : Operand) (ho : o.op = .build 78 #[(0, x), (1, y)]) (A B : List UInt8) (hA : A.length = 32) (hB : B.length = 32) (hx : a.eval x = .agg (hbs A)) (hy : a.eval y = .agg (hbs B)) : YieldsIf Tryd.prog ops S o (.agg (h2c A B)) a := by
  refine .inl ⟨hgd, fun w hw => ?_⟩
  unfold execOp
  simp only [ho, Sem.run_bind, Sem.run_pure, Result.andThen_ok, List.map_toArray, List.map_cons, List.map_nil, hx, hy, built_h2 A B hA hB w]
theorem wpl_loadN {P : Program} {w : World} {ops : Array Oper} {rest : List Oper} {o : Oper} {a : Act} {Q : Exit → Act → World → Prop} (hwant : Region.wanted o (yielded ops a.tmps) = true) (x : Operand) (t : TypeId) (n : Nat) (ho : o.op = .load t x)
    (hagg : ∀ W : World, (isAgg t).run P W = .ok true W) (hsz : ∀ W : World, (sizeOf t).run P W = .ok n W) (g off : Nat) (hx : a.eval x = .pointer (some ⟨g, off, none⟩)) (V : Array Value) (hV : V.size = n) (hc : ∀ j, j < n → w.cell? ⟨g, off + j, none⟩ = V[j]?)
    (h : wpList P ops Q rest (a.put o.dst (.agg V)) w) : wpList P ops Q (o :: rest) a w := by
  refine wpList_step fun K hK => ?_
  rw [if_pos hwant]
  have hl : (loadCells ⟨g, off, none⟩ n).run P w = .ok V w := by
    have := run_loadCells_list (P := P) w ⟨g, off, none⟩ V.toList (fun j v hv => by
      have hj : j < n := by
        have := (List.getElem?_eq_some_iff.1 hv).1
        simpa [hV] using this
      rw [addO, hc j hj]
      simpa using hv)
    simpa [hV] using this
  unfold Oper.wp execOp
  simp only [ho, hx, Instr.loadAt, sure, loadVar, Sem.run_bind, Sem.run_pure, hagg, hsz, hl, Result.andThen_ok, if_true]
  exact hK _ _ h
theorem h2c_set (A B C : List UInt8) (hA : A.length = 32) (hB : B.length = 32) : (h2c A C).toList = (h2c A B).toList.take 32 ++ (hbs C).toList ++ (h2c A B).toList.drop (32 + 32) := by
  have h : (hbs A).toList.length = 32 := by rw [Array.length_toList, hbs_size, hA]
  have h' : (hbs B).toList.length = 32 := by rw [Array.length_toList, hbs_size, hB]
  simp only [h2c, Array.toList_append]
  rw [List.take_append, h, List.take_of_length_le (by omega)]
  simp only [Nat.sub_self, List.take_zero, List.append_nil]
  rw [List.drop_of_length_le (by rw [List.length_append]; omega), List.append_nil]
theorem h2_cells {w : World} {b : Nat} {A B : List UInt8} {t : TypeId} {f : Nat × Nat} (h : w.heap[b]? = some (.cells (h2c A B) t f)) (hA : A.length = 32) : (∀ j, j < 32 → w.cell? ⟨b, 0 + j, none⟩ = (hbs A)[j]?) ∧ (∀ j, j < 32 → w.cell? ⟨b, 32 + j, none⟩ = (hbs B)[j]?) ∧ (∀ j, j < 64 → w.cell? ⟨b, 0 + j, none⟩ = (h2c A B)[j]?) := by
  refine ⟨fun j hj => ?_, fun j hj => ?_, fun j hj => ?_⟩
  · rw [Nat.zero_add, cell_of h, h2c_l B hA j hj]
  · rw [cell_of h, h2c_r B hA]
  · rw [Nat.zero_add, cell_of h]
set_option maxRecDepth 100000 in
set_option maxHeartbeats 1000000 in
theorem cons_range (o n : Nat) (ho : o < 18446744073709551616) (hn : n < 18446744073709551616) (h : 9223372036854775808 < n ∨ o = 0 ∨ n < o) (bf af : List UInt8) (sl : Value) (w : World) {B : Nat} {a : Nat → Addr} (hS : Sent B w a) :
    Calls Tryd.prog 17 #[.int .u64 (o : Int), .int .u64 (n : Int), .agg (hbs bf), .agg (hbs af), sl] w fun e w' => e = .returned (sen (a 4)) ∧ Nw w w' := by
  have HC4 : Hid (w.cell? ⟨0, 0, none⟩ = some (sen (a 4))) := hS.c4
  have hcase : (9223372036854775808 : Int) < (n : Int) ∨ (¬ (9223372036854775808 : Int) < (n : Int) ∧ (o : Int) = 0) ∨ (¬ (9223372036854775808 : Int) < (n : Int) ∧ ¬ (o : Int) = 0 ∧ (n : Int) < (o : Int)) := by omega
  clear hS h
  go_enter Tryd.func17, Tryd.ntmps17
  go_upto_region 1 with fail
  have nA : Nw w ((w.alloc (.cells (hbs bf) 24)).alloc (.cells (hbs af) 24)) := (nwa w _).alloc _
  obtain ⟨w1, hw1⟩ : ∃ q, (w.alloc (.cells (hbs bf) 24)).alloc (.cells (hbs af) 24) = q := ⟨_, rfl⟩
  rw [hw1] at nA ⊢
  have hc4 := nA.cellOf HC4.out
  clear hw1
  rcases hcase with h1 | ⟨h1, h2⟩ | ⟨h1, h2, h3⟩
  · go_wp2
    go_ret
    exact ⟨rfl, nA⟩
  · have h2b : ((o : Int) == 0) = true := by rw [h2]; rfl
    rw [h2] at *
    go_wp2
    go_ret
    exact ⟨rfl, nA⟩
  · have h2b : ((o : Int) == 0) = false := by simpa using h2
    go_wp2
    go_ret
    exact ⟨rfl, nA⟩
set_option maxRecDepth 100000 in
set_option maxHeartbeats 8000000 in
theorem cons_in (o n : Nat) (h : ¬ (9223372036854775808 < n ∨ o = 0 ∨ n < o)) (bf af : List UInt8) (hbf : bf.length = 32) (haf : af.length = 32) (L : List (List UInt8)) (hL32 : ∀ y ∈ L, y.length = 32) (hLl : L.length < 9223372036854775808) (ad : Option Addr) (cap : Nat) (hcap : L.length ≤ cap) (w : World) (hs : Hss w (.slice ad L.length cap) L) (hLd : Laid w) {B : Nat} {a : Nat → Addr} (hS : Sent B w a) :
    Calls Tryd.prog 17 #[.int .u64 (o : Int), .int .u64 (n : Int), .agg (hbs bf), .agg (hbs af), .slice ad L.length cap] w fun e w' => e = .returned (erv a (ccA o n bf af L)) ∧ Nw w w' := by
  have HIN : Hid (¬ (9223372036854775808 < n ∨ o = 0 ∨ n < o)) := h
  have HBF := hid_of hbf
  have HAF := hid_of haf
  have HL32 : Hid (∀ y ∈ L, y.length = 32) := hL32
  have hbs5 : (hbs bf).size = 32 := by rw [hbs_size, hbf]
  have hafs : (hbs af).size = 32 := by rw [hbs_size, haf]
  obtain ⟨ln, hln⟩ : ∃ q, q = L.length := ⟨_, rfl⟩
  have HLN : Hid (ln = L.length) := hln
  have HSS : Hid (Hss w (.slice ad ln cap) L) := by rw [hln]; exact hs
  have HLD : Hid (Laid w) := hLd
  have HC9 : Hid (w.cell? ⟨1, 0, none⟩ = some (sen (a 9))) := hS.c9
  have h1 : ¬ (9223372036854775808 : Int) < (n : Int) := by omega
  have h2 : ¬ (n : Int) < (o : Int) := by omega
  have h3 : ((o : Int) == 0) = false := by rw [beq_eq_false_iff_ne]; omega
  have QS0 : ∀ V, Calls Tryd.prog 37 #[.int .u64 (o : Int), .int .u64 (n : Int)] V fun e w' => e = .returned (.agg #[.int .u64 ((smA o n).1 : Int), .int .u64 ((smA o n).2 : Int)]) ∧ Nw V w' := fun V => seam_any o n (by omega) (by omega) (by omega) V
  have QS := hid_of QS0
  have hsb := smA_bsd o n (by omega) (by omega)
  have hsl := smA_le o n (by omega)
  have hst := smA_true o n (by omega) (by omega)
  obtain ⟨u, hu⟩ : ∃ u, u = smA o n := ⟨_, rfl⟩
  rw [← hu] at QS hsb hsl hst
  clear hu
  obtain ⟨p0, q0⟩ := u
  have HSB : Hid (gds o n = bsd p0 q0) := hsb
  have HSL : Hid (p0 ≤ q0 ∧ q0 ≤ n) := hsl
  have HST : Hid (true ∈ gds o n ↔ p0 ≠ 0) := hst
  have HLL : Hid (ln < 9223372036854775808 ∧ ln ≤ cap) := by refine ⟨?_, ?_⟩ <;> omega
  rw [← hln]
  clear h hbf haf hL32 hln hs hLd hS QS0 hsb hsl hst hcap hLl
  go_enter Tryd.func17, Tryd.ntmps17
  go_upto_region 1 with fail
  have b1 := heap_next w (.cells (hbs bf) 24) (.cells (hbs af) 24)
  have b0 : ((w.alloc (.cells (hbs bf) 24)).alloc (.cells (hbs af) 24)).heap[w.heap.size]? = some (.cells (hbs bf) 24) := ((nwa (w.alloc (.cells (hbs bf) 24)) _).block _ (heap_lt (heap_new _ _)) (fun f => f)).trans (heap_new _ _)
  have nA : Nw w ((w.alloc (.cells (hbs bf) 24)).alloc (.cells (hbs af) 24)) := (nwa w _).alloc _
  obtain ⟨w1, hw1⟩ : ∃ q, (w.alloc (.cells (hbs bf) 24)).alloc (.cells (hbs af) 24) = q := ⟨_, rfl⟩
  rw [hw1] at b0 b1 nA ⊢
  clear hw1
  obtain ⟨xb, hxb⟩ : ∃ q, q = w.heap.size := ⟨_, rfl⟩
  rw [← hxb] at b0 b1 ⊢
  obtain ⟨ab, hab⟩ : ∃ q, q = xb + 1 := ⟨_, rfl⟩
  rw [← hab] at b1 ⊢
  have HX : Hid (w1.heap[xb]? = some (.cells (hbs bf) 24)) := b0
  have HA : Hid (w1.heap[ab]? = some (.cells (hbs af) 24)) := b1
  have HN1 : Hid (Nw w w1) := nA
  have HXW : Hid (w.heap.size = xb ∧ xb < ab) := by refine ⟨?_, ?_⟩ <;> omega
  clear hxb hab b0 b1 nA
  go_wp2_with fail
  refine (QS.out _).mono ?_
  rintro e w2 ⟨rfl, n2⟩
  have HX2 : Hid (w2.heap[xb]? = some (.cells (hbs bf) 24)) := (n2.block _ (heap_lt HX.out) (fun f => f)).trans HX.out
  have HA2 : Hid (w2.heap[ab]? = some (.cells (hbs af) 24)) := (n2.block _ (heap_lt HA.out) (fun f => f)).trans HA.out
  have HN2 : Hid (Nw w w2) := HN1.out.tr n2
  clear n2 HX HA HN1
  go_upto_region 4 with fail
  have p4 : Plc (w2.alloc (.cells #[.int .u64 (p0 : Int), .int .u64 (q0 : Int)] 69)) w2.heap.size p0 q0 := heap_new w2 _
  have n4 := nwa w2 (.cells #[.int .u64 (p0 : Int), .int .u64 (q0 : Int)] 69)
  obtain ⟨w4, hw4⟩ : ∃ q, w2.alloc (.cells #[.int .u64 (p0 : Int), .int .u64 (q0 : Int)] 69) = q := ⟨_, rfl⟩
  rw [hw4] at p4 n4 ⊢
  clear hw4
  obtain ⟨pb, hpb⟩ : ∃ q, q = w2.heap.size := ⟨_, rfl⟩
  rw [← hpb] at p4 ⊢
  have HP4 : Hid (Plc w4 pb p0 q0) := p4
  have HX4 : Hid (w4.heap[xb]? = some (.cells (hbs bf) 24)) := (n4.block _ (heap_lt HX2.out) (fun f => f)).trans HX2.out
  have HA4 : Hid (w4.heap[ab]? = some (.cells (hbs af) 24)) := (n4.block _ (heap_lt HA2.out) (fun f => f)).trans HA2.out
  have HN4 : Hid (Nw w w4) := HN2.out.tr n4
  have HPB : Hid (ab < pb) := by show ab < pb; rw [hpb]; exact heap_lt HA2.out
  clear p4 n4 hpb HX2 HA2 HN2
  go_upto_region 5 with first
    | refine wple_load_at rfl (.tmp 7) 24 32 rfl Tryd.isAgg24 Tryd.sizeOf24 xb 0 rfl (hbs bf) hbs5 (hash_cells HX4.out) ?_
    | (refine wp_store_agg rfl (.tmp 12) (.tmp 33) 24 32 rfl Tryd.sizeOf24 w4.heap.size 0 rfl z32 24 (by rw [← z32_h]; exact heap_new _ _) (hbs bf) rfl hbs5 (hbs_one _) (by decide) (hbs bf) (by rw [dropA z32_size]; simp) ?_; intro w5 j5 f5 z5; clear z5)
  have N5 : Hid (Nw w4 w5) := (nwa w4 _).trans f5 (fun k hk q => by omega)
  have HP5 : Hid (Plc w5 pb p0 q0) := HP4.out.nw N5.out
  have HX5 : Hid (w5.heap[xb]? = some (.cells (hbs bf) 24)) := (N5.out.block _ (heap_lt HX4.out) (fun f => f)).trans HX4.out
  have HA5 : Hid (w5.heap[ab]? = some (.cells (hbs af) 24)) := (N5.out.block _ (heap_lt HA4.out) (fun f => f)).trans HA4.out
  have HN5 : Hid (Nw w w5) := HN4.out.tr N5.out
  obtain ⟨fb, hfb⟩ : ∃ q, q = w4.heap.size := ⟨_, rfl⟩
  rw [← hfb] at j5 ⊢
  have HFB : Hid (pb < fb) := by show pb < fb; rw [hfb]; exact heap_lt HP4.out
  have HFB5 : Hid (w5.heap[fb]? = some (.cells (hbs bf) 24)) := j5
  clear hfb j5 f5 N5 HP4 HX4 HA4 HN4
  have hc0 := cell2a HP5.out
  go_upto_if 36 with fail
  go_cut [4] (fun v wx => ∃ (ad' : Option Addr) (m' cap' : Nat) (F : List UInt8) (R : List (List UInt8)), v = .slice ad' m' cap' ∧ m' = R.length ∧ m' < 9223372036854775808 ∧ F.length = 32 ∧ (∀ y ∈ R, y.length = 32) ∧ (∀ k y, R[k]? = some y → ∃ p off, ad' = some ⟨p, off, none⟩ ∧ ∀ j, j < 32 → w.cell? ⟨p, off + k * 32 + j, none⟩ = (hbs y)[j]?) ∧ ccA o n bf af L = ccr o n bf af F R ∧ wx.heap[fb]? = some (.cells (hbs F) 24) ∧ Plc wx pb p0 q0 ∧ wx.heap[xb]? = some (.cells (hbs bf) 24) ∧ wx.heap[ab]? = some (.cells (hbs af) 24) ∧ Nw w wx)
  case first =>
    by_cases hp0 : p0 = 0
    · subst hp0
      have hb0 : ((0 : Int) != 0) = false := rfl
      have HCC : Hid (ccA o n bf af L = ccr o n bf af bf L) := ccA_whole HIN.out (fun q => (HST.out.1 q) rfl)
      go_wp2
      go_meet
      exact ⟨ad, ln, cap, bf, L, rfl, HLN.out, HLL.out.1, HBF.out, HL32.out, fun k y hk => HSS.out.atT hk, HCC.out, HFB5.out, HP5.out, HX5.out, HA5.out, HN5.out⟩
    · have hb1 : ((p0 : Int) != 0) = true := by simpa using hp0
      have HTR := hid_of (HST.out.2 hp0)
      clear hp0
      by_cases hl0 : ln = 0
      · have HC9w := HN5.out.cellOf HC9.out
        have HRE : Hid (ccA o n bf af L = 10) := by
          have : L = [] := List.length_eq_zero_iff.1 (by rw [← HLN.out]; exact hl0)
          subst this
          exact ccA_nil HIN.out HTR.out
        subst hl0
        go_wp2
        go_ret
        rw [HRE.out]
        exact ⟨rfl, HN5.out⟩
      · obtain ⟨m, rfl⟩ : ∃ m, ln = m + 1 := ⟨ln - 1, by omega⟩
        obtain ⟨f, R, hfR⟩ : ∃ f R, L = f :: R := by
          cases L with
          | nil => have := HLN.out; simp at this
          | cons f R => exact ⟨f, R, rfl⟩
        subst hfR
        have HM : Hid (m = R.length) := by have := HLN.out; simp at this; exact this
        have F32 := hid_of (HL32.out f (by simp))
        have hfs : (hbs f).size = 32 := by rw [hbs_size, F32.out]
        obtain ⟨g, o0, rfl, hg⟩ := HSS.out.atT (k := 0) (x := f) rfl
        obtain ⟨ad2, had2, hcu⟩ := cut_one g o0 m cap HLL.out.2
        have HAD2 := hid_of had2
        have HG0 : Hid (∀ j, j < 32 → w.cell? ⟨g, o0 + j, none⟩ = (hbs f)[j]?) := fun j hj => by have := hg j hj; rwa [Nat.zero_mul, Nat.add_zero] at this
        have HFC : Hid (∀ W, Fr (fun k => k = fb) w5 W → ∀ j, j < 32 → W.cell? ⟨g, o0 + j, none⟩ = (hbs f)[j]?) := fun W hW j hj => by
          have h5 : (hbs f)[j]? = some (hbs f)[j] := Array.getElem?_eq_getElem (by omega)
          have h6 := HG0.out j hj
          rw [h5] at h6 ⊢
          have hlt := World.block_lt_of_cell? w ⟨g, o0 + j, none⟩ h6
          have h7 := HN5.out.cellOf h6
          exact (hW.cell (p := ⟨g, o0 + j, none⟩) (by have := HN5.out.size; simp only at hlt ⊢; omega) (fun q => by have := HXW.out; have := HPB.out; have := HFB.out; simp only at hlt q; omega)).trans h7
        have HRC : Hid (∀ k y, R[k]? = some y → ∃ p off, ad2 = some ⟨p, off, none⟩ ∧ ∀ j, j < 32 → w.cell? ⟨p, off + k * 32 + j, none⟩ = (hbs y)[j]?) := fun k y hk => by
          have hk1 := (List.getElem?_eq_some_iff.1 hk).1
          obtain ⟨p1, off1, e1, hc1⟩ := HSS.out.atT (k := k + 1) (x := y) (by simpa using hk)
          cases e1
          refine ⟨g, o0 + 32, HAD2.out (by have := HM.out; omega), fun j hj => ?_⟩
          rw [← hc1 j hj]
          congr 2
          omega
        have hml : (m : Int) + 1 ≠ 0 := by omega
        have hmb : (((m : Int) + 1) == 0) = false := by rw [beq_eq_false_iff_ne]; omega
        clear hg had2 hl0
        go_upto_region 8 with fail
        have nb : Nw w5 w5.drew := (Fr.refl _ _).drew
        refine wp_region_held_drew (S := (fun V => Fr (fun k => k = fb) w5 V)) (by kernel_rfl) (by first | exact nb.mono (fun _ _ f => f.elim) | exact nb) ?_
        intro hS0
        refine wpAnyH_take (i := 0) (oi := ({ dst := some 41, op := Op.move (Operand.tmp 4), type := 25, pos := "verify.go:59", after := #[], guard := none } : Oper)) (v := .slice (some ⟨g, o0, none⟩) (m + 1) cap) rfl (by kernel_rfl) (by kernel_rfl) (by kernel_rfl) (fun _ _ _ h => h) (Or.inl ⟨by rfl, by intro w hw; go_simp⟩) hS0 ?_
        try simp only [Act.put, List.setIfInBounds_toArray, List.set_cons_zero, List.set_cons_succ]
        refine wpAnyH_take (i := 1) (oi := ({ dst := some 42, op := Op.indexAddr 25 (Operand.tmp 41) (Operand.const (Value.int IntKind.i64 0)), type := 0, pos := "verify.go:59", after := #[{ on := 0, ground := Ground.data }], guard := none } : Oper)) (v := .pointer (some ⟨g, o0, none⟩)) rfl (by kernel_rfl) (by kernel_rfl) (by kernel_rfl) (fun _ _ _ h => h) (Or.inl ⟨by rfl, by intro w hw; go_simp; try (intro hq; omega)⟩) hS0 ?_
        try simp only [Act.put, List.setIfInBounds_toArray, List.set_cons_zero, List.set_cons_succ]
        refine wpAnyH_take (i := 2) (oi := ({ dst := some 43, op := Op.load 24 (Operand.tmp 42), type := 24, pos := "verify.go:59", after := #[{ on := 1, ground := Ground.data }], guard := none } : Oper)) (v := .agg (hbs f)) rfl (by kernel_rfl) (by kernel_rfl) (by kernel_rfl) (fun _ _ _ h => h) (yields_loadV (by kernel_rfl) (.tmp 42) 24 32 rfl Tryd.isAgg24 Tryd.sizeOf24 g (o0) rfl (hbs f) hfs (fun w hw => HFC.out w hw)) hS0 ?_
        try simp only [Act.put, List.setIfInBounds_toArray, List.set_cons_zero, List.set_cons_succ]
        refine wpAnyH_take (i := 3) (oi := ({ dst := some 44, op := Op.move (Operand.tmp 4), type := 25, pos := "verify.go:59", after := #[], guard := none } : Oper)) (v := .slice (some ⟨g, o0, none⟩) (m + 1) cap) rfl (by kernel_rfl) (by kernel_rfl) (by kernel_rfl) (fun _ _ _ h => h) (Or.inl ⟨by rfl, by intro w hw; go_simp⟩) hS0 ?_
        try simp only [Act.put, List.setIfInBounds_toArray, List.set_cons_zero, List.set_cons_succ]
        refine wpAnyH_take (i := 4) (oi := ({ dst := some 45, op := Op.slice 25 (Operand.tmp 44) (some (Operand.const (Value.int IntKind.i64 1))) none none, type := 25, pos := "verify.go:59", after := #[{ on := 3, ground := Ground.data }], guard := none } : Oper)) (v := .slice ad2 m (cap - 1)) rfl (by kernel_rfl) (by kernel_rfl) (by kernel_rfl) (fun _ _ _ h => h) (Or.inl ⟨by rfl, by intro w hw; have := hcu w; go_simp⟩) hS0 ?_
        try simp only [Act.put, List.setIfInBounds_toArray, List.set_cons_zero, List.set_cons_succ]
        refine wpAnyH_ready (rs := [5]) (by kernel_rfl) (by simp) ?_
        refine (AllReadyH.cons (o := ({ dst := none, op := Op.store 24 (Operand.tmp 12) (Operand.tmp 43), type := 0, pos := "verify.go:59", after := #[{ on := 2, ground := Ground.data }, { on := 0, ground := Ground.phase }, { on := 1, ground := Ground.phase }, { on := 2, ground := Ground.phase }, { on := 3, ground := Ground.textOnly Departure.lateStores }, { on := 4, ground := Ground.textOnly Departure.lateStoresUnsure }], guard := none } : Oper)) rfl (fun K' hK => ?_) AllReadyH.nil)
        refine step_store_agg rfl (.tmp 12) (.tmp 43) 24 32 rfl Tryd.sizeOf24 fb 0 rfl (hbs bf) 24 (((Fr.refl (fun _ => False) w5).drew.block _ (heap_lt HFB5.out) (fun f => f)).trans HFB5.out) (hbs f) rfl hfs (hbs_one _) (by rw [hbs5]; decide) (hbs f) (by rw [dropA hbs5]; simp) ?_
        intro w9 j9 f9 z9
        clear z9
        have nf : Fr (fun k => k = fb) w5 w9 := (nb.mono (fun _ _ f => f.elim)).trans f9 (fun j _ h => h)
        have nb := nf
        refine hK.out _ _ (by first | exact nb.mono (fun _ _ f => f.elim) | exact nb) (fun hS0 => ?_)
        try simp only [Act.put, List.setIfInBounds_toArray, List.set_cons_zero, List.set_cons_succ]
        refine wpAnyH_ready (rs := [6]) (by kernel_rfl) (by simp) ?_
        refine (AllReadyH.cons (o := ({ dst := some 4, op := Op.assign (Operand.tmp 45), type := 25, pos := "verify.go:59", after := #[{ on := 4, ground := Ground.data }, { on := 5, ground := Ground.chain }, { on := 0, ground := Ground.phase }, { on := 1, ground := Ground.phase }, { on := 2, ground := Ground.phase }, { on := 3, ground := Ground.phase }, { on := 4, ground := Ground.phase }, { on := 5, ground := Ground.phase }], guard := none } : Oper)) rfl (fun K' hK => ?_) AllReadyH.nil)
        go_simp
        refine hK.out _ _ (by first | exact nb.mono (fun _ _ f => f.elim) | exact nb) (fun hS0 => ?_)
        try simp only [Act.put, List.setIfInBounds_toArray, List.set_cons_zero, List.set_cons_succ]
        refine wpAnyH_done (by kernel_rfl) ?_ _

        go_wp2_with fail
        go_meet
        have hne : ∀ {b : Nat}, b < w5.heap.size → b ≠ fb → w9.heap[b]? = w5.heap[b]? := fun hb hq => nb.block _ hb hq
        refine ⟨ad2, m, cap - 1, f, R, rfl, HM.out, by have := HLL.out; omega, F32.out, fun y hy => HL32.out y (by simp [hy]), HRC.out, ccA_cons HIN.out HTR.out, j9, ?_, ?_, ?_, HN5.out.trans nb (fun k hk q => by have := HXW.out; have := HPB.out; have := HFB.out; omega)⟩
        · exact (hne (heap_lt HP5.out) (by have := HFB.out; omega)).trans HP5.out
        · exact (hne (heap_lt HX5.out) (by have := HXW.out; have := HPB.out; have := HFB.out; omega)).trans HX5.out
        · exact (hne (heap_lt HA5.out) (by have := HPB.out; have := HFB.out; omega)).trans HA5.out
  case rest =>
  obtain ⟨ad', m', cap', F0, R, rfl, hm', hml, hF, hR32, hRC, hcc, hfb6, hpl6, hx6, ha6, hn6⟩ := hcut
  have HM : Hid (m' = R.length) := hm'
  have HF := hid_of hF
  have HR32 : Hid (∀ y ∈ R, y.length = 32) := hR32
  have HRC : Hid (∀ k y, R[k]? = some y → ∃ p off, ad' = some ⟨p, off, none⟩ ∧ ∀ j, j < 32 → w.cell? ⟨p, off + k * 32 + j, none⟩ = (hbs y)[j]?) := hRC
  have HCC : Hid (ccA o n bf af L = ccr o n bf af F0 R) := hcc
  have HFB6 : Hid (wc.heap[fb]? = some (.cells (hbs F0) 24)) := hfb6
  have HP6 : Hid (Plc wc pb p0 q0) := hpl6
  have HX6 : Hid (wc.heap[xb]? = some (.cells (hbs bf) 24)) := hx6
  have HA6 : Hid (wc.heap[ab]? = some (.cells (hbs af) 24)) := ha6
  have HN6 : Hid (Nw w wc) := hn6
  have hf0 : (hbs F0).size = 32 := by rw [hbs_size, hF]
  clear hm' hF hR32 hRC hcc hfb6 hpl6 hx6 ha6 hn6 hc0 HFB5 HP5 HX5 HA5 HN5 HSS HLN HLL QS
  go_upto_region 10 with first
    | refine wple_load_at rfl (.tmp 12) 24 32 rfl Tryd.isAgg24 Tryd.sizeOf24 fb 0 rfl (hbs F0) hf0 (hash_cells HFB6.out) ?_
    | refine wpl_h2build rfl (.tmp 46) (.tmp 47) rfl F0 F0 HF.out HF.out rfl rfl ?_
    | (refine wp_store_agg rfl (.tmp 13) (.tmp 48) 78 64 rfl Tryd.sizeOf78 wc.heap.size 0 rfl _ 78 (heap_new _ _) (h2c F0 F0) rfl (h2c_size HF.out HF.out) (h2c_one _ _) (by decide) (h2c F0 F0) (by rw [dropA (by rfl)]; simp) ?_; intro wd jd fd zd; clear zd)
  have ND : Hid (Nw wc wd) := (nwa wc _).trans fd (fun k hk q => by omega)
  have HPd : Hid (Plc wd pb p0 q0) := HP6.out.nw ND.out
  have HXd : Hid (wd.heap[xb]? = some (.cells (hbs bf) 24)) := (ND.out.block _ (heap_lt HX6.out) (fun f => f)).trans HX6.out
  have HAd : Hid (wd.heap[ab]? = some (.cells (hbs af) 24)) := (ND.out.block _ (heap_lt HA6.out) (fun f => f)).trans HA6.out
  have HNd : Hid (Nw w wd) := HN6.out.tr ND.out
  obtain ⟨tb, htb⟩ : ∃ q, q = wc.heap.size := ⟨_, rfl⟩
  rw [← htb] at jd ⊢
  have HTB : Hid (fb < tb) := by show fb < tb; rw [htb]; exact heap_lt HFB6.out
  have HTd : Hid (wd.heap[tb]? = some (.cells (h2c F0 F0) 78)) := jd
  clear htb jd fd ND HP6 HX6 HA6 HN6 HFB6
  have QU : Hid (∀ V p q, p ≤ q → q ≠ 0 → q < 18446744073709551616 → Plc V pb p q → Calls Tryd.prog 30 #[.pointer (some ⟨pb, 0, none⟩)] V fun e w' => e = .returned (.tuple #[.bool (ups p q).1, .bool true]) ∧ Plc w' pb (ups p q).2.1 (ups p q).2.2 ∧ Fr (fun k => k = pb) V w') := fun V p q h1 h2 h3 h4 => up_any pb p q h1 h2 h3 V h4
  have QT : Hid (∀ V p, Plc V pb p 0 → Calls Tryd.prog 30 #[.pointer (some ⟨pb, 0, none⟩)] V fun e w' => e = .returned (.tuple #[.bool false, .bool false]) ∧ w' = V) := fun V p h => up_top pb p V h
  have QP : Hid (∀ V p q, Plc V pb p q → Calls Tryd.prog 31 #[.pointer (some ⟨pb, 0, none⟩)] V fun e w' => e = .returned (.bool (decide (q = 0))) ∧ w' = V) := fun V p q h => top_any pb p q V h
  have QN : Hid (∀ V A B, Nw w V → A.length = 32 → B.length = 32 → Calls Tryd.prog 25 #[.agg (hbs A), .agg (hbs B)] V fun e w' => e = .returned (.agg (hbs (ndp A B))) ∧ Nw V w') := fun V A B hV hA hB => node_any A B hA hB V (HLD.out.nw hV)
  have HBS : Hid (w.heap.size = xb ∧ xb < ab ∧ ab < pb ∧ pb < fb ∧ fb < tb) := ⟨HXW.out.1, HXW.out.2, HPB.out, HFB.out, HTB.out⟩
  clear HXW HPB HFB HTB
  go_wp2
  go_loopw [51] (fun iv wr => ∃ (j p q : Nat) (tk : List Bool), j ≤ m' ∧ iv = .int .i64 j ∧ tk.length = j ∧ gds o n = tk ++ bsd p q ∧ p ≤ q ∧ q < 18446744073709551616 ∧ Plc wr pb p q ∧ wr.heap[tb]? = some (.cells (h2c (clt F0 F0 (R.take j) tk).1 (clt F0 F0 (R.take j) tk).2) 78 (0, 0)) ∧ wr.heap[xb]? = some (.cells (hbs bf) 24) ∧ wr.heap[ab]? = some (.cells (hbs af) 24) ∧ Nw w wr) (fun iv _ => m' - (intOf iv).toNat)
  case atStart => exact ⟨0, p0, q0, [], by omega, rfl, rfl, HSB.out, HSL.out.1, by have := HSL.out; have := HIN.out; omega, HPd.out, by rw [List.take_zero, clt]; exact HTd.out; all_goals simp, HXd.out, HAd.out, HNd.out⟩
  case round =>
    obtain ⟨j, p, q, tk, hj, rfl, htk, hsd, hpq, hq, hpl, hob, hxx, haa, hnw⟩ := hrel
    have HTK : Hid (tk.length = j) := htk
    have HSD : Hid (gds o n = tk ++ bsd p q) := hsd
    have HPQ : Hid (p ≤ q) := hpq
    have HQ : Hid (q < 18446744073709551616) := hq
    have HPL : Hid (Plc wr pb p q) := hpl
    have HXX : Hid (wr.heap[xb]? = some (.cells (hbs bf) 24)) := hxx
    have HAA : Hid (wr.heap[ab]? = some (.cells (hbs af) 24)) := haa
    have HNW : Hid (Nw w wr) := hnw
    obtain ⟨r1, hr1⟩ : ∃ r, r = (clt F0 F0 (R.take j) tk).1 := ⟨_, rfl⟩
    obtain ⟨r2, hr2⟩ : ∃ r, r = (clt F0 F0 (R.take j) tk).2 := ⟨_, rfl⟩
    have HR12 : Hid (clt F0 F0 (R.take j) tk = (r1, r2)) := by show _ = _; rw [hr1, hr2]
    have hlens := clt_len F0 F0 (R.take j) tk HF.out HF.out
    rw [← hr1, ← hr2] at hob hlens
    have R1L := hid_of hlens.1
    have R2L := hid_of hlens.2
    have hr1s : (hbs r1).size = 32 := by rw [hbs_size, hlens.1]
    have hr2s : (hbs r2).size = 32 := by rw [hbs_size, hlens.2]
    have HT : Hid (wr.heap[tb]? = some (.cells (h2c r1 r2) 78)) := hob
    clear htk hsd hpq hq hpl hob hxx haa hnw hr1 hr2 hlens
    by_cases hlt : j < m'
    · obtain ⟨y, hy⟩ : ∃ y, R[j]? = some y := ⟨_, List.getElem?_eq_getElem (by rw [← HM.out]; exact hlt)⟩
      have HY : Hid (R[j]? = some y) := hy
      have Y32 : Hid (y.length = 32) := HR32.out y (List.mem_of_getElem? hy)
      have hys : (hbs y).size = 32 := by rw [hbs_size, Y32.out]
      obtain ⟨p1, off, rfl, hc⟩ := HRC.out j y hy
      have HC : Hid (∀ k, k < 32 → wr.cell? ⟨p1, off + j * 32 + k, none⟩ = (hbs y)[k]?) := fun k hk => by
        have h5 : (hbs y)[k]? = some (hbs y)[k] := Array.getElem?_eq_getElem (by omega)
        have h6 := hc k hk
        rw [h5] at h6 ⊢
        exact HNW.out.cellOf h6
      clear hy hc
      have hji : (j : Int) < (m' : Int) := by omega
      go_upto_region 13 with first
        | refine wple_load_at rfl (.tmp 53) 24 32 rfl Tryd.isAgg24 Tryd.sizeOf24 p1 (off + j * 32) rfl (hbs y) hys HC.out ?_
        | (refine wp_store_agg rfl (.tmp 15) (.tmp 54) 24 32 rfl Tryd.sizeOf24 wr.heap.size 0 rfl z32 24 (by rw [← z32_h]; exact heap_new _ _) (hbs y) rfl hys (hbs_one _) (by decide) (hbs y) (by rw [dropA z32_size]; simp) ?_; intro w6 j6 f6 z6; clear z6)
      have N6 : Hid (Nw wr w6) := (nwa wr _).trans f6 (fun k hk q => by omega)
      have HP6 : Hid (Plc w6 pb p q) := HPL.out.nw N6.out
      have HT6 : Hid (w6.heap[tb]? = some (.cells (h2c r1 r2) 78)) := (N6.out.block _ (heap_lt HT.out) (fun f => f)).trans HT.out
      have HX6 : Hid (w6.heap[xb]? = some (.cells (hbs bf) 24)) := (N6.out.block _ (heap_lt HXX.out) (fun f => f)).trans HXX.out
      have HA6 : Hid (w6.heap[ab]? = some (.cells (hbs af) 24)) := (N6.out.block _ (heap_lt HAA.out) (fun f => f)).trans HAA.out
      have HN6 : Hid (Nw w w6) := HNW.out.tr N6.out
      obtain ⟨yb, hyb⟩ : ∃ q, q = wr.heap.size := ⟨_, rfl⟩
      rw [← hyb] at j6 ⊢
      have HYB : Hid (tb < yb) := by show tb < yb; rw [hyb]; exact heap_lt HT.out
      have HY6 : Hid (w6.heap[yb]? = some (.cells (hbs y) 24)) := j6
      clear j6 f6 hyb N6 HPL HT HXX HAA HC
      by_cases hq0 : q = 0
      · subst hq0
        have RR : Hid (ccA o n bf af L = 10) := by
          show _ = 10
          rw [HCC.out]
          unfold ccr
          rw [if_neg]
          rintro ⟨q1, _⟩
          rw [HSD.out, bsd_zero, List.append_nil, HTK.out, ← HM.out] at q1
          omega
        have HC9w := HN6.out.cellOf HC9.out
        go_wp2_with fail
        refine (QT.out _ p HP6.out).mono ?_
        rintro e w7 ⟨rfl, h7⟩
        obtain rfl : w6 = w7 := h7.symm
        go_wp2
        go_ret
        rw [RR.out]
        exact ⟨rfl, HN6.out⟩
      · have QU1 := hid_of (QU.out w6 p q HPQ.out hq0 HQ.out HP6.out)
        obtain ⟨hu1, hu2, hu3⟩ := bsd_ups q p q (Nat.le_refl _) HPQ.out hq0
        obtain ⟨u, hu⟩ : ∃ u, u = ups p q := ⟨_, rfl⟩
        rw [← hu] at QU1 hu1 hu2 hu3
        obtain ⟨b, p', q'⟩ := u
        have HU1 : Hid (bsd p q = b :: bsd p' q') := hu1
        have HU2 : Hid (p' ≤ q') := hu2
        have HU3 : Hid (q' < q) := hu3
        clear hu hu1 hu2 hu3
        go_wp2_with fail
        refine QU1.out.mono ?_
        rintro e w7 ⟨rfl, pl7, f7⟩
        have HP7 : Hid (Plc w7 pb p' q') := pl7
        have HN7 : Hid (Nw w w7) := HN6.out.trans f7 (fun k hk q => by have := HBS.out; omega)
        have HT7 : Hid (w7.heap[tb]? = some (.cells (h2c r1 r2) 78)) := (f7.block _ (heap_lt HT6.out) (fun q => by have := HBS.out; omega)).trans HT6.out
        have HX7 : Hid (w7.heap[xb]? = some (.cells (hbs bf) 24)) := (f7.block _ (heap_lt HX6.out) (fun q => by have := HBS.out; omega)).trans HX6.out
        have HA7 : Hid (w7.heap[ab]? = some (.cells (hbs af) 24)) := (f7.block _ (heap_lt HA6.out) (fun q => by have := HBS.out; omega)).trans HA6.out
        have HY7 : Hid (w7.heap[yb]? = some (.cells (hbs y) 24)) := (f7.block _ (heap_lt HY6.out) (fun q => by have := HBS.out; have := HYB.out; omega)).trans HY6.out
        clear pl7 f7 HP6 HT6 HX6 HA6 HY6 HN6 QU1
        have HTK1 : Hid (gds o n = (tk ++ [b]) ++ bsd p' q') := by show _ = _; rw [HSD.out, HU1.out, List.append_assoc]; rfl
        have HST1 : Hid (clt F0 F0 (R.take (j + 1)) (tk ++ [b]) = if b then (ndp y r1, ndp y r2) else (r1, ndp r2 y)) := by
          show _ = _
          rw [List.take_add_one, HY.out]
          show clt F0 F0 (R.take j ++ [y]) _ = _
          rw [clt_snoc _ _ _ _ _ _ (by rw [List.length_take, HTK.out]; have := HM.out; omega), HR12.out]
        cases b
        · have QN1 := hid_of (QN.out w7 r2 y HN7.out R2L.out Y32.out)
          have hnl : (hbs (ndp r2 y)).size = 32 := by rw [hbs_size, ndp_len]
          have HST2 : Hid (clt F0 F0 (R.take (j + 1)) (tk ++ [false]) = (r1, ndp r2 y)) := HST1.out
          obtain ⟨z, hz⟩ : ∃ z, z = ndp r2 y := ⟨_, rfl⟩
          rw [← hz] at QN1 hnl HST2
          clear hz HST1
          have HC7 := hid_of (h2_cells HT7.out R1L.out)
          go_wp2_with first
            | refine wple_load_at rfl (.tmp 59) 24 32 rfl Tryd.isAgg24 Tryd.sizeOf24 tb 32 rfl (hbs r2) hr2s HC7.out.2.1 ?_
            | refine wple_load_at rfl (.tmp 15) 24 32 rfl Tryd.isAgg24 Tryd.sizeOf24 yb 0 rfl (hbs y) hys (hash_cells HY7.out) ?_
          refine QN1.out.mono ?_
          rintro e w8 ⟨rfl, n8⟩
          have HT8 : Hid (w8.heap[tb]? = some (.cells (h2c r1 r2) 78)) := (n8.block _ (heap_lt HT7.out) (fun f => f)).trans HT7.out
          have HP8 : Hid (Plc w8 pb p' q') := HP7.out.nw n8
          have HX8 : Hid (w8.heap[xb]? = some (.cells (hbs bf) 24)) := (n8.block _ (heap_lt HX7.out) (fun f => f)).trans HX7.out
          have HA8 : Hid (w8.heap[ab]? = some (.cells (hbs af) 24)) := (n8.block _ (heap_lt HA7.out) (fun f => f)).trans HA7.out
          have HN8 : Hid (Nw w w8) := HN7.out.tr n8
          clear n8
          go_wp2_with (refine wp_store_agg rfl (.tmp 63) (.tmp 62) 24 32 rfl Tryd.sizeOf24 tb 32 rfl (h2c r1 r2) 78 HT8.out (hbs z) rfl hnl (hbs_one _) (by rw [h2c_size R1L.out R2L.out]; decide) (h2c r1 z) (h2c_set r1 r2 z R1L.out R2L.out) ?_; intro w9 j9 f9 z9; clear z9)
          refine ⟨⟨j + 1, p', q', tk ++ [false], by omega, by go_num, by simp [HTK.out], HTK1.out, HU2.out, by have := HU3.out; have := HQ.out; omega, ?_, by rw [HST2.out]; exact j9, ?_, ?_, HN8.out.trans f9 (fun k hk q => by have := HBS.out; omega)⟩, by simp [intOf]; omega⟩
          · exact (f9.block _ (heap_lt HP8.out) (fun q => by have := HBS.out; omega)).trans HP8.out
          · exact (f9.block _ (heap_lt HX8.out) (fun q => by have := HBS.out; omega)).trans HX8.out
          · exact (f9.block _ (heap_lt HA8.out) (fun q => by have := HBS.out; omega)).trans HA8.out
        · have QN1 : Hid (∀ V, Nw w V → Calls Tryd.prog 25 #[.agg (hbs y), .agg (hbs r1)] V fun e w' => e = .returned (.agg (hbs (ndp y r1))) ∧ Nw V w') := fun V hV => QN.out V y r1 hV Y32.out R1L.out
          have QN2 : Hid (∀ V, Nw w V → Calls Tryd.prog 25 #[.agg (hbs y), .agg (hbs r2)] V fun e w' => e = .returned (.agg (hbs (ndp y r2))) ∧ Nw V w') := fun V hV => QN.out V y r2 hV Y32.out R2L.out
          have HZ1 := hid_of (ndp_len y r1)
          have HZ2 := hid_of (ndp_len y r2)
          have HST2 : Hid (clt F0 F0 (R.take (j + 1)) (tk ++ [true]) = (ndp y r1, ndp y r2)) := HST1.out
          obtain ⟨z1, hz1⟩ : ∃ z, z = ndp y r1 := ⟨_, rfl⟩
          obtain ⟨z2, hz2⟩ : ∃ z, z = ndp y r2 := ⟨_, rfl⟩
          rw [← hz1] at QN1 HZ1
          rw [← hz2] at QN2 HZ2
          rw [← hz1, ← hz2] at HST2
          clear hz1 hz2 HST1
          have HYC : Hid (∀ W, Fr (fun k => k = tb) w7 W → ∀ j, j < 32 → W.cell? ⟨yb, 0 + j, none⟩ = (hbs y)[j]?) := fun W hW => hash_cells ((hW.block _ (heap_lt HY7.out) (fun q => by have := HYB.out; omega)).trans HY7.out)
          go_upto_region 18 with fail
          have nb : Nw w7 w7.drew := (Fr.refl _ _).drew
          refine wp_region_held_drew (S := (fun V => Fr (fun k => k = tb) w7 V)) (by kernel_rfl) (by first | exact nb.mono (fun _ _ f => f.elim) | exact nb) ?_
          intro hS0
          refine wpAnyH_take (i := 0) (oi := ({ dst := some 70, op := Op.load 24 (Operand.tmp 15), type := 24, pos := "verify.go:68", after := #[], guard := none } : Oper)) (v := .agg (hbs y)) rfl (by kernel_rfl) (by kernel_rfl) (by kernel_rfl) (fun _ _ _ h => h) (yields_loadV (by kernel_rfl) (.tmp 15) 24 32 rfl Tryd.isAgg24 Tryd.sizeOf24 yb (0) rfl (hbs y) hys (fun w hw => HYC.out w hw)) hS0 ?_
          try simp only [Act.put, List.setIfInBounds_toArray, List.set_cons_zero, List.set_cons_succ]
          refine wpAnyH_take (i := 1) (oi := ({ dst := some 71, op := Op.indexAddr 78 (Operand.tmp 13) (Operand.const (Value.int IntKind.i64 0)), type := 0, pos := "verify.go:68", after := #[], guard := none } : Oper)) (v := .pointer (some ⟨tb, 0, none⟩)) rfl (by kernel_rfl) (by kernel_rfl) (by kernel_rfl) (fun _ _ _ h => h) (Or.inl ⟨by rfl, by intro w hw; go_simp⟩) hS0 ?_
          try simp only [Act.put, List.setIfInBounds_toArray, List.set_cons_zero, List.set_cons_succ]
          refine wpAnyH_take (i := 4) (oi := ({ dst := some 74, op := Op.load 24 (Operand.tmp 15), type := 24, pos := "verify.go:68", after := #[], guard := none } : Oper)) (v := .agg (hbs y)) rfl (by kernel_rfl) (by kernel_rfl) (by kernel_rfl) (fun _ _ _ h => h) (yields_loadV (by kernel_rfl) (.tmp 15) 24 32 rfl Tryd.isAgg24 Tryd.sizeOf24 yb (0) rfl (hbs y) hys (fun w hw => HYC.out w hw)) hS0 ?_
          try simp only [Act.put, List.setIfInBounds_toArray, List.set_cons_zero, List.set_cons_succ]
          refine wpAnyH_take (i := 5) (oi := ({ dst := some 75, op := Op.indexAddr 78 (Operand.tmp 13) (Operand.const (Value.int IntKind.i64 1)), type := 0, pos := "verify.go:68", after := #[], guard := none } : Oper)) (v := .pointer (some ⟨tb, 32, none⟩)) rfl (by kernel_rfl) (by kernel_rfl) (by kernel_rfl) (fun _ _ _ h => h) (Or.inl ⟨by rfl, by intro w hw; go_simp⟩) hS0 ?_
          try simp only [Act.put, List.setIfInBounds_toArray, List.set_cons_zero, List.set_cons_succ]
          refine wpAnyH_ready (rs := [2, 6]) (by kernel_rfl) (by simp) ?_
          refine (AllReadyH.cons (o := ({ dst := some 72, op := Op.load 24 (Operand.tmp 71), type := 24, pos := "verify.go:68", after := #[{ on := 1, ground := Ground.data }], guard := none } : Oper)) rfl (fun K' hK => ?_) (AllReadyH.cons (o := ({ dst := some 76, op := Op.load 24 (Operand.tmp 75), type := 24, pos := "verify.go:68", after := #[{ on := 5, ground := Ground.data }], guard := none } : Oper)) rfl (fun K' hK => ?_) AllReadyH.nil))
          · refine Rf.step_load_agg rfl (.tmp 71) 24 32 rfl Tryd.isAgg24 Tryd.sizeOf24 tb 0 rfl (h2c r1 r2) 78 (0, 0) ((nb.block _ (heap_lt HT7.out) (fun f => f)).trans HT7.out) (hbs r1) hr1s (fun j hj => by rw [Nat.zero_add]; exact h2c_l r2 R1L.out j hj) ?_
            refine hK.out _ _ (by first | exact nb.mono (fun _ _ f => f.elim) | exact nb) (fun hS0 => ?_)
            try simp only [Act.put, List.setIfInBounds_toArray, List.set_cons_zero, List.set_cons_succ]
            refine wpAnyH_ready (rs := [3, 6]) (by kernel_rfl) (by simp) ?_
            refine (AllReadyH.cons (o := ({ dst := some 73, op := Op.call { callee := Callee.value (Operand.func 25), args := #[Operand.tmp 70, Operand.tmp 72], argTypes := #[24, 24] }, type := 24, pos := "verify.go:68", after := #[{ on := 0, ground := Ground.data }, { on := 2, ground := Ground.data }], guard := none } : Oper)) rfl (fun K' hK => ?_) (AllReadyH.cons (o := ({ dst := some 76, op := Op.load 24 (Operand.tmp 75), type := 24, pos := "verify.go:68", after := #[{ on := 5, ground := Ground.data }], guard := none } : Oper)) rfl (fun K' hK => ?_) AllReadyH.nil))
            · go_simp
              go_wp2_with (go_at_call 25; refine (QN1.out _ (HN7.out.tr nb)).mono ?_; rintro ex w101 ⟨rfl, nw101⟩)
              have nb := nb.tr nw101
              refine hK.out _ _ (by first | exact nb.mono (fun _ _ f => f.elim) | exact nb) (fun hS0 => ?_)
              try simp only [Act.put, List.setIfInBounds_toArray, List.set_cons_zero, List.set_cons_succ]
              refine wpAnyH_ready (rs := [6]) (by kernel_rfl) (by simp) ?_
              refine (AllReadyH.cons (o := ({ dst := some 76, op := Op.load 24 (Operand.tmp 75), type := 24, pos := "verify.go:68", after := #[{ on := 5, ground := Ground.data }], guard := none } : Oper)) rfl (fun K' hK => ?_) AllReadyH.nil)
              refine Rf.step_load_agg rfl (.tmp 75) 24 32 rfl Tryd.isAgg24 Tryd.sizeOf24 tb 32 rfl (h2c r1 r2) 78 (0, 0) ((nb.block _ (heap_lt HT7.out) (fun f => f)).trans HT7.out) (hbs r2) hr2s (fun j hj => by exact h2c_r r2 R1L.out j) ?_
              refine hK.out _ _ (by first | exact nb.mono (fun _ _ f => f.elim) | exact nb) (fun hS0 => ?_)
              try simp only [Act.put, List.setIfInBounds_toArray, List.set_cons_zero, List.set_cons_succ]
              refine wpAnyH_ready (rs := [7]) (by kernel_rfl) (by simp) ?_
              refine (AllReadyH.cons (o := ({ dst := some 77, op := Op.call { callee := Callee.value (Operand.func 25), args := #[Operand.tmp 74, Operand.tmp 76], argTypes := #[24, 24] }, type := 24, pos := "verify.go:68", after := #[{ on := 4, ground := Ground.data }, { on := 6, ground := Ground.data }, { on := 3, ground := Ground.chain }], guard := none } : Oper)) rfl (fun K' hK => ?_) AllReadyH.nil)
              go_simp
              go_wp2_with (go_at_call 25; refine (QN2.out _ (HN7.out.tr nb)).mono ?_; rintro ex w102 ⟨rfl, nw102⟩)
              have nb := nb.tr nw102
              refine hK.out _ _ (by first | exact nb.mono (fun _ _ f => f.elim) | exact nb) (fun hS0 => ?_)
              try simp only [Act.put, List.setIfInBounds_toArray, List.set_cons_zero, List.set_cons_succ]
              refine wpAnyH_take (i := 8) (oi := ({ dst := some 78, op := Op.build 78 #[(0, Operand.tmp 73), (1, Operand.tmp 77)], type := 78, pos := "verify.go:68", after := #[{ on := 3, ground := Ground.data }, { on := 7, ground := Ground.data }], guard := none } : Oper)) (v := .agg (h2c z1 z2)) rfl (by kernel_rfl) (by kernel_rfl) (by kernel_rfl) (fun _ _ _ h => h) (yields_h2build (by kernel_rfl) (.tmp 73) (.tmp 77) rfl z1 z2 HZ1.out HZ2.out rfl rfl) hS0 ?_
              try simp only [Act.put, List.setIfInBounds_toArray, List.set_cons_zero, List.set_cons_succ]
              refine wpAnyH_ready (rs := [9]) (by kernel_rfl) (by simp) ?_
              refine (AllReadyH.cons (o := ({ dst := none, op := Op.store 78 (Operand.tmp 13) (Operand.tmp 78), type := 0, pos := "verify.go:68", after := #[{ on := 8, ground := Ground.data }, { on := 7, ground := Ground.chain }, { on := 0, ground := Ground.phase }, { on := 1, ground := Ground.phase }, { on := 2, ground := Ground.phase }, { on := 3, ground := Ground.phase }, { on := 4, ground := Ground.phase }, { on := 5, ground := Ground.phase }, { on := 6, ground := Ground.phase }, { on := 7, ground := Ground.phase }, { on := 8, ground := Ground.phase }], guard := none } : Oper)) rfl (fun K' hK => ?_) AllReadyH.nil)
              have jz := (nb.block _ (heap_lt HT7.out) (fun f => f)).trans HT7.out
              refine step_store_agg rfl (.tmp 13) (.tmp 78) 78 64 rfl Tryd.sizeOf78 tb 0 rfl (h2c r1 r2) 78 jz (h2c z1 z2) rfl (h2c_size HZ1.out HZ2.out) (h2c_one _ _) (by rw [h2c_size R1L.out R2L.out]; decide) (h2c z1 z2) (by rw [dropA (h2c_size R1L.out R2L.out)]; simp) ?_
              intro w9 j9 f9 z9
              clear z9
              have nf : Fr (fun k => k = tb) w7 w9 := (nb.mono (fun _ _ f => f.elim)).trans f9 (fun j _ h => h)
              have nb := nf
              refine hK.out _ _ (by first | exact nb.mono (fun _ _ f => f.elim) | exact nb) (fun hS0 => ?_)
              try simp only [Act.put, List.setIfInBounds_toArray, List.set_cons_zero, List.set_cons_succ]
              refine wpAnyH_done (by kernel_rfl) ?_ _
              go_wp2_with fail
              refine ⟨⟨j + 1, p', q', tk ++ [true], by omega, by go_num, by simp [HTK.out], HTK1.out, HU2.out, by have := HU3.out; have := HQ.out; omega, ?_, by rw [HST2.out]; exact j9, ?_, ?_, HN7.out.trans nb (fun k hk q => by have := HBS.out; omega)⟩, by simp [intOf]; omega⟩
              · exact (nb.block _ (heap_lt HP7.out) (fun q => by have := HBS.out; omega)).trans HP7.out
              · exact (nb.block _ (heap_lt HX7.out) (fun q => by have := HBS.out; omega)).trans HX7.out
              · exact (nb.block _ (heap_lt HA7.out) (fun q => by have := HBS.out; omega)).trans HA7.out
            · refine Rf.step_load_agg rfl (.tmp 75) 24 32 rfl Tryd.isAgg24 Tryd.sizeOf24 tb 32 rfl (h2c r1 r2) 78 (0, 0) ((nb.block _ (heap_lt HT7.out) (fun f => f)).trans HT7.out) (hbs r2) hr2s (fun j hj => by exact h2c_r r2 R1L.out j) ?_
              refine hK.out _ _ (by first | exact nb.mono (fun _ _ f => f.elim) | exact nb) (fun hS0 => ?_)
              try simp only [Act.put, List.setIfInBounds_toArray, List.set_cons_zero, List.set_cons_succ]
              refine wpAnyH_ready (rs := [3]) (by kernel_rfl) (by simp) ?_
              refine (AllReadyH.cons (o := ({ dst := some 73, op := Op.call { callee := Callee.value (Operand.func 25), args := #[Operand.tmp 70, Operand.tmp 72], argTypes := #[24, 24] }, type := 24, pos := "verify.go:68", after := #[{ on := 0, ground := Ground.data }, { on := 2, ground := Ground.data }], guard := none } : Oper)) rfl (fun K' hK => ?_) AllReadyH.nil)
              go_simp
              go_wp2_with (go_at_call 25; refine (QN1.out _ (HN7.out.tr nb)).mono ?_; rintro ex w103 ⟨rfl, nw103⟩)
              have nb := nb.tr nw103
              refine hK.out _ _ (by first | exact nb.mono (fun _ _ f => f.elim) | exact nb) (fun hS0 => ?_)
              try simp only [Act.put, List.setIfInBounds_toArray, List.set_cons_zero, List.set_cons_succ]
              refine wpAnyH_ready (rs := [7]) (by kernel_rfl) (by simp) ?_
              refine (AllReadyH.cons (o := ({ dst := some 77, op := Op.call { callee := Callee.value (Operand.func 25), args := #[Operand.tmp 74, Operand.tmp 76], argTypes := #[24, 24] }, type := 24, pos := "verify.go:68", after := #[{ on := 4, ground := Ground.data }, { on := 6, ground := Ground.data }, { on := 3, ground := Ground.chain }], guard := none } : Oper)) rfl (fun K' hK => ?_) AllReadyH.nil)
              go_simp
              go_wp2_with (go_at_call 25; refine (QN2.out _ (HN7.out.tr nb)).mono ?_; rintro ex w104 ⟨rfl, nw104⟩)
              have nb := nb.tr nw104
              refine hK.out _ _ (by first | exact nb.mono (fun _ _ f => f.elim) | exact nb) (fun hS0 => ?_)
              try simp only [Act.put, List.setIfInBounds_toArray, List.set_cons_zero, List.set_cons_succ]
              refine wpAnyH_take (i := 8) (oi := ({ dst := some 78, op := Op.build 78 #[(0, Operand.tmp 73), (1, Operand.tmp 77)], type := 78, pos := "verify.go:68", after := #[{ on := 3, ground := Ground.data }, { on := 7, ground := Ground.data }], guard := none } : Oper)) (v := .agg (h2c z1 z2)) rfl (by kernel_rfl) (by kernel_rfl) (by kernel_rfl) (fun _ _ _ h => h) (yields_h2build (by kernel_rfl) (.tmp 73) (.tmp 77) rfl z1 z2 HZ1.out HZ2.out rfl rfl) hS0 ?_
              try simp only [Act.put, List.setIfInBounds_toArray, List.set_cons_zero, List.set_cons_succ]
              refine wpAnyH_ready (rs := [9]) (by kernel_rfl) (by simp) ?_
              refine (AllReadyH.cons (o := ({ dst := none, op := Op.store 78 (Operand.tmp 13) (Operand.tmp 78), type := 0, pos := "verify.go:68", after := #[{ on := 8, ground := Ground.data }, { on := 7, ground := Ground.chain }, { on := 0, ground := Ground.phase }, { on := 1, ground := Ground.phase }, { on := 2, ground := Ground.phase }, { on := 3, ground := Ground.phase }, { on := 4, ground := Ground.phase }, { on := 5, ground := Ground.phase }, { on := 6, ground := Ground.phase }, { on := 7, ground := Ground.phase }, { on := 8, ground := Ground.phase }], guard := none } : Oper)) rfl (fun K' hK => ?_) AllReadyH.nil)
              have jz := (nb.block _ (heap_lt HT7.out) (fun f => f)).trans HT7.out
              refine step_store_agg rfl (.tmp 13) (.tmp 78) 78 64 rfl Tryd.sizeOf78 tb 0 rfl (h2c r1 r2) 78 jz (h2c z1 z2) rfl (h2c_size HZ1.out HZ2.out) (h2c_one _ _) (by rw [h2c_size R1L.out R2L.out]; decide) (h2c z1 z2) (by rw [dropA (h2c_size R1L.out R2L.out)]; simp) ?_
              intro w9 j9 f9 z9
              clear z9
              have nf : Fr (fun k => k = tb) w7 w9 := (nb.mono (fun _ _ f => f.elim)).trans f9 (fun j _ h => h)
              have nb := nf
              refine hK.out _ _ (by first | exact nb.mono (fun _ _ f => f.elim) | exact nb) (fun hS0 => ?_)
              try simp only [Act.put, List.setIfInBounds_toArray, List.set_cons_zero, List.set_cons_succ]
              refine wpAnyH_done (by kernel_rfl) ?_ _
              go_wp2_with fail
              refine ⟨⟨j + 1, p', q', tk ++ [true], by omega, by go_num, by simp [HTK.out], HTK1.out, HU2.out, by have := HU3.out; have := HQ.out; omega, ?_, by rw [HST2.out]; exact j9, ?_, ?_, HN7.out.trans nb (fun k hk q => by have := HBS.out; omega)⟩, by simp [intOf]; omega⟩
              · exact (nb.block _ (heap_lt HP7.out) (fun q => by have := HBS.out; omega)).trans HP7.out
              · exact (nb.block _ (heap_lt HX7.out) (fun q => by have := HBS.out; omega)).trans HX7.out
              · exact (nb.block _ (heap_lt HA7.out) (fun q => by have := HBS.out; omega)).trans HA7.out
          · refine Rf.step_load_agg rfl (.tmp 75) 24 32 rfl Tryd.isAgg24 Tryd.sizeOf24 tb 32 rfl (h2c r1 r2) 78 (0, 0) ((nb.block _ (heap_lt HT7.out) (fun f => f)).trans HT7.out) (hbs r2) hr2s (fun j hj => by exact h2c_r r2 R1L.out j) ?_
            refine hK.out _ _ (by first | exact nb.mono (fun _ _ f => f.elim) | exact nb) (fun hS0 => ?_)
            try simp only [Act.put, List.setIfInBounds_toArray, List.set_cons_zero, List.set_cons_succ]
            refine wpAnyH_ready (rs := [2]) (by kernel_rfl) (by simp) ?_
            refine (AllReadyH.cons (o := ({ dst := some 72, op := Op.load 24 (Operand.tmp 71), type := 24, pos := "verify.go:68", after := #[{ on := 1, ground := Ground.data }], guard := none } : Oper)) rfl (fun K' hK => ?_) AllReadyH.nil)
            refine Rf.step_load_agg rfl (.tmp 71) 24 32 rfl Tryd.isAgg24 Tryd.sizeOf24 tb 0 rfl (h2c r1 r2) 78 (0, 0) ((nb.block _ (heap_lt HT7.out) (fun f => f)).trans HT7.out) (hbs r1) hr1s (fun j hj => by rw [Nat.zero_add]; exact h2c_l r2 R1L.out j hj) ?_
            refine hK.out _ _ (by first | exact nb.mono (fun _ _ f => f.elim) | exact nb) (fun hS0 => ?_)
            try simp only [Act.put, List.setIfInBounds_toArray, List.set_cons_zero, List.set_cons_succ]
            refine wpAnyH_ready (rs := [3]) (by kernel_rfl) (by simp) ?_
            refine (AllReadyH.cons (o := ({ dst := some 73, op := Op.call { callee := Callee.value (Operand.func 25), args := #[Operand.tmp 70, Operand.tmp 72], argTypes := #[24, 24] }, type := 24, pos := "verify.go:68", after := #[{ on := 0, ground := Ground.data }, { on := 2, ground := Ground.data }], guard := none } : Oper)) rfl (fun K' hK => ?_) AllReadyH.nil)
            go_simp
            go_wp2_with (go_at_call 25; refine (QN1.out _ (HN7.out.tr nb)).mono ?_; rintro ex w105 ⟨rfl, nw105⟩)
            have nb := nb.tr nw105
            refine hK.out _ _ (by first | exact nb.mono (fun _ _ f => f.elim) | exact nb) (fun hS0 => ?_)
            try simp only [Act.put, List.setIfInBounds_toArray, List.set_cons_zero, List.set_cons_succ]
            refine wpAnyH_ready (rs := [7]) (by kernel_rfl) (by simp) ?_
            refine (AllReadyH.cons (o := ({ dst := some 77, op := Op.call { callee := Callee.value (Operand.func 25), args := #[Operand.tmp 74, Operand.tmp 76], argTypes := #[24, 24] }, type := 24, pos := "verify.go:68", after := #[{ on := 4, ground := Ground.data }, { on := 6, ground := Ground.data }, { on := 3, ground := Ground.chain }], guard := none } : Oper)) rfl (fun K' hK => ?_) AllReadyH.nil)
            go_simp
            go_wp2_with (go_at_call 25; refine (QN2.out _ (HN7.out.tr nb)).mono ?_; rintro ex w106 ⟨rfl, nw106⟩)
            have nb := nb.tr nw106
            refine hK.out _ _ (by first | exact nb.mono (fun _ _ f => f.elim) | exact nb) (fun hS0 => ?_)
            try simp only [Act.put, List.setIfInBounds_toArray, List.set_cons_zero, List.set_cons_succ]
            refine wpAnyH_take (i := 8) (oi := ({ dst := some 78, op := Op.build 78 #[(0, Operand.tmp 73), (1, Operand.tmp 77)], type := 78, pos := "verify.go:68", after := #[{ on := 3, ground := Ground.data }, { on := 7, ground := Ground.data }], guard := none } : Oper)) (v := .agg (h2c z1 z2)) rfl (by kernel_rfl) (by kernel_rfl) (by kernel_rfl) (fun _ _ _ h => h) (yields_h2build (by kernel_rfl) (.tmp 73) (.tmp 77) rfl z1 z2 HZ1.out HZ2.out rfl rfl) hS0 ?_
            try simp only [Act.put, List.setIfInBounds_toArray, List.set_cons_zero, List.set_cons_succ]
            refine wpAnyH_ready (rs := [9]) (by kernel_rfl) (by simp) ?_
            refine (AllReadyH.cons (o := ({ dst := none, op := Op.store 78 (Operand.tmp 13) (Operand.tmp 78), type := 0, pos := "verify.go:68", after := #[{ on := 8, ground := Ground.data }, { on := 7, ground := Ground.chain }, { on := 0, ground := Ground.phase }, { on := 1, ground := Ground.phase }, { on := 2, ground := Ground.phase }, { on := 3, ground := Ground.phase }, { on := 4, ground := Ground.phase }, { on := 5, ground := Ground.phase }, { on := 6, ground := Ground.phase }, { on := 7, ground := Ground.phase }, { on := 8, ground := Ground.phase }], guard := none } : Oper)) rfl (fun K' hK => ?_) AllReadyH.nil)
            have jz := (nb.block _ (heap_lt HT7.out) (fun f => f)).trans HT7.out
            refine step_store_agg rfl (.tmp 13) (.tmp 78) 78 64 rfl Tryd.sizeOf78 tb 0 rfl (h2c r1 r2) 78 jz (h2c z1 z2) rfl (h2c_size HZ1.out HZ2.out) (h2c_one _ _) (by rw [h2c_size R1L.out R2L.out]; decide) (h2c z1 z2) (by rw [dropA (h2c_size R1L.out R2L.out)]; simp) ?_
            intro w9 j9 f9 z9
            clear z9
            have nf : Fr (fun k => k = tb) w7 w9 := (nb.mono (fun _ _ f => f.elim)).trans f9 (fun j _ h => h)
            have nb := nf
            refine hK.out _ _ (by first | exact nb.mono (fun _ _ f => f.elim) | exact nb) (fun hS0 => ?_)
            try simp only [Act.put, List.setIfInBounds_toArray, List.set_cons_zero, List.set_cons_succ]
            refine wpAnyH_done (by kernel_rfl) ?_ _
            go_wp2_with fail
            refine ⟨⟨j + 1, p', q', tk ++ [true], by omega, by go_num, by simp [HTK.out], HTK1.out, HU2.out, by have := HU3.out; have := HQ.out; omega, ?_, by rw [HST2.out]; exact j9, ?_, ?_, HN7.out.trans nb (fun k hk q => by have := HBS.out; omega)⟩, by simp [intOf]; omega⟩
            · exact (nb.block _ (heap_lt HP7.out) (fun q => by have := HBS.out; omega)).trans HP7.out
            · exact (nb.block _ (heap_lt HX7.out) (fun q => by have := HBS.out; omega)).trans HX7.out
            · exact (nb.block _ (heap_lt HA7.out) (fun q => by have := HBS.out; omega)).trans HA7.out

    · obtain rfl : j = m' := by omega
      have HC9w := HNW.out.cellOf HC9.out
      have hki : ¬ (j : Int) < (j : Int) := by omega
      have HRT : Hid (R.take j = R) := List.take_of_length_le (by rw [← HM.out]; exact Nat.le_refl _)
      by_cases hq0 : q = 0
      · subst hq0
        have HRR : Hid (ccA o n bf af L = if r1 = bf ∧ r2 = af then 0 else 10) := by
          show _ = _
          rw [HCC.out]
          unfold ccr
          have e1 : R.length = (gds o n).length := by rw [HSD.out, bsd_zero, List.append_nil, HTK.out, ← HM.out]
          have e2 : clt F0 F0 R (gds o n) = (r1, r2) := by rw [HSD.out, bsd_zero, List.append_nil, ← HRT.out, HR12.out]
          rw [e2]
          simp only [e1, true_and, Prod.mk.injEq]
        have QPP := hid_of (QP.out wr p 0 HPL.out)
        have hT64 := h2c_size R1L.out R2L.out
        have hB64 := h2c_size HBF.out HAF.out
        have HCT := hid_of (h2_cells HT.out R1L.out).2.2
        by_cases heq : r1 = bf ∧ r2 = af
        · have hd : (!decide (r1 = bf ∧ r2 = af)) = false := by rw [decide_eq_true heq]; rfl
          have HR0 : Hid (ccA o n bf af L = 0) := by show _ = _; rw [HRR.out, if_pos heq]
          clear heq
          go_wp2_with fail
          refine QPP.out.mono ?_
          rintro e w7 ⟨rfl, h7⟩
          obtain rfl : wr = w7 := h7.symm
          have hd0 : decide (0 = 0) = true := rfl
          go_wp2_with first
            | refine wpl_loadN (by kernel_rfl) (.tmp 13) 78 64 rfl Tryd.isAgg78 Tryd.sizeOf78 tb 0 rfl (h2c r1 r2) hT64 HCT.out ?_
            | refine wpl_loadN (by kernel_rfl) (.tmp 7) 24 32 rfl Tryd.isAgg24 Tryd.sizeOf24 xb 0 rfl (hbs bf) hbs5 (hash_cells HXX.out) ?_
            | refine wpl_loadN (by kernel_rfl) (.tmp 8) 24 32 rfl Tryd.isAgg24 Tryd.sizeOf24 ab 0 rfl (hbs af) hafs (hash_cells HAA.out) ?_
            | refine wpl_h2build (by kernel_rfl) (.tmp 84) (.tmp 85) rfl bf af HBF.out HAF.out rfl rfl ?_
            | (refine wpl_h2neq (by kernel_rfl) (.tmp 83) (.tmp 86) rfl r1 r2 bf af R1L.out R2L.out HBF.out HAF.out rfl rfl ?_; rw [hd])
          go_ret
          rw [HR0.out]
          exact ⟨rfl, HNW.out⟩
        · have hd : (!decide (r1 = bf ∧ r2 = af)) = true := by rw [decide_eq_false heq]; rfl
          have HR0 : Hid (ccA o n bf af L = 10) := by show _ = _; rw [HRR.out, if_neg heq]
          clear heq
          go_wp2_with fail
          refine QPP.out.mono ?_
          rintro e w7 ⟨rfl, h7⟩
          obtain rfl : wr = w7 := h7.symm
          have hd0 : decide (0 = 0) = true := rfl
          go_wp2_with first
            | refine wpl_loadN (by kernel_rfl) (.tmp 13) 78 64 rfl Tryd.isAgg78 Tryd.sizeOf78 tb 0 rfl (h2c r1 r2) hT64 HCT.out ?_
            | refine wpl_loadN (by kernel_rfl) (.tmp 7) 24 32 rfl Tryd.isAgg24 Tryd.sizeOf24 xb 0 rfl (hbs bf) hbs5 (hash_cells HXX.out) ?_
            | refine wpl_loadN (by kernel_rfl) (.tmp 8) 24 32 rfl Tryd.isAgg24 Tryd.sizeOf24 ab 0 rfl (hbs af) hafs (hash_cells HAA.out) ?_
            | refine wpl_h2build (by kernel_rfl) (.tmp 84) (.tmp 85) rfl bf af HBF.out HAF.out rfl rfl ?_
            | (refine wpl_h2neq (by kernel_rfl) (.tmp 83) (.tmp 86) rfl r1 r2 bf af R1L.out R2L.out HBF.out HAF.out rfl rfl ?_; rw [hd])
          go_ret
          rw [HR0.out]
          exact ⟨rfl, HNW.out⟩
      · have hb1 : 0 < (bsd p q).length := by
          rw [(bsd_ups q p q (Nat.le_refl _) HPQ.out hq0).1]
          simp
        have HR0 : Hid (ccA o n bf af L = 10) := by
          show _ = _
          rw [HCC.out]
          unfold ccr
          rw [if_neg]
          rintro ⟨e1, _⟩
          rw [HSD.out, List.length_append, HTK.out, ← HM.out] at e1
          omega
        have hd : decide (q = 0) = false := decide_eq_false hq0
        have QPP := hid_of (QP.out wr p q HPL.out)
        rw [hd] at QPP
        clear hd hb1 hq0
        go_wp2_with fail
        refine QPP.out.mono ?_
        rintro e w7 ⟨rfl, h7⟩
        obtain rfl : wr = w7 := h7.symm
        go_wp2
        go_ret
        rw [HR0.out]
        exact ⟨rfl, HNW.out⟩
theorem cons_any (o n : Nat) (ho : o < 18446744073709551616) (hn : n < 18446744073709551616) (bf af : List UInt8) (hbf : bf.length = 32) (haf : af.length = 32) (L : List (List UInt8)) (hL32 : ∀ y ∈ L, y.length = 32) (hLl : L.length < 9223372036854775808) (ad : Option Addr) (cap : Nat) (hcap : L.length ≤ cap) (w : World) (hs : Hss w (.slice ad L.length cap) L) (hLd : Laid w) {B : Nat} {a : Nat → Addr} (hS : Sent B w a) :
    Calls Tryd.prog 17 #[.int .u64 (o : Int), .int .u64 (n : Int), .agg (hbs bf), .agg (hbs af), .slice ad L.length cap] w fun e w' => e = .returned (erv a (ccA o n bf af L)) ∧ Nw w w' := by
  by_cases h : 9223372036854775808 < n ∨ o = 0 ∨ n < o
  · rw [ccA_range h]
    exact cons_range o n ho hn h bf af _ w hS
  · exact cons_in o n h bf af hbf haf L hL32 hLl ad cap hcap w hs hLd hS
end Go.Proofs.YtaeocbdphfkflaaDoor
