/- The document's Steps, sub (verify). -/
import Derived.Test.YtaeocbdphfkflaaDoorAf
import Derived.Deep.DeepCutAuto
namespace Go.Proofs.YtaeocbdphfkflaaDoor
open Go.RowKit Go.Shelf
set_option linter.unusedVariables false
set_option linter.unusedSimpArgs false
theorem step_alloc24 {ops : Array Oper} {o : Oper} {a : Act} {w : World} {K : Act → World → Prop} {Q : Exit → Act → World → Prop} {E : Prop} (hgd : o.guard = none) (ho : o.op = .alloc 24)
    (h : K (a.put o.dst (.pointer (some ⟨w.heap.size, 0, none⟩))) (w.alloc (.cells z32 24))) : if Region.wanted o (yielded ops a.tmps) = true then Oper.wp Tryd.prog o a w K Q else E := by
  have hw : Region.wanted o (yielded ops a.tmps) = true := by simp [Region.wanted, hgd]
  rw [if_pos hw]
  unfold Oper.wp execOp
  simp only [ho]
  go_simp
  rw [z32_h]
  exact h
/-- Is the old root one that was handed in? -/
def knb (o n : Nat) (b : Bool) : Bool := b && !decide (true ∈ gds o n)
/-- The first hash, and the others. -/
def pkb (c : Bool) (bf : List UInt8) (P : List (List UInt8)) : List UInt8 × List (List UInt8) := if c then (bf, P) else match P with | [] => (bf, []) | f :: R => (f, R)
def sbA (o n : Nat) (b : Bool) (bf : List UInt8) (P : List (List UInt8)) : List UInt8 × List UInt8 := clt (pkb (knb o n b) bf P).1 (pkb (knb o n b) bf P).1 (pkb (knb o n b) bf P).2 (gds o n)
theorem knb_left {o n : Nat} (b : Bool) (h : o < n) (h2 : 2 ≤ n) (hi : o ≤ spl n) : knb o n b = knb o (spl n) b := by unfold knb; rw [gds_left h h2 hi]; simp
theorem knb_right {o n : Nat} (b : Bool) (h : o < n) (h2 : 2 ≤ n) (hi : ¬ o ≤ spl n) : knb o n b = false := by unfold knb; rw [gds_right h h2 hi]; simp
theorem knb_false (o n : Nat) : knb o n false = false := rfl
theorem pkb_snoc {c : Bool} {bf y : List UInt8} {P : List (List UInt8)} {k : Nat} (hl : P.length = k + (if c then 0 else 1)) : pkb c bf (P ++ [y]) = ((pkb c bf P).1, (pkb c bf P).2 ++ [y]) ∧ (pkb c bf P).2.length = k := by
  cases c
  · cases P with
    | nil => simp at hl
    | cons f R => exact ⟨rfl, by simp at hl; simpa [pkb] using hl⟩
  · exact ⟨rfl, by simpa [pkb] using hl⟩
theorem pkb_len {c : Bool} {bf : List UInt8} {P : List (List UInt8)} (hb : bf.length = 32) (hP : ∀ y ∈ P, y.length = 32) : (pkb c bf P).1.length = 32 := by
  cases c
  · cases P with
    | nil => exact hb
    | cons f R => exact hP f (by simp)
  · exact hb
theorem sbA_len {o n : Nat} {b : Bool} {bf : List UInt8} {P : List (List UInt8)} (hb : bf.length = 32) (hP : ∀ y ∈ P, y.length = 32) : (sbA o n b bf P).1.length = 32 ∧ (sbA o n b bf P).2.length = 32 := clt_len _ _ _ _ (pkb_len hb hP) (pkb_len hb hP)
theorem sbA_left {o n : Nat} {b : Bool} {bf y : List UInt8} {P : List (List UInt8)} (h : o < n) (h2 : 2 ≤ n) (hi : o ≤ spl n) (hl : P.length = (gds o (spl n)).length + (if knb o (spl n) b then 0 else 1)) : sbA o n b bf (P ++ [y]) = ((sbA o (spl n) b bf P).1, ndp (sbA o (spl n) b bf P).2 y) := by
  unfold sbA
  rw [knb_left b h h2 hi, gds_left h h2 hi, (pkb_snoc (bf := bf) (y := y) hl).1, clt_snoc _ _ _ _ _ _ (pkb_snoc (bf := bf) (y := y) hl).2]
  rfl
theorem sbA_right {o n : Nat} {b : Bool} {bf y : List UInt8} {P : List (List UInt8)} (h : o < n) (h2 : 2 ≤ n) (hi : ¬ o ≤ spl n) (hl : P.length = (gds (o - spl n) (n - spl n)).length + 1) : sbA o n b bf (P ++ [y]) = (ndp y (sbA (o - spl n) (n - spl n) false bf P).1, ndp y (sbA (o - spl n) (n - spl n) false bf P).2) := by
  unfold sbA
  rw [knb_right b h h2 hi, knb_false, gds_right h h2 hi]
  have hl' : P.length = (gds (o - spl n) (n - spl n)).length + (if false then 0 else 1) := hl
  rw [(pkb_snoc (bf := bf) (y := y) hl').1, clt_snoc _ _ _ _ _ _ (pkb_snoc (bf := bf) (y := y) hl').2]
  rfl
set_option maxRecDepth 100000 in
set_option maxHeartbeats 2000000 in
theorem rsteps_any (o n : Nat) (h1 : 1 ≤ o) (ho : o ≤ n) (hn2 : n ≤ 9223372036854775808) (w : World) :
    Calls Tryd.prog 38 #[.int .u64 (o : Int), .int .u64 (n : Int)] w fun e w' => e = .returned (.int .i64 (((gds o n).length + (if knb o n true then 0 else 1) : Nat) : Int)) ∧ w' = w := by
  obtain ⟨K, hK⟩ : ∃ K, K = (gds o n).length + (if knb o n true then 0 else 1) := ⟨_, rfl⟩
  have HK : Hid (K = (gds o n).length + (if knb o n true then 0 else 1)) := hK
  have hlen : (gds o n).length ≤ 63 := gds_len 63 n o (Nat.le_trans hn2 (by decide))
  have HLEN := hid_of hlen
  have QH : Hid (∀ (m : Nat) V, 2 ≤ m → m ≤ 9223372036854775808 → Calls Tryd.prog 46 #[.int .u64 (m : Int)] V fun e w' => e = .returned (.int .u64 ((spl m : Nat) : Int)) ∧ w' = V) := fun m V h1 h2 => rhalf_any m h1 h2 V
  rw [← hK]
  have HI : Hid (1 ≤ o ∧ o ≤ n ∧ n ≤ 9223372036854775808) := ⟨h1, ho, hn2⟩
  clear h1 ho hn2 hK hlen
  go_enter Tryd.func38, Tryd.ntmps38
  go_wp2
  go_loopw [0, 1, 5, 6] (fun x y z u wr => wr = w ∧ ∃ (o' n' c : Nat) (wh : Bool), x = .int .u64 (o' : Int) ∧ y = .int .u64 (n' : Int) ∧ z = .int .i64 (c : Int) ∧ u = .bool wh ∧ 1 ≤ o' ∧ o' ≤ n' ∧ n' ≤ 9223372036854775808 ∧ c + (gds o' n').length = (gds o n).length ∧ (wh && !decide (true ∈ gds o' n')) = knb o n true) (fun _ y _ _ _ => (intOf y).toNat)
  case atStart => exact ⟨rfl, o, n, 0, true, rfl, rfl, rfl, rfl, HI.out.1, HI.out.2.1, HI.out.2.2, by omega, rfl⟩
  case round =>
    obtain ⟨rfl, p, q, c, wh, rfl, rfl, rfl, rfl, hp1, hpq, hq, hs, hwh⟩ := hrel
    have HS : Hid (c + (gds p q).length = (gds o n).length) := hs
    have HWH : Hid ((wh && !decide (true ∈ gds p q)) = knb o n true) := hwh
    have hc63 : c ≤ 63 := by have := HLEN.out; omega
    clear hs hwh
    by_cases hlt : p < q
    · have h2 : 2 ≤ q := by omega
      have hq1 : (p : Int) < (q : Int) := by omega
      have hkl := spl_lt h2
      have hkp := spl_pos q
      have QH1 := hid_of (QH.out q wr h2 hq)
      have HL : Hid (p ≤ spl q → gds p q = gds p (spl q) ++ [false]) := fun h => gds_left hlt h2 h
      have HR : Hid (¬ p ≤ spl q → gds p q = gds (p - spl q) (q - spl q) ++ [true]) := fun h => gds_right hlt h2 h
      obtain ⟨k, hk⟩ : ∃ k, k = spl q := ⟨_, rfl⟩
      rw [← hk] at QH1 hkl hkp HL HR
      clear hk h2
      go_wp2_with fail
      refine (Calls.mono QH1.out) ?_
      rintro e w2 ⟨rfl, rfl⟩
      by_cases hp : p ≤ k
      · have hpi : (p : Int) ≤ (k : Int) := by omega
        have HL1 := hid_of (HL.out hp)
        go_wp2_with fail
        exact ⟨⟨trivial, p, k, c + 1, wh, rfl, rfl, by go_num, rfl, hp1, hp, by omega, by have := HS.out; rw [HL1.out] at this; simp at this; omega, by rw [← HWH.out, HL1.out]; simp⟩, by simp [intOf]; omega⟩
      · have hpi : ¬ (p : Int) ≤ (k : Int) := by omega
        have HR1 := hid_of (HR.out hp)
        obtain ⟨p', hp'⟩ : ∃ p', p = k + p' := ⟨p - k, by omega⟩
        obtain ⟨q', hq'⟩ : ∃ q', q = k + q' := ⟨q - k, by omega⟩
        subst hp' hq'
        go_wp2_with fail
        refine ⟨⟨trivial, p', q', c + 1, false, by go_num, by go_num, by go_num, rfl, by omega, by omega, by omega, ?_, ?_⟩, by simp [intOf]; omega⟩
        · have h1 := HS.out
          rw [HR1.out, show k + p' - k = p' by omega, show k + q' - k = q' by omega] at h1
          simp at h1
          omega
        · rw [← HWH.out, HR1.out]
          simp
    · obtain rfl : p = q := by omega
      have hq1 : ¬ (p : Int) < (p : Int) := by omega
      have hg : gds p p = [] := gds_same p
      have HKc : Hid (K = c + (if wh then 0 else 1)) := by
        show K = _
        have a1 := HS.out
        have a2 := HWH.out
        rw [hg] at a1 a2
        rw [HK.out, ← a1, ← a2]
        simp
      clear hg hlt
      cases wh
      · go_wp2
        go_ret
        exact ⟨by rw [HKc.out]; rfl, rfl⟩
      · go_wp2
        go_ret
        exact ⟨by rw [HKc.out]; rfl, rfl⟩
set_option maxRecDepth 100000 in
set_option maxHeartbeats 4000000 in
theorem sub_one (o : Nat) (bf : List UInt8) (hbf : bf.length = 32) (sl : Value) (w : World) :
    Calls Tryd.prog 39 #[.int .u64 (o : Int), .int .u64 (o : Int), .bool true, .agg (hbs bf), sl] w fun e w' => e = .returned (.tuple #[.agg (hbs bf), .agg (hbs bf)]) ∧ Nw w w' := by
  have hbfs : (hbs bf).size = 32 := by rw [hbs_size, hbf]
  clear hbf
  go_enter Tryd.func39, Tryd.ntmps39
  go_upto_region 1 with fail
  rw [z32_h]
  obtain ⟨wa, hwa⟩ : ∃ q, w.alloc (.cells (hbs bf) 24) = q := ⟨_, rfl⟩
  have na : Nw w wa := by rw [← hwa]; exact nwa w _
  have xa : wa.heap[w.heap.size]? = some (.cells (hbs bf) 24) := by rw [← hwa]; exact heap_new _ _
  have sa : wa.heap.size = w.heap.size + 1 := by rw [← hwa]; simp
  rw [hwa]
  obtain ⟨wb, hwb⟩ : ∃ q, wa.alloc (.cells z32 24) = q := ⟨_, rfl⟩
  have nb : Nw wa wb := by rw [← hwb]; exact nwa wa _
  have xb0 : wb.heap[wa.heap.size]? = some (.cells z32 24) := by rw [← hwb]; exact heap_new _ _
  have sb : wb.heap.size = w.heap.size + 2 := by rw [← hwb]; simp [sa]
  rw [hwb]
  rw [sa] at xb0
  obtain ⟨w1, hwc⟩ : ∃ q, wb.alloc (.cells z32 24) = q := ⟨_, rfl⟩
  have nc : Nw wb w1 := by rw [← hwc]; exact nwa wb _
  have xc : w1.heap[wb.heap.size]? = some (.cells z32 24) := by rw [← hwc]; exact heap_new _ _
  rw [hwc]
  rw [sb] at xc
  obtain ⟨xb, hxb⟩ : ∃ q, q = w.heap.size := ⟨_, rfl⟩
  have N1 : Hid (Nw w w1) := (na.tr nb).tr nc
  have xa1 := ((nb.tr nc).block _ (heap_lt xa) (fun f => f)).trans xa
  have xb1 := (nc.block _ (heap_lt xb0) (fun f => f)).trans xb0
  rw [← hxb] at xa1 xb1 xc ⊢
  obtain ⟨p1, hp1⟩ : ∃ q, q = xb + 1 := ⟨_, rfl⟩
  obtain ⟨p2, hp2⟩ : ∃ q, q = p1 + 1 := ⟨_, rfl⟩
  rw [← hp1] at xb1
  rw [show xb + 2 = p1 + 1 by omega, ← hp2] at xc
  rw [← hp1, ← hp2]
  have HXB : Hid (w1.heap[xb]? = some (.cells (hbs bf) 24)) := xa1
  have HP1 : Hid (w1.heap[p1]? = some (.cells z32 24)) := xb1
  have HP2 : Hid (w1.heap[p2]? = some (.cells z32 24)) := xc
  have HNE : Hid (w.heap.size = xb ∧ xb < p1 ∧ p1 < p2) := by refine ⟨?_, ?_, ?_⟩ <;> omega
  clear hwa na xa sa hwb nb xb0 sb hwc nc xc xa1 xb1 hxb hp1 hp2
  have NX : Hid (Nw w w1) := N1.out
  have HQ1 : Hid (w1.heap[p1]? = some (.cells z32 24)) := HP1.out
  have HQ2 : Hid (w1.heap[p2]? = some (.cells z32 24)) := HP2.out
  have HXC : Hid (∀ W, Fr (fun k => k = p1 ∨ k = p2) w1 W → ∀ j, j < 32 → W.cell? ⟨xb, 0 + j, none⟩ = (hbs bf)[j]?) := fun W hW => hash_cells ((hW.block _ (heap_lt HXB.out) (fun q => by have := HNE.out; omega)).trans HXB.out)
  go_upto_region 3 with fail
  have nb : Nw w1 w1.drew := (Fr.refl _ _).drew
  refine wp_region_held_drew (S := (fun V => Fr (fun k => k = p1 ∨ k = p2) w1 V)) (by kernel_rfl) (by first | exact nb.mono (fun _ _ f => f.elim) | exact nb) ?_
  intro hS0
  refine wpAnyH_take (i := 0) (oi := ({ dst := some 22, op := Op.load 24 (Operand.tmp 8), type := 24, pos := "ref.go:76", after := #[], guard := none } : Oper)) (v := .agg (hbs bf)) rfl (by kernel_rfl) (by kernel_rfl) (by kernel_rfl) (fun _ _ _ h => h) (yields_loadA (by kernel_rfl) (.tmp 8) 24 32 rfl Tryd.isAgg24 Tryd.sizeOf24 xb (0) rfl (hbs bf) hbfs (fun w hw => HXC.out w hw)) hS0 ?_
  try simp only [Act.put, List.setIfInBounds_toArray, List.set_cons_zero, List.set_cons_succ]
  refine wpAnyH_take (i := 1) (oi := ({ dst := some 23, op := Op.load 24 (Operand.tmp 8), type := 24, pos := "ref.go:76", after := #[{ on := 2, ground := Ground.gcOnly Departure.lateStores }], guard := none } : Oper)) (v := .agg (hbs bf)) rfl (by kernel_rfl) (by kernel_rfl) (by kernel_rfl) (fun _ _ _ h => h) (yields_loadA (by kernel_rfl) (.tmp 8) 24 32 rfl Tryd.isAgg24 Tryd.sizeOf24 xb (0) rfl (hbs bf) hbfs (fun w hw => HXC.out w hw)) hS0 ?_
  try simp only [Act.put, List.setIfInBounds_toArray, List.set_cons_zero, List.set_cons_succ]
  refine wpAnyH_ready (rs := [2]) (by kernel_rfl) (by simp) ?_
  refine (AllReadyH.cons (o := ({ dst := none, op := Op.store 24 (Operand.tmp 10) (Operand.tmp 22), type := 0, pos := "ref.go:76", after := #[{ on := 0, ground := Ground.data }, { on := 0, ground := Ground.phase }, { on := 1, ground := Ground.textOnly Departure.lateStores }], guard := none } : Oper)) rfl (fun K' hK => ?_) AllReadyH.nil)
  have jz := (nb.block _ (heap_lt HQ1.out) (fun f => f)).trans HQ1.out
  have jy := (nb.block _ (heap_lt HQ2.out) (fun f => f)).trans HQ2.out
  refine step_store_agg rfl (.tmp 10) (.tmp 22) 24 32 rfl Tryd.sizeOf24 p1 0 rfl z32 24 jz (hbs bf) rfl hbfs (hbs_one _) (by decide) (hbs bf) (by rw [dropA z32_size]; simp) ?_
  intro w8 j8 f8 z8
  clear z8
  have jy8 := (f8.block _ (heap_lt jy) (fun q => by have := HNE.out; omega)).trans jy
  have nf : Fr (fun k => k = p1 ∨ k = p2) w1 w8 := (nb.mono (fun _ _ f => f.elim)).trans f8 (fun j _ h => Or.inl h)
  have nb := nf
  refine hK.out _ _ (by first | exact nb.mono (fun _ _ f => f.elim) | exact nb) (fun hS0 => ?_)
  try simp only [Act.put, List.setIfInBounds_toArray, List.set_cons_zero, List.set_cons_succ]
  refine wpAnyH_ready (rs := [3]) (by kernel_rfl) (by simp) ?_
  refine (AllReadyH.cons (o := ({ dst := none, op := Op.store 24 (Operand.tmp 11) (Operand.tmp 23), type := 0, pos := "ref.go:76", after := #[{ on := 1, ground := Ground.data }, { on := 2, ground := Ground.chain }, { on := 0, ground := Ground.phase }, { on := 1, ground := Ground.phase }, { on := 2, ground := Ground.phase }], guard := none } : Oper)) rfl (fun K' hK => ?_) AllReadyH.nil)
  refine step_store_agg rfl (.tmp 11) (.tmp 23) 24 32 rfl Tryd.sizeOf24 p2 0 rfl z32 24 jy8 (hbs bf) rfl hbfs (hbs_one _) (by decide) (hbs bf) (by rw [dropA z32_size]; simp) ?_
  intro w9 j9 f9 z9
  clear z9
  have j89 := (f9.block _ (heap_lt j8) (fun q => by have := HNE.out; omega)).trans j8
  have nf : Fr (fun k => k = p1 ∨ k = p2) w1 w9 := nb.trans f9 (fun j _ h => Or.inr h)
  have nb := nf
  refine hK.out _ _ (by first | exact nb.mono (fun _ _ f => f.elim) | exact nb) (fun hS0 => ?_)
  try simp only [Act.put, List.setIfInBounds_toArray, List.set_cons_zero, List.set_cons_succ]
  refine wpAnyH_done (by kernel_rfl) ?_ _
  go_wp2_with fail
  exact bodyPost_ret (results_cellsV Tryd.results39 Tryd.isAgg24 Tryd.sizeOf24 Tryd.isAgg24 Tryd.sizeOf24 rfl rfl j89 hbfs j9 hbfs) rfl ⟨rfl, NX.out.trans nb (fun k hk q => by have := HNE.out; rcases q with q | q <;> omega)⟩
set_option maxRecDepth 100000 in
set_option maxHeartbeats 4000000 in
theorem sub_first (o : Nat) (bf y : List UInt8) (hbf : bf.length = 32) (hy : y.length = 32) (g o0 cap : Nat) (w : World) (hyc : ∀ j, j < 32 → w.cell? ⟨g, o0 + j, none⟩ = (hbs y)[j]?) :
    Calls Tryd.prog 39 #[.int .u64 (o : Int), .int .u64 (o : Int), .bool false, .agg (hbs bf), .slice (some ⟨g, o0, none⟩) 1 cap] w fun e w' => e = .returned (.tuple #[.agg (hbs y), .agg (hbs y)]) ∧ Nw w w' := by
  have hbfs : (hbs bf).size = 32 := by rw [hbs_size, hbf]
  have hys : (hbs y).size = 32 := by rw [hbs_size, hy]
  have HY0 := hid_of hyc
  clear hbf hy hyc
  go_enter Tryd.func39, Tryd.ntmps39
  go_upto_region 1 with fail
  rw [z32_h]
  obtain ⟨wa, hwa⟩ : ∃ q, w.alloc (.cells (hbs bf) 24) = q := ⟨_, rfl⟩
  have na : Nw w wa := by rw [← hwa]; exact nwa w _
  have xa : wa.heap[w.heap.size]? = some (.cells (hbs bf) 24) := by rw [← hwa]; exact heap_new _ _
  have sa : wa.heap.size = w.heap.size + 1 := by rw [← hwa]; simp
  rw [hwa]
  obtain ⟨wb, hwb⟩ : ∃ q, wa.alloc (.cells z32 24) = q := ⟨_, rfl⟩
  have nb : Nw wa wb := by rw [← hwb]; exact nwa wa _
  have xb0 : wb.heap[wa.heap.size]? = some (.cells z32 24) := by rw [← hwb]; exact heap_new _ _
  have sb : wb.heap.size = w.heap.size + 2 := by rw [← hwb]; simp [sa]
  rw [hwb]
  rw [sa] at xb0
  obtain ⟨w1, hwc⟩ : ∃ q, wb.alloc (.cells z32 24) = q := ⟨_, rfl⟩
  have nc : Nw wb w1 := by rw [← hwc]; exact nwa wb _
  have xc : w1.heap[wb.heap.size]? = some (.cells z32 24) := by rw [← hwc]; exact heap_new _ _
  rw [hwc]
  rw [sb] at xc
  obtain ⟨xb, hxb⟩ : ∃ q, q = w.heap.size := ⟨_, rfl⟩
  have N1 : Hid (Nw w w1) := (na.tr nb).tr nc
  have xa1 := ((nb.tr nc).block _ (heap_lt xa) (fun f => f)).trans xa
  have xb1 := (nc.block _ (heap_lt xb0) (fun f => f)).trans xb0
  rw [← hxb] at xa1 xb1 xc ⊢
  obtain ⟨p1, hp1⟩ : ∃ q, q = xb + 1 := ⟨_, rfl⟩
  obtain ⟨p2, hp2⟩ : ∃ q, q = p1 + 1 := ⟨_, rfl⟩
  rw [← hp1] at xb1
  rw [show xb + 2 = p1 + 1 by omega, ← hp2] at xc
  rw [← hp1, ← hp2]
  have HXB : Hid (w1.heap[xb]? = some (.cells (hbs bf) 24)) := xa1
  have HP1 : Hid (w1.heap[p1]? = some (.cells z32 24)) := xb1
  have HP2 : Hid (w1.heap[p2]? = some (.cells z32 24)) := xc
  have HNE : Hid (w.heap.size = xb ∧ xb < p1 ∧ p1 < p2) := by refine ⟨?_, ?_, ?_⟩ <;> omega
  clear hwa na xa sa hwb nb xb0 sb hwc nc xc xa1 xb1 hxb hp1 hp2
  have NX : Hid (Nw w w1) := N1.out
  have HQ1 : Hid (w1.heap[p1]? = some (.cells z32 24)) := HP1.out
  have HQ2 : Hid (w1.heap[p2]? = some (.cells z32 24)) := HP2.out
  have HYC : Hid (∀ W, Fr (fun k => k = p1 ∨ k = p2) w1 W → ∀ j, j < 32 → W.cell? ⟨g, o0 + j, none⟩ = (hbs y)[j]?) := fun W hW j hj => by
    have h5 : (hbs y)[j]? = some (hbs y)[j] := Array.getElem?_eq_getElem (by omega)
    have h6 := HY0.out j hj
    rw [h5] at h6 ⊢
    have hlt := World.block_lt_of_cell? w ⟨g, o0 + j, none⟩ h6
    have h7 := NX.out.cellOf h6
    exact (hW.cell (p := ⟨g, o0 + j, none⟩) (by have := NX.out.size; simp only at hlt ⊢; omega) (fun q => by have := HNE.out; simp only at hlt q; omega)).trans h7
  go_upto_region 4 with fail
  have nb : Nw w1 w1.drew := (Fr.refl _ _).drew
  refine wp_region_held_drew (S := (fun V => Fr (fun k => k = p1 ∨ k = p2) w1 V)) (by kernel_rfl) (by first | exact nb.mono (fun _ _ f => f.elim) | exact nb) ?_
  intro hS0
  refine wpAnyH_take (i := 0) (oi := ({ dst := some 24, op := Op.move (Operand.tmp 4), type := 25, pos := "ref.go:78", after := #[], guard := none } : Oper)) (v := .slice (some ⟨g, o0, none⟩) 1 cap) rfl (by kernel_rfl) (by kernel_rfl) (by kernel_rfl) (fun _ _ _ h => h) (Or.inl ⟨by rfl, by intro w hw; go_simp⟩) hS0 ?_
  try simp only [Act.put, List.setIfInBounds_toArray, List.set_cons_zero, List.set_cons_succ]
  refine wpAnyH_take (i := 1) (oi := ({ dst := some 25, op := Op.indexAddr 25 (Operand.tmp 24) (Operand.const (Value.int IntKind.i64 0)), type := 0, pos := "ref.go:78", after := #[{ on := 0, ground := Ground.data }], guard := none } : Oper)) (v := .pointer (some ⟨g, o0, none⟩)) rfl (by kernel_rfl) (by kernel_rfl) (by kernel_rfl) (fun _ _ _ h => h) (Or.inl ⟨by rfl, by intro w hw; go_simp; try (intro hq; omega)⟩) hS0 ?_
  try simp only [Act.put, List.setIfInBounds_toArray, List.set_cons_zero, List.set_cons_succ]
  refine wpAnyH_take (i := 2) (oi := ({ dst := some 26, op := Op.load 24 (Operand.tmp 25), type := 24, pos := "ref.go:78", after := #[{ on := 1, ground := Ground.data }], guard := none } : Oper)) (v := .agg (hbs y)) rfl (by kernel_rfl) (by kernel_rfl) (by kernel_rfl) (fun _ _ _ h => h) (yields_loadA (by kernel_rfl) (.tmp 25) 24 32 rfl Tryd.isAgg24 Tryd.sizeOf24 g (o0) rfl (hbs y) hys (fun w hw => HYC.out w hw)) hS0 ?_
  try simp only [Act.put, List.setIfInBounds_toArray, List.set_cons_zero, List.set_cons_succ]
  refine wpAnyH_take (i := 3) (oi := ({ dst := some 27, op := Op.move (Operand.tmp 4), type := 25, pos := "ref.go:78", after := #[{ on := 6, ground := Ground.gcOnly Departure.lateStores }], guard := none } : Oper)) (v := .slice (some ⟨g, o0, none⟩) 1 cap) rfl (by kernel_rfl) (by kernel_rfl) (by kernel_rfl) (fun _ _ _ h => h) (Or.inl ⟨by rfl, by intro w hw; go_simp⟩) hS0 ?_
  try simp only [Act.put, List.setIfInBounds_toArray, List.set_cons_zero, List.set_cons_succ]
  refine wpAnyH_take (i := 4) (oi := ({ dst := some 28, op := Op.indexAddr 25 (Operand.tmp 27) (Operand.const (Value.int IntKind.i64 0)), type := 0, pos := "ref.go:78", after := #[{ on := 3, ground := Ground.data }, { on := 6, ground := Ground.gcOnly Departure.lateStores }], guard := none } : Oper)) (v := .pointer (some ⟨g, o0, none⟩)) rfl (by kernel_rfl) (by kernel_rfl) (by kernel_rfl) (fun _ _ _ h => h) (Or.inl ⟨by rfl, by intro w hw; go_simp; try (intro hq; omega)⟩) hS0 ?_
  try simp only [Act.put, List.setIfInBounds_toArray, List.set_cons_zero, List.set_cons_succ]
  refine wpAnyH_take (i := 5) (oi := ({ dst := some 29, op := Op.load 24 (Operand.tmp 28), type := 24, pos := "ref.go:78", after := #[{ on := 4, ground := Ground.data }, { on := 6, ground := Ground.gcOnly Departure.lateStores }], guard := none } : Oper)) (v := .agg (hbs y)) rfl (by kernel_rfl) (by kernel_rfl) (by kernel_rfl) (fun _ _ _ h => h) (yields_loadA (by kernel_rfl) (.tmp 28) 24 32 rfl Tryd.isAgg24 Tryd.sizeOf24 g (o0) rfl (hbs y) hys (fun w hw => HYC.out w hw)) hS0 ?_
  try simp only [Act.put, List.setIfInBounds_toArray, List.set_cons_zero, List.set_cons_succ]
  refine wpAnyH_ready (rs := [6]) (by kernel_rfl) (by simp) ?_
  refine (AllReadyH.cons (o := ({ dst := none, op := Op.store 24 (Operand.tmp 10) (Operand.tmp 26), type := 0, pos := "ref.go:78", after := #[{ on := 2, ground := Ground.data }, { on := 0, ground := Ground.phase }, { on := 1, ground := Ground.phase }, { on := 2, ground := Ground.phase }, { on := 3, ground := Ground.textOnly Departure.lateStores }, { on := 4, ground := Ground.textOnly Departure.lateStores }, { on := 5, ground := Ground.textOnly Departure.lateStores }], guard := none } : Oper)) rfl (fun K' hK => ?_) AllReadyH.nil)
  have jz := (nb.block _ (heap_lt HQ1.out) (fun f => f)).trans HQ1.out
  have jy := (nb.block _ (heap_lt HQ2.out) (fun f => f)).trans HQ2.out
  refine step_store_agg rfl (.tmp 10) (.tmp 26) 24 32 rfl Tryd.sizeOf24 p1 0 rfl z32 24 jz (hbs y) rfl hys (hbs_one _) (by decide) (hbs y) (by rw [dropA z32_size]; simp) ?_
  intro w8 j8 f8 z8
  clear z8
  have jy8 := (f8.block _ (heap_lt jy) (fun q => by have := HNE.out; omega)).trans jy
  have nf : Fr (fun k => k = p1 ∨ k = p2) w1 w8 := (nb.mono (fun _ _ f => f.elim)).trans f8 (fun j _ h => Or.inl h)
  have nb := nf
  refine hK.out _ _ (by first | exact nb.mono (fun _ _ f => f.elim) | exact nb) (fun hS0 => ?_)
  try simp only [Act.put, List.setIfInBounds_toArray, List.set_cons_zero, List.set_cons_succ]
  refine wpAnyH_ready (rs := [7]) (by kernel_rfl) (by simp) ?_
  refine (AllReadyH.cons (o := ({ dst := none, op := Op.store 24 (Operand.tmp 11) (Operand.tmp 29), type := 0, pos := "ref.go:78", after := #[{ on := 5, ground := Ground.data }, { on := 6, ground := Ground.chain }, { on := 0, ground := Ground.phase }, { on := 1, ground := Ground.phase }, { on := 2, ground := Ground.phase }, { on := 3, ground := Ground.phase }, { on := 4, ground := Ground.phase }, { on := 5, ground := Ground.phase }, { on := 6, ground := Ground.phase }], guard := none } : Oper)) rfl (fun K' hK => ?_) AllReadyH.nil)
  refine step_store_agg rfl (.tmp 11) (.tmp 29) 24 32 rfl Tryd.sizeOf24 p2 0 rfl z32 24 jy8 (hbs y) rfl hys (hbs_one _) (by decide) (hbs y) (by rw [dropA z32_size]; simp) ?_
  intro w9 j9 f9 z9
  clear z9
  have j89 := (f9.block _ (heap_lt j8) (fun q => by have := HNE.out; omega)).trans j8
  have nf : Fr (fun k => k = p1 ∨ k = p2) w1 w9 := nb.trans f9 (fun j _ h => Or.inr h)
  have nb := nf
  refine hK.out _ _ (by first | exact nb.mono (fun _ _ f => f.elim) | exact nb) (fun hS0 => ?_)
  try simp only [Act.put, List.setIfInBounds_toArray, List.set_cons_zero, List.set_cons_succ]
  refine wpAnyH_done (by kernel_rfl) ?_ _
  go_wp2_with fail
  exact bodyPost_ret (results_cellsV Tryd.results39 Tryd.isAgg24 Tryd.sizeOf24 Tryd.isAgg24 Tryd.sizeOf24 rfl rfl j89 hys j9 hys) rfl ⟨rfl, NX.out.trans nb (fun k hk q => by have := HNE.out; rcases q with q | q <;> omega)⟩
set_option maxRecDepth 100000 in
set_option maxHeartbeats 8000000 in
theorem sub_left (o n k m : Nat) (b : Bool) (bf X Y y : List UInt8) (hbf : bf.length = 32) (hX : X.length = 32) (hY : Y.length = 32) (hy : y.length = 32) (g o0 cap : Nat) (w : World) (hon : o < n) (hn : 2 ≤ n) (hn2 : n ≤ 9223372036854775808) (hk : k = spl n) (hcap : m + 1 ≤ cap) (hm : m < 1000)
    (hyc : ∀ j, j < 32 → w.cell? ⟨g, o0 + m * 32 + j, none⟩ = (hbs y)[j]?) (hik : o ≤ k) (QA0 : ∀ W, Nw w W → Calls Tryd.prog 39 #[.int .u64 (o : Int), .int .u64 (k : Int), .bool b, .agg (hbs bf), .slice (some ⟨g, o0, none⟩) m cap] W fun e w' => e = .returned (.tuple #[.agg (hbs X), .agg (hbs Y)]) ∧ Nw W w') :
    Calls Tryd.prog 39 #[.int .u64 (o : Int), .int .u64 (n : Int), .bool b, .agg (hbs bf), .slice (some ⟨g, o0, none⟩) (m + 1) cap] w fun e w' => e = .returned (.tuple #[.agg (hbs X), .agg (hbs (ndp Y y))]) ∧ Nw w w' := by
  have QA := hid_of QA0
  have hbfs : (hbs bf).size = 32 := by rw [hbs_size, hbf]
  have hXs : (hbs X).size = 32 := by rw [hbs_size, hX]
  have hYs : (hbs Y).size = 32 := by rw [hbs_size, hY]
  have hys : (hbs y).size = 32 := by rw [hbs_size, hy]
  have HY0 := hid_of hyc
  have QH0 : ∀ V : World, Calls Tryd.prog 46 #[.int .u64 (n : Int)] V fun e w' => e = .returned (.int .u64 ((k : Nat) : Int)) ∧ w' = V := fun V => by rw [hk]; exact rhalf_any n hn hn2 V
  have QH := hid_of QH0
  have hcu := fun W => cut_hh (some ⟨g, o0, none⟩) (m + 1) cap m (by omega) W
  have hn1 : ((o : Int) == (n : Int)) = false := by rw [beq_eq_false_iff_ne]; omega
  have hmn : ((m : Int) + 1 : Int) - 1 = (m : Int) := by omega
  have QN10 : ∀ V : World, Calls Tryd.prog 47 #[.agg (hbs Y), .agg (hbs y)] V fun e w' => e = .returned (.agg (hbs (ndp Y y))) ∧ Nw V w' := fun V => Rf.refnode_any Y y hY hy V
  have QN1 := hid_of QN10
  have hz1s : (hbs (ndp Y y)).size = 32 := by rw [hbs_size, ndp_len]
  obtain ⟨z1, hz1⟩ : ∃ z, z = ndp Y y := ⟨_, rfl⟩
  rw [← hz1] at QN1 hz1s ⊢
  have hik1 : (o : Int) ≤ (k : Int) := by omega
  clear QN10 hz1
  clear QA0 QH0 hbf hX hY hy hyc hk hik hn hon
  go_enter Tryd.func39, Tryd.ntmps39
  go_upto_region 1 with fail
  rw [z32_h]
  obtain ⟨wa, hwa⟩ : ∃ q, w.alloc (.cells (hbs bf) 24) = q := ⟨_, rfl⟩
  have na : Nw w wa := by rw [← hwa]; exact nwa w _
  have xa : wa.heap[w.heap.size]? = some (.cells (hbs bf) 24) := by rw [← hwa]; exact heap_new _ _
  have sa : wa.heap.size = w.heap.size + 1 := by rw [← hwa]; simp
  rw [hwa]
  obtain ⟨wb, hwb⟩ : ∃ q, wa.alloc (.cells z32 24) = q := ⟨_, rfl⟩
  have nb : Nw wa wb := by rw [← hwb]; exact nwa wa _
  have xb0 : wb.heap[wa.heap.size]? = some (.cells z32 24) := by rw [← hwb]; exact heap_new _ _
  have sb : wb.heap.size = w.heap.size + 2 := by rw [← hwb]; simp [sa]
  rw [hwb]
  rw [sa] at xb0
  obtain ⟨w1, hwc⟩ : ∃ q, wb.alloc (.cells z32 24) = q := ⟨_, rfl⟩
  have nc : Nw wb w1 := by rw [← hwc]; exact nwa wb _
  have xc : w1.heap[wb.heap.size]? = some (.cells z32 24) := by rw [← hwc]; exact heap_new _ _
  rw [hwc]
  rw [sb] at xc
  obtain ⟨xb, hxb⟩ : ∃ q, q = w.heap.size := ⟨_, rfl⟩
  have N1 : Hid (Nw w w1) := (na.tr nb).tr nc
  have xa1 := ((nb.tr nc).block _ (heap_lt xa) (fun f => f)).trans xa
  have xb1 := (nc.block _ (heap_lt xb0) (fun f => f)).trans xb0
  rw [← hxb] at xa1 xb1 xc ⊢
  obtain ⟨p1, hp1⟩ : ∃ q, q = xb + 1 := ⟨_, rfl⟩
  obtain ⟨p2, hp2⟩ : ∃ q, q = p1 + 1 := ⟨_, rfl⟩
  rw [← hp1] at xb1
  rw [show xb + 2 = p1 + 1 by omega, ← hp2] at xc
  rw [← hp1, ← hp2]
  have HXB : Hid (w1.heap[xb]? = some (.cells (hbs bf) 24)) := xa1
  have HP1 : Hid (w1.heap[p1]? = some (.cells z32 24)) := xb1
  have HP2 : Hid (w1.heap[p2]? = some (.cells z32 24)) := xc
  have HNE : Hid (w.heap.size = xb ∧ xb < p1 ∧ p1 < p2) := by refine ⟨?_, ?_, ?_⟩ <;> omega
  clear hwa na xa sa hwb nb xb0 sb hwc nc xc xa1 xb1 hxb hp1 hp2
  have HXC1 : Hid (∀ W, Nw w1 W → ∀ j, j < 32 → W.cell? ⟨xb, 0 + j, none⟩ = (hbs bf)[j]?) := fun W hW => hash_cells ((hW.block _ (heap_lt HXB.out) (fun f => f)).trans HXB.out)
  go_wp2_with fail
  refine (Calls.mono (QH.out _)) ?_
  rintro e w2 ⟨rfl, h2⟩
  obtain rfl : w1 = w2 := h2.symm
  clear h2
  go_upto_region 8 with fail
  go_cut [14, 15] (fun u v wx => ∃ b1 b2 : Nat, u = .pointer (some ⟨b1, 0, none⟩) ∧ v = .pointer (some ⟨b2, 0, none⟩) ∧ w1.heap.size ≤ b1 ∧ w1.heap.size ≤ b2 ∧ wx.heap[b1]? = some (.cells (hbs X) 24) ∧ wx.heap[b2]? = some (.cells (hbs Y) 24) ∧ Nw w1 wx)
  case first =>
    have nb : Nw w1 w1.drew := (Fr.refl _ _).drew
    refine wp_region_held_drew (S := (fun V => Nw w1 V)) (by kernel_rfl) (nb) ?_
    intro hS0
    refine wpAnyH_take (i := 0) (oi := ({ dst := some 39, op := Op.move (Operand.tmp 0), type := 22, pos := "ref.go:83", after := #[], guard := none } : Oper)) (v := .int .u64 (o : Int)) rfl (by kernel_rfl) (by kernel_rfl) (by kernel_rfl) (fun _ _ _ h => h) (Or.inl ⟨by rfl, by intro w hw; go_simp⟩) hS0 ?_
    try simp only [Act.put, List.setIfInBounds_toArray, List.set_cons_zero, List.set_cons_succ]
    refine wpAnyH_take (i := 1) (oi := ({ dst := some 40, op := Op.move (Operand.tmp 12), type := 22, pos := "ref.go:83", after := #[], guard := none } : Oper)) (v := .int .u64 (k : Int)) rfl (by kernel_rfl) (by kernel_rfl) (by kernel_rfl) (fun _ _ _ h => h) (Or.inl ⟨by rfl, by intro w hw; go_simp⟩) hS0 ?_
    try simp only [Act.put, List.setIfInBounds_toArray, List.set_cons_zero, List.set_cons_succ]
    refine wpAnyH_take (i := 2) (oi := ({ dst := some 41, op := Op.move (Operand.tmp 2), type := 4, pos := "ref.go:83", after := #[], guard := none } : Oper)) (v := .bool b) rfl (by kernel_rfl) (by kernel_rfl) (by kernel_rfl) (fun _ _ _ h => h) (Or.inl ⟨by rfl, by intro w hw; go_simp⟩) hS0 ?_
    try simp only [Act.put, List.setIfInBounds_toArray, List.set_cons_zero, List.set_cons_succ]
    refine wpAnyH_take (i := 3) (oi := ({ dst := some 42, op := Op.load 24 (Operand.tmp 8), type := 24, pos := "ref.go:83", after := #[], guard := none } : Oper)) (v := .agg (hbs bf)) rfl (by kernel_rfl) (by kernel_rfl) (by kernel_rfl) (fun _ _ _ h => h) (yields_loadA (by kernel_rfl) (.tmp 8) 24 32 rfl Tryd.isAgg24 Tryd.sizeOf24 xb (0) rfl (hbs bf) hbfs (fun w hw => HXC1.out w hw)) hS0 ?_
    try simp only [Act.put, List.setIfInBounds_toArray, List.set_cons_zero, List.set_cons_succ]
    refine wpAnyH_take (i := 4) (oi := ({ dst := some 43, op := Op.move (Operand.tmp 4), type := 25, pos := "ref.go:83", after := #[], guard := none } : Oper)) (v := .slice (some ⟨g, o0, none⟩) (m + 1) cap) rfl (by kernel_rfl) (by kernel_rfl) (by kernel_rfl) (fun _ _ _ h => h) (Or.inl ⟨by rfl, by intro w hw; go_simp⟩) hS0 ?_
    try simp only [Act.put, List.setIfInBounds_toArray, List.set_cons_zero, List.set_cons_succ]
    refine wpAnyH_take (i := 5) (oi := ({ dst := some 44, op := Op.move (Operand.tmp 13), type := 3, pos := "ref.go:83", after := #[], guard := none } : Oper)) (v := .int .i64 (m : Int)) rfl (by kernel_rfl) (by kernel_rfl) (by kernel_rfl) (fun _ _ _ h => h) (Or.inl ⟨by rfl, by intro w hw; go_simp⟩) hS0 ?_
    try simp only [Act.put, List.setIfInBounds_toArray, List.set_cons_zero, List.set_cons_succ]
    refine wpAnyH_take (i := 6) (oi := ({ dst := some 45, op := Op.slice 25 (Operand.tmp 43) none (some (Operand.tmp 44)) none, type := 25, pos := "ref.go:83", after := #[{ on := 4, ground := Ground.data }, { on := 5, ground := Ground.data }], guard := none } : Oper)) (v := .slice (some ⟨g, o0, none⟩) m cap) rfl (by kernel_rfl) (by kernel_rfl) (by kernel_rfl) (fun _ _ _ h => h) (Or.inl ⟨by rfl, by intro w hw; have := hcu w; go_simp⟩) hS0 ?_
    try simp only [Act.put, List.setIfInBounds_toArray, List.set_cons_zero, List.set_cons_succ]
    refine wpAnyH_ready (rs := [7, 11, 12]) (by kernel_rfl) (by simp) ?_
    refine (AllReadyH.cons (o := ({ dst := some 46, op := Op.call { callee := Callee.value (Operand.func 39), args := #[Operand.tmp 39, Operand.tmp 40, Operand.tmp 41, Operand.tmp 42, Operand.tmp 45], argTypes := #[22, 22, 4, 24, 25] }, type := 79, pos := "ref.go:83", after := #[{ on := 0, ground := Ground.data }, { on := 1, ground := Ground.data }, { on := 2, ground := Ground.data }, { on := 3, ground := Ground.data }, { on := 6, ground := Ground.data }], guard := none } : Oper)) rfl (fun K' hK => ?_) (AllReadyH.cons (o := ({ dst := some 14, op := Op.alloc 24, type := 0, pos := "ref.go:83", after := #[], guard := none } : Oper)) rfl (fun K' hK => ?_) (AllReadyH.cons (o := ({ dst := some 15, op := Op.alloc 24, type := 0, pos := "ref.go:83", after := #[], guard := none } : Oper)) rfl (fun K' hK => ?_) AllReadyH.nil)))
    · go_simp
      go_wp2_with (go_at_call 39; refine (QA.out _ (N1.out.tr nb)).mono ?_; rintro ex w101 ⟨rfl, nw101⟩)
      have nb := nb.tr nw101
      refine hK.out _ _ (nb) (fun hS0 => ?_)
      try simp only [Act.put, List.setIfInBounds_toArray, List.set_cons_zero, List.set_cons_succ]
      refine wpAnyH_take (i := 8) (oi := ({ dst := some 38, op := Op.move (Operand.tmp 46), type := 79, pos := "ref.go:83", after := #[{ on := 7, ground := Ground.data }], guard := none } : Oper)) (v := .tuple #[.agg (hbs X), .agg (hbs Y)]) rfl (by kernel_rfl) (by kernel_rfl) (by kernel_rfl) (fun _ _ _ h => h) (Or.inl ⟨by rfl, by intro w hw; go_simp⟩) hS0 ?_
      try simp only [Act.put, List.setIfInBounds_toArray, List.set_cons_zero, List.set_cons_succ]
      refine wpAnyH_take (i := 9) (oi := ({ dst := some 47, op := Op.extract (Operand.tmp 38) 0, type := 24, pos := "ref.go:83", after := #[{ on := 8, ground := Ground.data }], guard := none } : Oper)) (v := .agg (hbs X)) rfl (by kernel_rfl) (by kernel_rfl) (by kernel_rfl) (fun _ _ _ h => h) (Or.inl ⟨by rfl, by intro w hw; go_simp⟩) hS0 ?_
      try simp only [Act.put, List.setIfInBounds_toArray, List.set_cons_zero, List.set_cons_succ]
      refine wpAnyH_take (i := 10) (oi := ({ dst := some 48, op := Op.extract (Operand.tmp 38) 1, type := 24, pos := "ref.go:83", after := #[{ on := 8, ground := Ground.data }, { on := 13, ground := Ground.gcOnly Departure.lateStores }], guard := none } : Oper)) (v := .agg (hbs Y)) rfl (by kernel_rfl) (by kernel_rfl) (by kernel_rfl) (fun _ _ _ h => h) (Or.inl ⟨by rfl, by intro w hw; go_simp⟩) hS0 ?_
      try simp only [Act.put, List.setIfInBounds_toArray, List.set_cons_zero, List.set_cons_succ]
      refine wpAnyH_ready (rs := [11, 12]) (by kernel_rfl) (by simp) ?_
      refine (AllReadyH.cons (o := ({ dst := some 14, op := Op.alloc 24, type := 0, pos := "ref.go:83", after := #[], guard := none } : Oper)) rfl (fun K' hK => ?_) (AllReadyH.cons (o := ({ dst := some 15, op := Op.alloc 24, type := 0, pos := "ref.go:83", after := #[], guard := none } : Oper)) rfl (fun K' hK => ?_) AllReadyH.nil))
      · refine step_alloc24 rfl rfl ?_
        have ha1 := heap_new (w101) (.cells z32 24)
        have hn1 := nwa (w101) (.cells z32 24)
        obtain ⟨wal1, hw1⟩ : ∃ q, (w101).alloc (.cells z32 24) = q := ⟨_, rfl⟩
        rw [hw1] at ha1 hn1 ⊢
        obtain ⟨b14, hb1⟩ : ∃ q, q = (w101).heap.size := ⟨_, rfl⟩
        rw [← hb1] at ha1 ⊢
        have LB14 : w1.heap.size ≤ b14 := by rw [hb1]; exact nb.size
        have BB14 := ha1
        have nb : Nw w1 wal1 := nb.tr hn1
        clear hw1 hb1 ha1 hn1
        refine hK.out _ _ (nb) (fun hS0 => ?_)
        try simp only [Act.put, List.setIfInBounds_toArray, List.set_cons_zero, List.set_cons_succ]
        refine wpAnyH_ready (rs := [12]) (by kernel_rfl) (by simp) ?_
        refine (AllReadyH.cons (o := ({ dst := some 15, op := Op.alloc 24, type := 0, pos := "ref.go:83", after := #[], guard := none } : Oper)) rfl (fun K' hK => ?_) AllReadyH.nil)
        refine step_alloc24 rfl rfl ?_
        have ha2 := heap_new (wal1) (.cells z32 24)
        have hn2 := nwa (wal1) (.cells z32 24)
        obtain ⟨wal2, hw2⟩ : ∃ q, (wal1).alloc (.cells z32 24) = q := ⟨_, rfl⟩
        rw [hw2] at ha2 hn2 ⊢
        obtain ⟨b15, hb2⟩ : ∃ q, q = (wal1).heap.size := ⟨_, rfl⟩
        rw [← hb2] at ha2 ⊢
        have LB15 : w1.heap.size ≤ b15 := by rw [hb2]; exact nb.size
        have BB15 := ha2
        have hne : b14 ≠ b15 := by rw [hb2]; have := heap_lt BB14; omega
        have BB14 := (hn2.block _ (heap_lt BB14) (fun f => f)).trans BB14
        have nb : Nw w1 wal2 := nb.tr hn2
        clear hw2 hb2 ha2 hn2
        refine hK.out _ _ (nb) (fun hS0 => ?_)
        try simp only [Act.put, List.setIfInBounds_toArray, List.set_cons_zero, List.set_cons_succ]
        refine wpAnyH_ready (rs := [13]) (by kernel_rfl) (by simp) ?_
        refine (AllReadyH.cons (o := ({ dst := none, op := Op.store 24 (Operand.tmp 14) (Operand.tmp 47), type := 0, pos := "ref.go:83", after := #[{ on := 11, ground := Ground.data }, { on := 9, ground := Ground.data }, { on := 7, ground := Ground.chain }, { on := 0, ground := Ground.phase }, { on := 1, ground := Ground.phase }, { on := 2, ground := Ground.phase }, { on := 3, ground := Ground.phase }, { on := 4, ground := Ground.phase }, { on := 5, ground := Ground.phase }, { on := 6, ground := Ground.phase }, { on := 7, ground := Ground.phase }, { on := 8, ground := Ground.phase }, { on := 9, ground := Ground.phase }, { on := 10, ground := Ground.textOnly Departure.lateStores }, { on := 11, ground := Ground.phase }, { on := 12, ground := Ground.phase }], guard := none } : Oper)) rfl (fun K' hK => ?_) AllReadyH.nil)
        refine step_store_agg rfl (.tmp 14) (.tmp 47) 24 32 rfl Tryd.sizeOf24 b14 0 rfl z32 24 BB14 (hbs X) rfl hXs (hbs_one _) (by decide) (hbs X) (by rw [dropA z32_size]; simp) ?_
        intro w814 j814 f814 z8
        clear z8
        have BB15 := (f814.block _ (heap_lt BB15) (fun q => by omega)).trans BB15
        have nb : Nw w1 w814 := nb.trans f814 (fun k hk q => by omega)
        refine hK.out _ _ (nb) (fun hS0 => ?_)
        try simp only [Act.put, List.setIfInBounds_toArray, List.set_cons_zero, List.set_cons_succ]
        refine wpAnyH_ready (rs := [14]) (by kernel_rfl) (by simp) ?_
        refine (AllReadyH.cons (o := ({ dst := none, op := Op.store 24 (Operand.tmp 15) (Operand.tmp 48), type := 0, pos := "ref.go:83", after := #[{ on := 12, ground := Ground.data }, { on := 10, ground := Ground.data }, { on := 13, ground := Ground.chain }, { on := 0, ground := Ground.phase }, { on := 1, ground := Ground.phase }, { on := 2, ground := Ground.phase }, { on := 3, ground := Ground.phase }, { on := 4, ground := Ground.phase }, { on := 5, ground := Ground.phase }, { on := 6, ground := Ground.phase }, { on := 7, ground := Ground.phase }, { on := 8, ground := Ground.phase }, { on := 9, ground := Ground.phase }, { on := 10, ground := Ground.phase }, { on := 11, ground := Ground.phase }, { on := 12, ground := Ground.phase }, { on := 13, ground := Ground.phase }], guard := none } : Oper)) rfl (fun K' hK => ?_) AllReadyH.nil)
        refine step_store_agg rfl (.tmp 15) (.tmp 48) 24 32 rfl Tryd.sizeOf24 b15 0 rfl z32 24 BB15 (hbs Y) rfl hYs (hbs_one _) (by decide) (hbs Y) (by rw [dropA z32_size]; simp) ?_
        intro w815 j815 f815 z8
        clear z8
        have j814 := (f815.block _ (heap_lt j814) (fun q => by omega)).trans j814
        have nb : Nw w1 w815 := nb.trans f815 (fun k hk q => by omega)
        refine hK.out _ _ (nb) (fun hS0 => ?_)
        try simp only [Act.put, List.setIfInBounds_toArray, List.set_cons_zero, List.set_cons_succ]
        refine wpAnyH_done (by kernel_rfl) ?_ _
        go_wp2_with fail
        go_meet
        exact ⟨b14, b15, rfl, rfl, LB14, LB15, j814, j815, nb⟩
      · refine step_alloc24 rfl rfl ?_
        have ha3 := heap_new (w101) (.cells z32 24)
        have hn3 := nwa (w101) (.cells z32 24)
        obtain ⟨wal3, hw3⟩ : ∃ q, (w101).alloc (.cells z32 24) = q := ⟨_, rfl⟩
        rw [hw3] at ha3 hn3 ⊢
        obtain ⟨b15, hb3⟩ : ∃ q, q = (w101).heap.size := ⟨_, rfl⟩
        rw [← hb3] at ha3 ⊢
        have LB15 : w1.heap.size ≤ b15 := by rw [hb3]; exact nb.size
        have BB15 := ha3
        have nb : Nw w1 wal3 := nb.tr hn3
        clear hw3 hb3 ha3 hn3
        refine hK.out _ _ (nb) (fun hS0 => ?_)
        try simp only [Act.put, List.setIfInBounds_toArray, List.set_cons_zero, List.set_cons_succ]
        refine wpAnyH_ready (rs := [11]) (by kernel_rfl) (by simp) ?_
        refine (AllReadyH.cons (o := ({ dst := some 14, op := Op.alloc 24, type := 0, pos := "ref.go:83", after := #[], guard := none } : Oper)) rfl (fun K' hK => ?_) AllReadyH.nil)
        refine step_alloc24 rfl rfl ?_
        have ha4 := heap_new (wal3) (.cells z32 24)
        have hn4 := nwa (wal3) (.cells z32 24)
        obtain ⟨wal4, hw4⟩ : ∃ q, (wal3).alloc (.cells z32 24) = q := ⟨_, rfl⟩
        rw [hw4] at ha4 hn4 ⊢
        obtain ⟨b14, hb4⟩ : ∃ q, q = (wal3).heap.size := ⟨_, rfl⟩
        rw [← hb4] at ha4 ⊢
        have LB14 : w1.heap.size ≤ b14 := by rw [hb4]; exact nb.size
        have BB14 := ha4
        have hne : b15 ≠ b14 := by rw [hb4]; have := heap_lt BB15; omega
        have BB15 := (hn4.block _ (heap_lt BB15) (fun f => f)).trans BB15
        have nb : Nw w1 wal4 := nb.tr hn4
        clear hw4 hb4 ha4 hn4
        refine hK.out _ _ (nb) (fun hS0 => ?_)
        try simp only [Act.put, List.setIfInBounds_toArray, List.set_cons_zero, List.set_cons_succ]
        refine wpAnyH_ready (rs := [13]) (by kernel_rfl) (by simp) ?_
        refine (AllReadyH.cons (o := ({ dst := none, op := Op.store 24 (Operand.tmp 14) (Operand.tmp 47), type := 0, pos := "ref.go:83", after := #[{ on := 11, ground := Ground.data }, { on := 9, ground := Ground.data }, { on := 7, ground := Ground.chain }, { on := 0, ground := Ground.phase }, { on := 1, ground := Ground.phase }, { on := 2, ground := Ground.phase }, { on := 3, ground := Ground.phase }, { on := 4, ground := Ground.phase }, { on := 5, ground := Ground.phase }, { on := 6, ground := Ground.phase }, { on := 7, ground := Ground.phase }, { on := 8, ground := Ground.phase }, { on := 9, ground := Ground.phase }, { on := 10, ground := Ground.textOnly Departure.lateStores }, { on := 11, ground := Ground.phase }, { on := 12, ground := Ground.phase }], guard := none } : Oper)) rfl (fun K' hK => ?_) AllReadyH.nil)
        refine step_store_agg rfl (.tmp 14) (.tmp 47) 24 32 rfl Tryd.sizeOf24 b14 0 rfl z32 24 BB14 (hbs X) rfl hXs (hbs_one _) (by decide) (hbs X) (by rw [dropA z32_size]; simp) ?_
        intro w814 j814 f814 z8
        clear z8
        have BB15 := (f814.block _ (heap_lt BB15) (fun q => by omega)).trans BB15
        have nb : Nw w1 w814 := nb.trans f814 (fun k hk q => by omega)
        refine hK.out _ _ (nb) (fun hS0 => ?_)
        try simp only [Act.put, List.setIfInBounds_toArray, List.set_cons_zero, List.set_cons_succ]
        refine wpAnyH_ready (rs := [14]) (by kernel_rfl) (by simp) ?_
        refine (AllReadyH.cons (o := ({ dst := none, op := Op.store 24 (Operand.tmp 15) (Operand.tmp 48), type := 0, pos := "ref.go:83", after := #[{ on := 12, ground := Ground.data }, { on := 10, ground := Ground.data }, { on := 13, ground := Ground.chain }, { on := 0, ground := Ground.phase }, { on := 1, ground := Ground.phase }, { on := 2, ground := Ground.phase }, { on := 3, ground := Ground.phase }, { on := 4, ground := Ground.phase }, { on := 5, ground := Ground.phase }, { on := 6, ground := Ground.phase }, { on := 7, ground := Ground.phase }, { on := 8, ground := Ground.phase }, { on := 9, ground := Ground.phase }, { on := 10, ground := Ground.phase }, { on := 11, ground := Ground.phase }, { on := 12, ground := Ground.phase }, { on := 13, ground := Ground.phase }], guard := none } : Oper)) rfl (fun K' hK => ?_) AllReadyH.nil)
        refine step_store_agg rfl (.tmp 15) (.tmp 48) 24 32 rfl Tryd.sizeOf24 b15 0 rfl z32 24 BB15 (hbs Y) rfl hYs (hbs_one _) (by decide) (hbs Y) (by rw [dropA z32_size]; simp) ?_
        intro w815 j815 f815 z8
        clear z8
        have j814 := (f815.block _ (heap_lt j814) (fun q => by omega)).trans j814
        have nb : Nw w1 w815 := nb.trans f815 (fun k hk q => by omega)
        refine hK.out _ _ (nb) (fun hS0 => ?_)
        try simp only [Act.put, List.setIfInBounds_toArray, List.set_cons_zero, List.set_cons_succ]
        refine wpAnyH_done (by kernel_rfl) ?_ _
        go_wp2_with fail
        go_meet
        exact ⟨b14, b15, rfl, rfl, LB14, LB15, j814, j815, nb⟩
    · refine step_alloc24 rfl rfl ?_
      have ha5 := heap_new (w1.drew) (.cells z32 24)
      have hn5 := nwa (w1.drew) (.cells z32 24)
      obtain ⟨wal5, hw5⟩ : ∃ q, (w1.drew).alloc (.cells z32 24) = q := ⟨_, rfl⟩
      rw [hw5] at ha5 hn5 ⊢
      obtain ⟨b14, hb5⟩ : ∃ q, q = (w1.drew).heap.size := ⟨_, rfl⟩
      rw [← hb5] at ha5 ⊢
      have LB14 : w1.heap.size ≤ b14 := by rw [hb5]; exact nb.size
      have BB14 := ha5
      have nb : Nw w1 wal5 := nb.tr hn5
      clear hw5 hb5 ha5 hn5
      refine hK.out _ _ (nb) (fun hS0 => ?_)
      try simp only [Act.put, List.setIfInBounds_toArray, List.set_cons_zero, List.set_cons_succ]
      refine wpAnyH_ready (rs := [7, 12]) (by kernel_rfl) (by simp) ?_
      refine (AllReadyH.cons (o := ({ dst := some 46, op := Op.call { callee := Callee.value (Operand.func 39), args := #[Operand.tmp 39, Operand.tmp 40, Operand.tmp 41, Operand.tmp 42, Operand.tmp 45], argTypes := #[22, 22, 4, 24, 25] }, type := 79, pos := "ref.go:83", after := #[{ on := 0, ground := Ground.data }, { on := 1, ground := Ground.data }, { on := 2, ground := Ground.data }, { on := 3, ground := Ground.data }, { on := 6, ground := Ground.data }], guard := none } : Oper)) rfl (fun K' hK => ?_) (AllReadyH.cons (o := ({ dst := some 15, op := Op.alloc 24, type := 0, pos := "ref.go:83", after := #[], guard := none } : Oper)) rfl (fun K' hK => ?_) AllReadyH.nil))
      · go_simp
        go_wp2_with (go_at_call 39; refine (QA.out _ (N1.out.tr nb)).mono ?_; rintro ex w102 ⟨rfl, nw102⟩)
        have nb := nb.tr nw102
        have BB14 := (nw102.block _ (heap_lt BB14) (fun f => f)).trans BB14
        refine hK.out _ _ (nb) (fun hS0 => ?_)
        try simp only [Act.put, List.setIfInBounds_toArray, List.set_cons_zero, List.set_cons_succ]
        refine wpAnyH_take (i := 8) (oi := ({ dst := some 38, op := Op.move (Operand.tmp 46), type := 79, pos := "ref.go:83", after := #[{ on := 7, ground := Ground.data }], guard := none } : Oper)) (v := .tuple #[.agg (hbs X), .agg (hbs Y)]) rfl (by kernel_rfl) (by kernel_rfl) (by kernel_rfl) (fun _ _ _ h => h) (Or.inl ⟨by rfl, by intro w hw; go_simp⟩) hS0 ?_
        try simp only [Act.put, List.setIfInBounds_toArray, List.set_cons_zero, List.set_cons_succ]
        refine wpAnyH_take (i := 9) (oi := ({ dst := some 47, op := Op.extract (Operand.tmp 38) 0, type := 24, pos := "ref.go:83", after := #[{ on := 8, ground := Ground.data }], guard := none } : Oper)) (v := .agg (hbs X)) rfl (by kernel_rfl) (by kernel_rfl) (by kernel_rfl) (fun _ _ _ h => h) (Or.inl ⟨by rfl, by intro w hw; go_simp⟩) hS0 ?_
        try simp only [Act.put, List.setIfInBounds_toArray, List.set_cons_zero, List.set_cons_succ]
        refine wpAnyH_take (i := 10) (oi := ({ dst := some 48, op := Op.extract (Operand.tmp 38) 1, type := 24, pos := "ref.go:83", after := #[{ on := 8, ground := Ground.data }, { on := 13, ground := Ground.gcOnly Departure.lateStores }], guard := none } : Oper)) (v := .agg (hbs Y)) rfl (by kernel_rfl) (by kernel_rfl) (by kernel_rfl) (fun _ _ _ h => h) (Or.inl ⟨by rfl, by intro w hw; go_simp⟩) hS0 ?_
        try simp only [Act.put, List.setIfInBounds_toArray, List.set_cons_zero, List.set_cons_succ]
        refine wpAnyH_ready (rs := [12]) (by kernel_rfl) (by simp) ?_
        refine (AllReadyH.cons (o := ({ dst := some 15, op := Op.alloc 24, type := 0, pos := "ref.go:83", after := #[], guard := none } : Oper)) rfl (fun K' hK => ?_) AllReadyH.nil)
        refine step_alloc24 rfl rfl ?_
        have ha6 := heap_new (w102) (.cells z32 24)
        have hn6 := nwa (w102) (.cells z32 24)
        obtain ⟨wal6, hw6⟩ : ∃ q, (w102).alloc (.cells z32 24) = q := ⟨_, rfl⟩
        rw [hw6] at ha6 hn6 ⊢
        obtain ⟨b15, hb6⟩ : ∃ q, q = (w102).heap.size := ⟨_, rfl⟩
        rw [← hb6] at ha6 ⊢
        have LB15 : w1.heap.size ≤ b15 := by rw [hb6]; exact nb.size
        have BB15 := ha6
        have hne : b14 ≠ b15 := by rw [hb6]; have := heap_lt BB14; omega
        have BB14 := (hn6.block _ (heap_lt BB14) (fun f => f)).trans BB14
        have nb : Nw w1 wal6 := nb.tr hn6
        clear hw6 hb6 ha6 hn6
        refine hK.out _ _ (nb) (fun hS0 => ?_)
        try simp only [Act.put, List.setIfInBounds_toArray, List.set_cons_zero, List.set_cons_succ]
        refine wpAnyH_ready (rs := [13]) (by kernel_rfl) (by simp) ?_
        refine (AllReadyH.cons (o := ({ dst := none, op := Op.store 24 (Operand.tmp 14) (Operand.tmp 47), type := 0, pos := "ref.go:83", after := #[{ on := 11, ground := Ground.data }, { on := 9, ground := Ground.data }, { on := 7, ground := Ground.chain }, { on := 0, ground := Ground.phase }, { on := 1, ground := Ground.phase }, { on := 2, ground := Ground.phase }, { on := 3, ground := Ground.phase }, { on := 4, ground := Ground.phase }, { on := 5, ground := Ground.phase }, { on := 6, ground := Ground.phase }, { on := 7, ground := Ground.phase }, { on := 8, ground := Ground.phase }, { on := 9, ground := Ground.phase }, { on := 10, ground := Ground.textOnly Departure.lateStores }, { on := 11, ground := Ground.phase }, { on := 12, ground := Ground.phase }], guard := none } : Oper)) rfl (fun K' hK => ?_) AllReadyH.nil)
        refine step_store_agg rfl (.tmp 14) (.tmp 47) 24 32 rfl Tryd.sizeOf24 b14 0 rfl z32 24 BB14 (hbs X) rfl hXs (hbs_one _) (by decide) (hbs X) (by rw [dropA z32_size]; simp) ?_
        intro w814 j814 f814 z8
        clear z8
        have BB15 := (f814.block _ (heap_lt BB15) (fun q => by omega)).trans BB15
        have nb : Nw w1 w814 := nb.trans f814 (fun k hk q => by omega)
        refine hK.out _ _ (nb) (fun hS0 => ?_)
        try simp only [Act.put, List.setIfInBounds_toArray, List.set_cons_zero, List.set_cons_succ]
        refine wpAnyH_ready (rs := [14]) (by kernel_rfl) (by simp) ?_
        refine (AllReadyH.cons (o := ({ dst := none, op := Op.store 24 (Operand.tmp 15) (Operand.tmp 48), type := 0, pos := "ref.go:83", after := #[{ on := 12, ground := Ground.data }, { on := 10, ground := Ground.data }, { on := 13, ground := Ground.chain }, { on := 0, ground := Ground.phase }, { on := 1, ground := Ground.phase }, { on := 2, ground := Ground.phase }, { on := 3, ground := Ground.phase }, { on := 4, ground := Ground.phase }, { on := 5, ground := Ground.phase }, { on := 6, ground := Ground.phase }, { on := 7, ground := Ground.phase }, { on := 8, ground := Ground.phase }, { on := 9, ground := Ground.phase }, { on := 10, ground := Ground.phase }, { on := 11, ground := Ground.phase }, { on := 12, ground := Ground.phase }, { on := 13, ground := Ground.phase }], guard := none } : Oper)) rfl (fun K' hK => ?_) AllReadyH.nil)
        refine step_store_agg rfl (.tmp 15) (.tmp 48) 24 32 rfl Tryd.sizeOf24 b15 0 rfl z32 24 BB15 (hbs Y) rfl hYs (hbs_one _) (by decide) (hbs Y) (by rw [dropA z32_size]; simp) ?_
        intro w815 j815 f815 z8
        clear z8
        have j814 := (f815.block _ (heap_lt j814) (fun q => by omega)).trans j814
        have nb : Nw w1 w815 := nb.trans f815 (fun k hk q => by omega)
        refine hK.out _ _ (nb) (fun hS0 => ?_)
        try simp only [Act.put, List.setIfInBounds_toArray, List.set_cons_zero, List.set_cons_succ]
        refine wpAnyH_done (by kernel_rfl) ?_ _
        go_wp2_with fail
        go_meet
        exact ⟨b14, b15, rfl, rfl, LB14, LB15, j814, j815, nb⟩
      · refine step_alloc24 rfl rfl ?_
        have ha7 := heap_new (wal5) (.cells z32 24)
        have hn7 := nwa (wal5) (.cells z32 24)
        obtain ⟨wal7, hw7⟩ : ∃ q, (wal5).alloc (.cells z32 24) = q := ⟨_, rfl⟩
        rw [hw7] at ha7 hn7 ⊢
        obtain ⟨b15, hb7⟩ : ∃ q, q = (wal5).heap.size := ⟨_, rfl⟩
        rw [← hb7] at ha7 ⊢
        have LB15 : w1.heap.size ≤ b15 := by rw [hb7]; exact nb.size
        have BB15 := ha7
        have hne : b14 ≠ b15 := by rw [hb7]; have := heap_lt BB14; omega
        have BB14 := (hn7.block _ (heap_lt BB14) (fun f => f)).trans BB14
        have nb : Nw w1 wal7 := nb.tr hn7
        clear hw7 hb7 ha7 hn7
        refine hK.out _ _ (nb) (fun hS0 => ?_)
        try simp only [Act.put, List.setIfInBounds_toArray, List.set_cons_zero, List.set_cons_succ]
        refine wpAnyH_ready (rs := [7]) (by kernel_rfl) (by simp) ?_
        refine (AllReadyH.cons (o := ({ dst := some 46, op := Op.call { callee := Callee.value (Operand.func 39), args := #[Operand.tmp 39, Operand.tmp 40, Operand.tmp 41, Operand.tmp 42, Operand.tmp 45], argTypes := #[22, 22, 4, 24, 25] }, type := 79, pos := "ref.go:83", after := #[{ on := 0, ground := Ground.data }, { on := 1, ground := Ground.data }, { on := 2, ground := Ground.data }, { on := 3, ground := Ground.data }, { on := 6, ground := Ground.data }], guard := none } : Oper)) rfl (fun K' hK => ?_) AllReadyH.nil)
        go_simp
        go_wp2_with (go_at_call 39; refine (QA.out _ (N1.out.tr nb)).mono ?_; rintro ex w103 ⟨rfl, nw103⟩)
        have nb := nb.tr nw103
        have BB14 := (nw103.block _ (heap_lt BB14) (fun f => f)).trans BB14
        have BB15 := (nw103.block _ (heap_lt BB15) (fun f => f)).trans BB15
        refine hK.out _ _ (nb) (fun hS0 => ?_)
        try simp only [Act.put, List.setIfInBounds_toArray, List.set_cons_zero, List.set_cons_succ]
        refine wpAnyH_take (i := 8) (oi := ({ dst := some 38, op := Op.move (Operand.tmp 46), type := 79, pos := "ref.go:83", after := #[{ on := 7, ground := Ground.data }], guard := none } : Oper)) (v := .tuple #[.agg (hbs X), .agg (hbs Y)]) rfl (by kernel_rfl) (by kernel_rfl) (by kernel_rfl) (fun _ _ _ h => h) (Or.inl ⟨by rfl, by intro w hw; go_simp⟩) hS0 ?_
        try simp only [Act.put, List.setIfInBounds_toArray, List.set_cons_zero, List.set_cons_succ]
        refine wpAnyH_take (i := 9) (oi := ({ dst := some 47, op := Op.extract (Operand.tmp 38) 0, type := 24, pos := "ref.go:83", after := #[{ on := 8, ground := Ground.data }], guard := none } : Oper)) (v := .agg (hbs X)) rfl (by kernel_rfl) (by kernel_rfl) (by kernel_rfl) (fun _ _ _ h => h) (Or.inl ⟨by rfl, by intro w hw; go_simp⟩) hS0 ?_
        try simp only [Act.put, List.setIfInBounds_toArray, List.set_cons_zero, List.set_cons_succ]
        refine wpAnyH_take (i := 10) (oi := ({ dst := some 48, op := Op.extract (Operand.tmp 38) 1, type := 24, pos := "ref.go:83", after := #[{ on := 8, ground := Ground.data }, { on := 13, ground := Ground.gcOnly Departure.lateStores }], guard := none } : Oper)) (v := .agg (hbs Y)) rfl (by kernel_rfl) (by kernel_rfl) (by kernel_rfl) (fun _ _ _ h => h) (Or.inl ⟨by rfl, by intro w hw; go_simp⟩) hS0 ?_
        try simp only [Act.put, List.setIfInBounds_toArray, List.set_cons_zero, List.set_cons_succ]
        refine wpAnyH_ready (rs := [13]) (by kernel_rfl) (by simp) ?_
        refine (AllReadyH.cons (o := ({ dst := none, op := Op.store 24 (Operand.tmp 14) (Operand.tmp 47), type := 0, pos := "ref.go:83", after := #[{ on := 11, ground := Ground.data }, { on := 9, ground := Ground.data }, { on := 7, ground := Ground.chain }, { on := 0, ground := Ground.phase }, { on := 1, ground := Ground.phase }, { on := 2, ground := Ground.phase }, { on := 3, ground := Ground.phase }, { on := 4, ground := Ground.phase }, { on := 5, ground := Ground.phase }, { on := 6, ground := Ground.phase }, { on := 7, ground := Ground.phase }, { on := 8, ground := Ground.phase }, { on := 9, ground := Ground.phase }, { on := 10, ground := Ground.textOnly Departure.lateStores }, { on := 11, ground := Ground.phase }, { on := 12, ground := Ground.phase }], guard := none } : Oper)) rfl (fun K' hK => ?_) AllReadyH.nil)
        refine step_store_agg rfl (.tmp 14) (.tmp 47) 24 32 rfl Tryd.sizeOf24 b14 0 rfl z32 24 BB14 (hbs X) rfl hXs (hbs_one _) (by decide) (hbs X) (by rw [dropA z32_size]; simp) ?_
        intro w814 j814 f814 z8
        clear z8
        have BB15 := (f814.block _ (heap_lt BB15) (fun q => by omega)).trans BB15
        have nb : Nw w1 w814 := nb.trans f814 (fun k hk q => by omega)
        refine hK.out _ _ (nb) (fun hS0 => ?_)
        try simp only [Act.put, List.setIfInBounds_toArray, List.set_cons_zero, List.set_cons_succ]
        refine wpAnyH_ready (rs := [14]) (by kernel_rfl) (by simp) ?_
        refine (AllReadyH.cons (o := ({ dst := none, op := Op.store 24 (Operand.tmp 15) (Operand.tmp 48), type := 0, pos := "ref.go:83", after := #[{ on := 12, ground := Ground.data }, { on := 10, ground := Ground.data }, { on := 13, ground := Ground.chain }, { on := 0, ground := Ground.phase }, { on := 1, ground := Ground.phase }, { on := 2, ground := Ground.phase }, { on := 3, ground := Ground.phase }, { on := 4, ground := Ground.phase }, { on := 5, ground := Ground.phase }, { on := 6, ground := Ground.phase }, { on := 7, ground := Ground.phase }, { on := 8, ground := Ground.phase }, { on := 9, ground := Ground.phase }, { on := 10, ground := Ground.phase }, { on := 11, ground := Ground.phase }, { on := 12, ground := Ground.phase }, { on := 13, ground := Ground.phase }], guard := none } : Oper)) rfl (fun K' hK => ?_) AllReadyH.nil)
        refine step_store_agg rfl (.tmp 15) (.tmp 48) 24 32 rfl Tryd.sizeOf24 b15 0 rfl z32 24 BB15 (hbs Y) rfl hYs (hbs_one _) (by decide) (hbs Y) (by rw [dropA z32_size]; simp) ?_
        intro w815 j815 f815 z8
        clear z8
        have j814 := (f815.block _ (heap_lt j814) (fun q => by omega)).trans j814
        have nb : Nw w1 w815 := nb.trans f815 (fun k hk q => by omega)
        refine hK.out _ _ (nb) (fun hS0 => ?_)
        try simp only [Act.put, List.setIfInBounds_toArray, List.set_cons_zero, List.set_cons_succ]
        refine wpAnyH_done (by kernel_rfl) ?_ _
        go_wp2_with fail
        go_meet
        exact ⟨b14, b15, rfl, rfl, LB14, LB15, j814, j815, nb⟩
    · refine step_alloc24 rfl rfl ?_
      have ha8 := heap_new (w1.drew) (.cells z32 24)
      have hn8 := nwa (w1.drew) (.cells z32 24)
      obtain ⟨wal8, hw8⟩ : ∃ q, (w1.drew).alloc (.cells z32 24) = q := ⟨_, rfl⟩
      rw [hw8] at ha8 hn8 ⊢
      obtain ⟨b15, hb8⟩ : ∃ q, q = (w1.drew).heap.size := ⟨_, rfl⟩
      rw [← hb8] at ha8 ⊢
      have LB15 : w1.heap.size ≤ b15 := by rw [hb8]; exact nb.size
      have BB15 := ha8
      have nb : Nw w1 wal8 := nb.tr hn8
      clear hw8 hb8 ha8 hn8
      refine hK.out _ _ (nb) (fun hS0 => ?_)
      try simp only [Act.put, List.setIfInBounds_toArray, List.set_cons_zero, List.set_cons_succ]
      refine wpAnyH_ready (rs := [7, 11]) (by kernel_rfl) (by simp) ?_
      refine (AllReadyH.cons (o := ({ dst := some 46, op := Op.call { callee := Callee.value (Operand.func 39), args := #[Operand.tmp 39, Operand.tmp 40, Operand.tmp 41, Operand.tmp 42, Operand.tmp 45], argTypes := #[22, 22, 4, 24, 25] }, type := 79, pos := "ref.go:83", after := #[{ on := 0, ground := Ground.data }, { on := 1, ground := Ground.data }, { on := 2, ground := Ground.data }, { on := 3, ground := Ground.data }, { on := 6, ground := Ground.data }], guard := none } : Oper)) rfl (fun K' hK => ?_) (AllReadyH.cons (o := ({ dst := some 14, op := Op.alloc 24, type := 0, pos := "ref.go:83", after := #[], guard := none } : Oper)) rfl (fun K' hK => ?_) AllReadyH.nil))
      · go_simp
        go_wp2_with (go_at_call 39; refine (QA.out _ (N1.out.tr nb)).mono ?_; rintro ex w104 ⟨rfl, nw104⟩)
        have nb := nb.tr nw104
        have BB15 := (nw104.block _ (heap_lt BB15) (fun f => f)).trans BB15
        refine hK.out _ _ (nb) (fun hS0 => ?_)
        try simp only [Act.put, List.setIfInBounds_toArray, List.set_cons_zero, List.set_cons_succ]
        refine wpAnyH_take (i := 8) (oi := ({ dst := some 38, op := Op.move (Operand.tmp 46), type := 79, pos := "ref.go:83", after := #[{ on := 7, ground := Ground.data }], guard := none } : Oper)) (v := .tuple #[.agg (hbs X), .agg (hbs Y)]) rfl (by kernel_rfl) (by kernel_rfl) (by kernel_rfl) (fun _ _ _ h => h) (Or.inl ⟨by rfl, by intro w hw; go_simp⟩) hS0 ?_
        try simp only [Act.put, List.setIfInBounds_toArray, List.set_cons_zero, List.set_cons_succ]
        refine wpAnyH_take (i := 9) (oi := ({ dst := some 47, op := Op.extract (Operand.tmp 38) 0, type := 24, pos := "ref.go:83", after := #[{ on := 8, ground := Ground.data }], guard := none } : Oper)) (v := .agg (hbs X)) rfl (by kernel_rfl) (by kernel_rfl) (by kernel_rfl) (fun _ _ _ h => h) (Or.inl ⟨by rfl, by intro w hw; go_simp⟩) hS0 ?_
        try simp only [Act.put, List.setIfInBounds_toArray, List.set_cons_zero, List.set_cons_succ]
        refine wpAnyH_take (i := 10) (oi := ({ dst := some 48, op := Op.extract (Operand.tmp 38) 1, type := 24, pos := "ref.go:83", after := #[{ on := 8, ground := Ground.data }, { on := 13, ground := Ground.gcOnly Departure.lateStores }], guard := none } : Oper)) (v := .agg (hbs Y)) rfl (by kernel_rfl) (by kernel_rfl) (by kernel_rfl) (fun _ _ _ h => h) (Or.inl ⟨by rfl, by intro w hw; go_simp⟩) hS0 ?_
        try simp only [Act.put, List.setIfInBounds_toArray, List.set_cons_zero, List.set_cons_succ]
        refine wpAnyH_ready (rs := [11]) (by kernel_rfl) (by simp) ?_
        refine (AllReadyH.cons (o := ({ dst := some 14, op := Op.alloc 24, type := 0, pos := "ref.go:83", after := #[], guard := none } : Oper)) rfl (fun K' hK => ?_) AllReadyH.nil)
        refine step_alloc24 rfl rfl ?_
        have ha9 := heap_new (w104) (.cells z32 24)
        have hn9 := nwa (w104) (.cells z32 24)
        obtain ⟨wal9, hw9⟩ : ∃ q, (w104).alloc (.cells z32 24) = q := ⟨_, rfl⟩
        rw [hw9] at ha9 hn9 ⊢
        obtain ⟨b14, hb9⟩ : ∃ q, q = (w104).heap.size := ⟨_, rfl⟩
        rw [← hb9] at ha9 ⊢
        have LB14 : w1.heap.size ≤ b14 := by rw [hb9]; exact nb.size
        have BB14 := ha9
        have hne : b15 ≠ b14 := by rw [hb9]; have := heap_lt BB15; omega
        have BB15 := (hn9.block _ (heap_lt BB15) (fun f => f)).trans BB15
        have nb : Nw w1 wal9 := nb.tr hn9
        clear hw9 hb9 ha9 hn9
        refine hK.out _ _ (nb) (fun hS0 => ?_)
        try simp only [Act.put, List.setIfInBounds_toArray, List.set_cons_zero, List.set_cons_succ]
        refine wpAnyH_ready (rs := [13]) (by kernel_rfl) (by simp) ?_
        refine (AllReadyH.cons (o := ({ dst := none, op := Op.store 24 (Operand.tmp 14) (Operand.tmp 47), type := 0, pos := "ref.go:83", after := #[{ on := 11, ground := Ground.data }, { on := 9, ground := Ground.data }, { on := 7, ground := Ground.chain }, { on := 0, ground := Ground.phase }, { on := 1, ground := Ground.phase }, { on := 2, ground := Ground.phase }, { on := 3, ground := Ground.phase }, { on := 4, ground := Ground.phase }, { on := 5, ground := Ground.phase }, { on := 6, ground := Ground.phase }, { on := 7, ground := Ground.phase }, { on := 8, ground := Ground.phase }, { on := 9, ground := Ground.phase }, { on := 10, ground := Ground.textOnly Departure.lateStores }, { on := 11, ground := Ground.phase }, { on := 12, ground := Ground.phase }], guard := none } : Oper)) rfl (fun K' hK => ?_) AllReadyH.nil)
        refine step_store_agg rfl (.tmp 14) (.tmp 47) 24 32 rfl Tryd.sizeOf24 b14 0 rfl z32 24 BB14 (hbs X) rfl hXs (hbs_one _) (by decide) (hbs X) (by rw [dropA z32_size]; simp) ?_
        intro w814 j814 f814 z8
        clear z8
        have BB15 := (f814.block _ (heap_lt BB15) (fun q => by omega)).trans BB15
        have nb : Nw w1 w814 := nb.trans f814 (fun k hk q => by omega)
        refine hK.out _ _ (nb) (fun hS0 => ?_)
        try simp only [Act.put, List.setIfInBounds_toArray, List.set_cons_zero, List.set_cons_succ]
        refine wpAnyH_ready (rs := [14]) (by kernel_rfl) (by simp) ?_
        refine (AllReadyH.cons (o := ({ dst := none, op := Op.store 24 (Operand.tmp 15) (Operand.tmp 48), type := 0, pos := "ref.go:83", after := #[{ on := 12, ground := Ground.data }, { on := 10, ground := Ground.data }, { on := 13, ground := Ground.chain }, { on := 0, ground := Ground.phase }, { on := 1, ground := Ground.phase }, { on := 2, ground := Ground.phase }, { on := 3, ground := Ground.phase }, { on := 4, ground := Ground.phase }, { on := 5, ground := Ground.phase }, { on := 6, ground := Ground.phase }, { on := 7, ground := Ground.phase }, { on := 8, ground := Ground.phase }, { on := 9, ground := Ground.phase }, { on := 10, ground := Ground.phase }, { on := 11, ground := Ground.phase }, { on := 12, ground := Ground.phase }, { on := 13, ground := Ground.phase }], guard := none } : Oper)) rfl (fun K' hK => ?_) AllReadyH.nil)
        refine step_store_agg rfl (.tmp 15) (.tmp 48) 24 32 rfl Tryd.sizeOf24 b15 0 rfl z32 24 BB15 (hbs Y) rfl hYs (hbs_one _) (by decide) (hbs Y) (by rw [dropA z32_size]; simp) ?_
        intro w815 j815 f815 z8
        clear z8
        have j814 := (f815.block _ (heap_lt j814) (fun q => by omega)).trans j814
        have nb : Nw w1 w815 := nb.trans f815 (fun k hk q => by omega)
        refine hK.out _ _ (nb) (fun hS0 => ?_)
        try simp only [Act.put, List.setIfInBounds_toArray, List.set_cons_zero, List.set_cons_succ]
        refine wpAnyH_done (by kernel_rfl) ?_ _
        go_wp2_with fail
        go_meet
        exact ⟨b14, b15, rfl, rfl, LB14, LB15, j814, j815, nb⟩
      · refine step_alloc24 rfl rfl ?_
        have ha10 := heap_new (wal8) (.cells z32 24)
        have hn10 := nwa (wal8) (.cells z32 24)
        obtain ⟨wal10, hw10⟩ : ∃ q, (wal8).alloc (.cells z32 24) = q := ⟨_, rfl⟩
        rw [hw10] at ha10 hn10 ⊢
        obtain ⟨b14, hb10⟩ : ∃ q, q = (wal8).heap.size := ⟨_, rfl⟩
        rw [← hb10] at ha10 ⊢
        have LB14 : w1.heap.size ≤ b14 := by rw [hb10]; exact nb.size
        have BB14 := ha10
        have hne : b15 ≠ b14 := by rw [hb10]; have := heap_lt BB15; omega
        have BB15 := (hn10.block _ (heap_lt BB15) (fun f => f)).trans BB15
        have nb : Nw w1 wal10 := nb.tr hn10
        clear hw10 hb10 ha10 hn10
        refine hK.out _ _ (nb) (fun hS0 => ?_)
        try simp only [Act.put, List.setIfInBounds_toArray, List.set_cons_zero, List.set_cons_succ]
        refine wpAnyH_ready (rs := [7]) (by kernel_rfl) (by simp) ?_
        refine (AllReadyH.cons (o := ({ dst := some 46, op := Op.call { callee := Callee.value (Operand.func 39), args := #[Operand.tmp 39, Operand.tmp 40, Operand.tmp 41, Operand.tmp 42, Operand.tmp 45], argTypes := #[22, 22, 4, 24, 25] }, type := 79, pos := "ref.go:83", after := #[{ on := 0, ground := Ground.data }, { on := 1, ground := Ground.data }, { on := 2, ground := Ground.data }, { on := 3, ground := Ground.data }, { on := 6, ground := Ground.data }], guard := none } : Oper)) rfl (fun K' hK => ?_) AllReadyH.nil)
        go_simp
        go_wp2_with (go_at_call 39; refine (QA.out _ (N1.out.tr nb)).mono ?_; rintro ex w105 ⟨rfl, nw105⟩)
        have nb := nb.tr nw105
        have BB14 := (nw105.block _ (heap_lt BB14) (fun f => f)).trans BB14
        have BB15 := (nw105.block _ (heap_lt BB15) (fun f => f)).trans BB15
        refine hK.out _ _ (nb) (fun hS0 => ?_)
        try simp only [Act.put, List.setIfInBounds_toArray, List.set_cons_zero, List.set_cons_succ]
        refine wpAnyH_take (i := 8) (oi := ({ dst := some 38, op := Op.move (Operand.tmp 46), type := 79, pos := "ref.go:83", after := #[{ on := 7, ground := Ground.data }], guard := none } : Oper)) (v := .tuple #[.agg (hbs X), .agg (hbs Y)]) rfl (by kernel_rfl) (by kernel_rfl) (by kernel_rfl) (fun _ _ _ h => h) (Or.inl ⟨by rfl, by intro w hw; go_simp⟩) hS0 ?_
        try simp only [Act.put, List.setIfInBounds_toArray, List.set_cons_zero, List.set_cons_succ]
        refine wpAnyH_take (i := 9) (oi := ({ dst := some 47, op := Op.extract (Operand.tmp 38) 0, type := 24, pos := "ref.go:83", after := #[{ on := 8, ground := Ground.data }], guard := none } : Oper)) (v := .agg (hbs X)) rfl (by kernel_rfl) (by kernel_rfl) (by kernel_rfl) (fun _ _ _ h => h) (Or.inl ⟨by rfl, by intro w hw; go_simp⟩) hS0 ?_
        try simp only [Act.put, List.setIfInBounds_toArray, List.set_cons_zero, List.set_cons_succ]
        refine wpAnyH_take (i := 10) (oi := ({ dst := some 48, op := Op.extract (Operand.tmp 38) 1, type := 24, pos := "ref.go:83", after := #[{ on := 8, ground := Ground.data }, { on := 13, ground := Ground.gcOnly Departure.lateStores }], guard := none } : Oper)) (v := .agg (hbs Y)) rfl (by kernel_rfl) (by kernel_rfl) (by kernel_rfl) (fun _ _ _ h => h) (Or.inl ⟨by rfl, by intro w hw; go_simp⟩) hS0 ?_
        try simp only [Act.put, List.setIfInBounds_toArray, List.set_cons_zero, List.set_cons_succ]
        refine wpAnyH_ready (rs := [13]) (by kernel_rfl) (by simp) ?_
        refine (AllReadyH.cons (o := ({ dst := none, op := Op.store 24 (Operand.tmp 14) (Operand.tmp 47), type := 0, pos := "ref.go:83", after := #[{ on := 11, ground := Ground.data }, { on := 9, ground := Ground.data }, { on := 7, ground := Ground.chain }, { on := 0, ground := Ground.phase }, { on := 1, ground := Ground.phase }, { on := 2, ground := Ground.phase }, { on := 3, ground := Ground.phase }, { on := 4, ground := Ground.phase }, { on := 5, ground := Ground.phase }, { on := 6, ground := Ground.phase }, { on := 7, ground := Ground.phase }, { on := 8, ground := Ground.phase }, { on := 9, ground := Ground.phase }, { on := 10, ground := Ground.textOnly Departure.lateStores }, { on := 11, ground := Ground.phase }, { on := 12, ground := Ground.phase }], guard := none } : Oper)) rfl (fun K' hK => ?_) AllReadyH.nil)
        refine step_store_agg rfl (.tmp 14) (.tmp 47) 24 32 rfl Tryd.sizeOf24 b14 0 rfl z32 24 BB14 (hbs X) rfl hXs (hbs_one _) (by decide) (hbs X) (by rw [dropA z32_size]; simp) ?_
        intro w814 j814 f814 z8
        clear z8
        have BB15 := (f814.block _ (heap_lt BB15) (fun q => by omega)).trans BB15
        have nb : Nw w1 w814 := nb.trans f814 (fun k hk q => by omega)
        refine hK.out _ _ (nb) (fun hS0 => ?_)
        try simp only [Act.put, List.setIfInBounds_toArray, List.set_cons_zero, List.set_cons_succ]
        refine wpAnyH_ready (rs := [14]) (by kernel_rfl) (by simp) ?_
        refine (AllReadyH.cons (o := ({ dst := none, op := Op.store 24 (Operand.tmp 15) (Operand.tmp 48), type := 0, pos := "ref.go:83", after := #[{ on := 12, ground := Ground.data }, { on := 10, ground := Ground.data }, { on := 13, ground := Ground.chain }, { on := 0, ground := Ground.phase }, { on := 1, ground := Ground.phase }, { on := 2, ground := Ground.phase }, { on := 3, ground := Ground.phase }, { on := 4, ground := Ground.phase }, { on := 5, ground := Ground.phase }, { on := 6, ground := Ground.phase }, { on := 7, ground := Ground.phase }, { on := 8, ground := Ground.phase }, { on := 9, ground := Ground.phase }, { on := 10, ground := Ground.phase }, { on := 11, ground := Ground.phase }, { on := 12, ground := Ground.phase }, { on := 13, ground := Ground.phase }], guard := none } : Oper)) rfl (fun K' hK => ?_) AllReadyH.nil)
        refine step_store_agg rfl (.tmp 15) (.tmp 48) 24 32 rfl Tryd.sizeOf24 b15 0 rfl z32 24 BB15 (hbs Y) rfl hYs (hbs_one _) (by decide) (hbs Y) (by rw [dropA z32_size]; simp) ?_
        intro w815 j815 f815 z8
        clear z8
        have j814 := (f815.block _ (heap_lt j814) (fun q => by omega)).trans j814
        have nb : Nw w1 w815 := nb.trans f815 (fun k hk q => by omega)
        refine hK.out _ _ (nb) (fun hS0 => ?_)
        try simp only [Act.put, List.setIfInBounds_toArray, List.set_cons_zero, List.set_cons_succ]
        refine wpAnyH_done (by kernel_rfl) ?_ _
        go_wp2_with fail
        go_meet
        exact ⟨b14, b15, rfl, rfl, LB14, LB15, j814, j815, nb⟩
  case rest =>
  obtain ⟨b1, b2, rfl, rfl, l1, l2, x1, x2, n3⟩ := hcut
  obtain ⟨w3, hw3⟩ : ∃ q, q = wc := ⟨_, rfl⟩
  rw [← hw3] at x1 x2 n3 ⊢
  have HL12 : Hid (w1.heap.size ≤ b1 ∧ w1.heap.size ≤ b2) := ⟨l1, l2⟩
  have HLP : Hid (p1 < w1.heap.size ∧ p2 < w1.heap.size) := ⟨heap_lt HP1.out, heap_lt HP2.out⟩
  have HB1 : Hid (w3.heap[b1]? = some (.cells (hbs X) 24)) := x1
  have HB2 : Hid (w3.heap[b2]? = some (.cells (hbs Y) 24)) := x2
  have NX : Hid (Nw w w3) := N1.out.tr n3
  have HQ1 : Hid (w3.heap[p1]? = some (.cells z32 24)) := (n3.block _ (heap_lt HP1.out) (fun f => f)).trans HP1.out
  have HQ2 : Hid (w3.heap[p2]? = some (.cells z32 24)) := (n3.block _ (heap_lt HP2.out) (fun f => f)).trans HP2.out
  have HBC1 : Hid (∀ W, Fr (fun k => k = p1 ∨ k = p2) w3 W → ∀ j, j < 32 → W.cell? ⟨b1, 0 + j, none⟩ = (hbs X)[j]?) := fun W hW => hash_cells ((hW.block _ (heap_lt HB1.out) (fun q => by have := HL12.out; have := HLP.out; omega)).trans HB1.out)
  have HBC2 : Hid (∀ W, Fr (fun k => k = p1 ∨ k = p2) w3 W → ∀ j, j < 32 → W.cell? ⟨b2, 0 + j, none⟩ = (hbs Y)[j]?) := fun W hW => hash_cells ((hW.block _ (heap_lt HB2.out) (fun q => by have := HL12.out; have := HLP.out; omega)).trans HB2.out)
  have HYC : Hid (∀ W, Fr (fun k => k = p1 ∨ k = p2) w3 W → ∀ j, j < 32 → W.cell? ⟨g, o0 + m * 32 + j, none⟩ = (hbs y)[j]?) := fun W hW j hj => by
    have h5 : (hbs y)[j]? = some (hbs y)[j] := Array.getElem?_eq_getElem (by omega)
    have h6 := HY0.out j hj
    rw [h5] at h6 ⊢
    have hlt := World.block_lt_of_cell? w ⟨g, o0 + m * 32 + j, none⟩ h6
    have h7 := NX.out.cellOf h6
    exact (hW.cell (p := ⟨g, o0 + m * 32 + j, none⟩) (by have := NX.out.size; simp only at hlt ⊢; omega) (fun q => by have := HNE.out; simp only at hlt q; omega)).trans h7
  clear hw3 l1 l2 x1 x2 n3
  go_upto_region 9 with fail
  have nb : Nw w3 w3.drew := (Fr.refl _ _).drew
  refine wp_region_held_drew (S := (fun V => Fr (fun k => k = p1 ∨ k = p2) w3 V)) (by kernel_rfl) (by first | exact nb.mono (fun _ _ f => f.elim) | exact nb) ?_
  intro hS0
  refine wpAnyH_take (i := 0) (oi := ({ dst := some 49, op := Op.load 24 (Operand.tmp 14), type := 24, pos := "ref.go:84", after := #[], guard := none } : Oper)) (v := .agg (hbs X)) rfl (by kernel_rfl) (by kernel_rfl) (by kernel_rfl) (fun _ _ _ h => h) (yields_loadA (by kernel_rfl) (.tmp 14) 24 32 rfl Tryd.isAgg24 Tryd.sizeOf24 b1 (0) rfl (hbs X) hXs (fun w hw => HBC1.out w hw)) hS0 ?_
  try simp only [Act.put, List.setIfInBounds_toArray, List.set_cons_zero, List.set_cons_succ]
  refine wpAnyH_take (i := 1) (oi := ({ dst := some 50, op := Op.load 24 (Operand.tmp 15), type := 24, pos := "ref.go:84", after := #[], guard := none } : Oper)) (v := .agg (hbs Y)) rfl (by kernel_rfl) (by kernel_rfl) (by kernel_rfl) (fun _ _ _ h => h) (yields_loadA (by kernel_rfl) (.tmp 15) 24 32 rfl Tryd.isAgg24 Tryd.sizeOf24 b2 (0) rfl (hbs Y) hYs (fun w hw => HBC2.out w hw)) hS0 ?_
  try simp only [Act.put, List.setIfInBounds_toArray, List.set_cons_zero, List.set_cons_succ]
  refine wpAnyH_take (i := 2) (oi := ({ dst := some 51, op := Op.move (Operand.tmp 4), type := 25, pos := "ref.go:84", after := #[], guard := none } : Oper)) (v := .slice (some ⟨g, o0, none⟩) (m + 1) cap) rfl (by kernel_rfl) (by kernel_rfl) (by kernel_rfl) (fun _ _ _ h => h) (Or.inl ⟨by rfl, by intro w hw; go_simp⟩) hS0 ?_
  try simp only [Act.put, List.setIfInBounds_toArray, List.set_cons_zero, List.set_cons_succ]
  refine wpAnyH_take (i := 3) (oi := ({ dst := some 52, op := Op.move (Operand.tmp 13), type := 3, pos := "ref.go:84", after := #[], guard := none } : Oper)) (v := .int .i64 (m : Int)) rfl (by kernel_rfl) (by kernel_rfl) (by kernel_rfl) (fun _ _ _ h => h) (Or.inl ⟨by rfl, by intro w hw; go_simp⟩) hS0 ?_
  try simp only [Act.put, List.setIfInBounds_toArray, List.set_cons_zero, List.set_cons_succ]
  refine wpAnyH_take (i := 4) (oi := ({ dst := some 53, op := Op.indexAddr 25 (Operand.tmp 51) (Operand.tmp 52), type := 0, pos := "ref.go:84", after := #[{ on := 2, ground := Ground.data }, { on := 3, ground := Ground.data }], guard := none } : Oper)) (v := .pointer (some ⟨g, o0 + m * 32, none⟩)) rfl (by kernel_rfl) (by kernel_rfl) (by kernel_rfl) (fun _ _ _ h => h) (Or.inl ⟨by rfl, by intro w hw; go_simp; try (intro hq; omega)⟩) hS0 ?_
  try simp only [Act.put, List.setIfInBounds_toArray, List.set_cons_zero, List.set_cons_succ]
  refine wpAnyH_take (i := 5) (oi := ({ dst := some 54, op := Op.load 24 (Operand.tmp 53), type := 24, pos := "ref.go:84", after := #[{ on := 4, ground := Ground.data }], guard := none } : Oper)) (v := .agg (hbs y)) rfl (by kernel_rfl) (by kernel_rfl) (by kernel_rfl) (fun _ _ _ h => h) (yields_loadA (by kernel_rfl) (.tmp 53) 24 32 rfl Tryd.isAgg24 Tryd.sizeOf24 g (o0 + m * 32) rfl (hbs y) hys (fun w hw => HYC.out w hw)) hS0 ?_
  try simp only [Act.put, List.setIfInBounds_toArray, List.set_cons_zero, List.set_cons_succ]
  refine wpAnyH_ready (rs := [6]) (by kernel_rfl) (by simp) ?_
  refine (AllReadyH.cons (o := ({ dst := some 55, op := Op.call { callee := Callee.value (Operand.func 47), args := #[Operand.tmp 50, Operand.tmp 54], argTypes := #[24, 24] }, type := 24, pos := "ref.go:84", after := #[{ on := 1, ground := Ground.data }, { on := 5, ground := Ground.data }], guard := none } : Oper)) rfl (fun K' hK => ?_) AllReadyH.nil)
  go_simp
  go_wp2_with (go_at_call 47; refine (QN1.out _).mono ?_; rintro ex w101 ⟨rfl, nw101⟩)
  have nb := nb.tr nw101
  refine hK.out _ _ (by first | exact nb.mono (fun _ _ f => f.elim) | exact nb) (fun hS0 => ?_)
  try simp only [Act.put, List.setIfInBounds_toArray, List.set_cons_zero, List.set_cons_succ]
  refine wpAnyH_ready (rs := [7]) (by kernel_rfl) (by simp) ?_
  refine (AllReadyH.cons (o := ({ dst := none, op := Op.store 24 (Operand.tmp 10) (Operand.tmp 49), type := 0, pos := "ref.go:84", after := #[{ on := 0, ground := Ground.data }, { on := 6, ground := Ground.chain }, { on := 0, ground := Ground.phase }, { on := 1, ground := Ground.textOnly Departure.lateStores }, { on := 2, ground := Ground.textOnly Departure.lateStores }, { on := 3, ground := Ground.textOnly Departure.lateStores }, { on := 4, ground := Ground.textOnly Departure.lateStores }, { on := 5, ground := Ground.textOnly Departure.lateStores }, { on := 6, ground := Ground.textOnly Departure.lateStoresUnsure }], guard := none } : Oper)) rfl (fun K' hK => ?_) AllReadyH.nil)
  have jz := (nb.block _ (heap_lt HQ1.out) (fun f => f)).trans HQ1.out
  have jy := (nb.block _ (heap_lt HQ2.out) (fun f => f)).trans HQ2.out
  refine step_store_agg rfl (.tmp 10) (.tmp 49) 24 32 rfl Tryd.sizeOf24 p1 0 rfl z32 24 jz (hbs X) rfl hXs (hbs_one _) (by decide) (hbs X) (by rw [dropA z32_size]; simp) ?_
  intro w8 j8 f8 z8
  clear z8
  have jy8 := (f8.block _ (heap_lt jy) (fun q => by have := HNE.out; omega)).trans jy
  have nf : Fr (fun k => k = p1 ∨ k = p2) w3 w8 := (nb.mono (fun _ _ f => f.elim)).trans f8 (fun j _ h => Or.inl h)
  have nb := nf
  refine hK.out _ _ (by first | exact nb.mono (fun _ _ f => f.elim) | exact nb) (fun hS0 => ?_)
  try simp only [Act.put, List.setIfInBounds_toArray, List.set_cons_zero, List.set_cons_succ]
  refine wpAnyH_ready (rs := [8]) (by kernel_rfl) (by simp) ?_
  refine (AllReadyH.cons (o := ({ dst := none, op := Op.store 24 (Operand.tmp 11) (Operand.tmp 55), type := 0, pos := "ref.go:84", after := #[{ on := 6, ground := Ground.data }, { on := 7, ground := Ground.chain }, { on := 0, ground := Ground.phase }, { on := 1, ground := Ground.phase }, { on := 2, ground := Ground.phase }, { on := 3, ground := Ground.phase }, { on := 4, ground := Ground.phase }, { on := 5, ground := Ground.phase }, { on := 6, ground := Ground.phase }, { on := 7, ground := Ground.phase }], guard := none } : Oper)) rfl (fun K' hK => ?_) AllReadyH.nil)
  refine step_store_agg rfl (.tmp 11) (.tmp 55) 24 32 rfl Tryd.sizeOf24 p2 0 rfl z32 24 jy8 (hbs z1) rfl hz1s (hbs_one _) (by decide) (hbs z1) (by rw [dropA z32_size]; simp) ?_
  intro w9 j9 f9 z9
  clear z9
  have j89 := (f9.block _ (heap_lt j8) (fun q => by have := HNE.out; omega)).trans j8
  have nf : Fr (fun k => k = p1 ∨ k = p2) w3 w9 := nb.trans f9 (fun j _ h => Or.inr h)
  have nb := nf
  refine hK.out _ _ (by first | exact nb.mono (fun _ _ f => f.elim) | exact nb) (fun hS0 => ?_)
  try simp only [Act.put, List.setIfInBounds_toArray, List.set_cons_zero, List.set_cons_succ]
  refine wpAnyH_done (by kernel_rfl) ?_ _
  go_wp2_with fail
  exact bodyPost_ret (results_cellsV Tryd.results39 Tryd.isAgg24 Tryd.sizeOf24 Tryd.isAgg24 Tryd.sizeOf24 rfl rfl j89 hXs j9 hz1s) rfl ⟨rfl, NX.out.trans nb (fun k hk q => by have := HNE.out; rcases q with q | q <;> omega)⟩
set_option maxRecDepth 100000 in
set_option maxHeartbeats 8000000 in
theorem sub_right (o n k m : Nat) (b : Bool) (bf X Y y : List UInt8) (hbf : bf.length = 32) (hX : X.length = 32) (hY : Y.length = 32) (hy : y.length = 32) (g o0 cap : Nat) (w : World) (hon : o < n) (hn : 2 ≤ n) (hn2 : n ≤ 9223372036854775808) (hk : k = spl n) (hcap : m + 1 ≤ cap) (hm : m < 1000)
    (hyc : ∀ j, j < 32 → w.cell? ⟨g, o0 + m * 32 + j, none⟩ = (hbs y)[j]?) (hik : ¬ o ≤ k) (o2 n2 : Nat) (ho2 : o = k + o2) (hn3 : n = k + n2) (QA0 : ∀ W, Nw w W → Calls Tryd.prog 39 #[.int .u64 (o2 : Int), .int .u64 (n2 : Int), .bool false, .agg (hbs bf), .slice (some ⟨g, o0, none⟩) m cap] W fun e w' => e = .returned (.tuple #[.agg (hbs X), .agg (hbs Y)]) ∧ Nw W w') :
    Calls Tryd.prog 39 #[.int .u64 (o : Int), .int .u64 (n : Int), .bool b, .agg (hbs bf), .slice (some ⟨g, o0, none⟩) (m + 1) cap] w fun e w' => e = .returned (.tuple #[.agg (hbs (ndp y X)), .agg (hbs (ndp y Y))]) ∧ Nw w w' := by
  have QA := hid_of QA0
  have hbfs : (hbs bf).size = 32 := by rw [hbs_size, hbf]
  have hXs : (hbs X).size = 32 := by rw [hbs_size, hX]
  have hYs : (hbs Y).size = 32 := by rw [hbs_size, hY]
  have hys : (hbs y).size = 32 := by rw [hbs_size, hy]
  have HY0 := hid_of hyc
  have QH0 : ∀ V : World, Calls Tryd.prog 46 #[.int .u64 (n : Int)] V fun e w' => e = .returned (.int .u64 ((k : Nat) : Int)) ∧ w' = V := fun V => by rw [hk]; exact rhalf_any n hn hn2 V
  have QH := hid_of QH0
  have hcu := fun W => cut_hh (some ⟨g, o0, none⟩) (m + 1) cap m (by omega) W
  have hn1 : ((o : Int) == (n : Int)) = false := by rw [beq_eq_false_iff_ne]; omega
  have hmn : ((m : Int) + 1 : Int) - 1 = (m : Int) := by omega
  have QN10 : ∀ V : World, Calls Tryd.prog 47 #[.agg (hbs y), .agg (hbs X)] V fun e w' => e = .returned (.agg (hbs (ndp y X))) ∧ Nw V w' := fun V => Rf.refnode_any y X hy hX V
  have QN20 : ∀ V : World, Calls Tryd.prog 47 #[.agg (hbs y), .agg (hbs Y)] V fun e w' => e = .returned (.agg (hbs (ndp y Y))) ∧ Nw V w' := fun V => Rf.refnode_any y Y hy hY V
  have QN1 := hid_of QN10
  have QN2 := hid_of QN20
  have hz1s : (hbs (ndp y X)).size = 32 := by rw [hbs_size, ndp_len]
  have hz2s : (hbs (ndp y Y)).size = 32 := by rw [hbs_size, ndp_len]
  obtain ⟨z1, hz1⟩ : ∃ z, z = ndp y X := ⟨_, rfl⟩
  obtain ⟨z2, hz2⟩ : ∃ z, z = ndp y Y := ⟨_, rfl⟩
  rw [← hz1] at QN1 hz1s
  rw [← hz2] at QN2 hz2s
  rw [← hz1, ← hz2]
  have hik1 : ¬ (o : Int) ≤ (k : Int) := by omega
  have HSI : Hid (IntKind.u64.wrap ((o : Int) - (k : Int)) = (o2 : Int) ∧ IntKind.u64.wrap ((n : Int) - (k : Int)) = (n2 : Int)) := by refine ⟨?_, ?_⟩ <;> rw [IntKind.wrap_u64] <;> omega
  clear QN10 QN20 hz1 hz2 ho2 hn3
  clear QA0 QH0 hbf hX hY hy hyc hk hik hn hon
  go_enter Tryd.func39, Tryd.ntmps39
  go_upto_region 1 with fail
  rw [z32_h]
  obtain ⟨wa, hwa⟩ : ∃ q, w.alloc (.cells (hbs bf) 24) = q := ⟨_, rfl⟩
  have na : Nw w wa := by rw [← hwa]; exact nwa w _
  have xa : wa.heap[w.heap.size]? = some (.cells (hbs bf) 24) := by rw [← hwa]; exact heap_new _ _
  have sa : wa.heap.size = w.heap.size + 1 := by rw [← hwa]; simp
  rw [hwa]
  obtain ⟨wb, hwb⟩ : ∃ q, wa.alloc (.cells z32 24) = q := ⟨_, rfl⟩
  have nb : Nw wa wb := by rw [← hwb]; exact nwa wa _
  have xb0 : wb.heap[wa.heap.size]? = some (.cells z32 24) := by rw [← hwb]; exact heap_new _ _
  have sb : wb.heap.size = w.heap.size + 2 := by rw [← hwb]; simp [sa]
  rw [hwb]
  rw [sa] at xb0
  obtain ⟨w1, hwc⟩ : ∃ q, wb.alloc (.cells z32 24) = q := ⟨_, rfl⟩
  have nc : Nw wb w1 := by rw [← hwc]; exact nwa wb _
  have xc : w1.heap[wb.heap.size]? = some (.cells z32 24) := by rw [← hwc]; exact heap_new _ _
  rw [hwc]
  rw [sb] at xc
  obtain ⟨xb, hxb⟩ : ∃ q, q = w.heap.size := ⟨_, rfl⟩
  have N1 : Hid (Nw w w1) := (na.tr nb).tr nc
  have xa1 := ((nb.tr nc).block _ (heap_lt xa) (fun f => f)).trans xa
  have xb1 := (nc.block _ (heap_lt xb0) (fun f => f)).trans xb0
  rw [← hxb] at xa1 xb1 xc ⊢
  obtain ⟨p1, hp1⟩ : ∃ q, q = xb + 1 := ⟨_, rfl⟩
  obtain ⟨p2, hp2⟩ : ∃ q, q = p1 + 1 := ⟨_, rfl⟩
  rw [← hp1] at xb1
  rw [show xb + 2 = p1 + 1 by omega, ← hp2] at xc
  rw [← hp1, ← hp2]
  have HXB : Hid (w1.heap[xb]? = some (.cells (hbs bf) 24)) := xa1
  have HP1 : Hid (w1.heap[p1]? = some (.cells z32 24)) := xb1
  have HP2 : Hid (w1.heap[p2]? = some (.cells z32 24)) := xc
  have HNE : Hid (w.heap.size = xb ∧ xb < p1 ∧ p1 < p2) := by refine ⟨?_, ?_, ?_⟩ <;> omega
  clear hwa na xa sa hwb nb xb0 sb hwc nc xc xa1 xb1 hxb hp1 hp2
  have HXC1 : Hid (∀ W, Nw w1 W → ∀ j, j < 32 → W.cell? ⟨xb, 0 + j, none⟩ = (hbs bf)[j]?) := fun W hW => hash_cells ((hW.block _ (heap_lt HXB.out) (fun f => f)).trans HXB.out)
  go_wp2_with fail
  refine (Calls.mono (QH.out _)) ?_
  rintro e w2 ⟨rfl, h2⟩
  obtain rfl : w1 = w2 := h2.symm
  clear h2
  go_upto_region 10 with fail
  go_cut [16, 17] (fun u v wx => ∃ b1 b2 : Nat, u = .pointer (some ⟨b1, 0, none⟩) ∧ v = .pointer (some ⟨b2, 0, none⟩) ∧ w1.heap.size ≤ b1 ∧ w1.heap.size ≤ b2 ∧ wx.heap[b1]? = some (.cells (hbs X) 24) ∧ wx.heap[b2]? = some (.cells (hbs Y) 24) ∧ Nw w1 wx)
  case first =>
    have nb : Nw w1 w1.drew := (Fr.refl _ _).drew
    refine wp_region_held_drew (S := (fun V => Nw w1 V)) (by kernel_rfl) (nb) ?_
    intro hS0
    refine wpAnyH_take (i := 0) (oi := ({ dst := some 57, op := Op.move (Operand.tmp 0), type := 22, pos := "ref.go:86", after := #[], guard := none } : Oper)) (v := .int .u64 (o : Int)) rfl (by kernel_rfl) (by kernel_rfl) (by kernel_rfl) (fun _ _ _ h => h) (Or.inl ⟨by rfl, by intro w hw; go_simp⟩) hS0 ?_
    try simp only [Act.put, List.setIfInBounds_toArray, List.set_cons_zero, List.set_cons_succ]
    refine wpAnyH_take (i := 1) (oi := ({ dst := some 58, op := Op.move (Operand.tmp 12), type := 22, pos := "ref.go:86", after := #[], guard := none } : Oper)) (v := .int .u64 (k : Int)) rfl (by kernel_rfl) (by kernel_rfl) (by kernel_rfl) (fun _ _ _ h => h) (Or.inl ⟨by rfl, by intro w hw; go_simp⟩) hS0 ?_
    try simp only [Act.put, List.setIfInBounds_toArray, List.set_cons_zero, List.set_cons_succ]
    refine wpAnyH_take (i := 2) (oi := ({ dst := some 59, op := Op.binOp BinOp.sub 22 (Operand.tmp 57) (Operand.tmp 58) 22, type := 22, pos := "ref.go:86", after := #[{ on := 0, ground := Ground.data }, { on := 1, ground := Ground.data }], guard := none } : Oper)) (v := .int .u64 (o2 : Int)) rfl (by kernel_rfl) (by kernel_rfl) (by kernel_rfl) (fun _ _ _ h => h) (Or.inl ⟨by rfl, by intro w hw; have := HSI.out.1; have := HSI.out.2; go_simp⟩) hS0 ?_
    try simp only [Act.put, List.setIfInBounds_toArray, List.set_cons_zero, List.set_cons_succ]
    refine wpAnyH_take (i := 3) (oi := ({ dst := some 60, op := Op.move (Operand.tmp 1), type := 22, pos := "ref.go:86", after := #[], guard := none } : Oper)) (v := .int .u64 (n : Int)) rfl (by kernel_rfl) (by kernel_rfl) (by kernel_rfl) (fun _ _ _ h => h) (Or.inl ⟨by rfl, by intro w hw; go_simp⟩) hS0 ?_
    try simp only [Act.put, List.setIfInBounds_toArray, List.set_cons_zero, List.set_cons_succ]
    refine wpAnyH_take (i := 4) (oi := ({ dst := some 61, op := Op.move (Operand.tmp 12), type := 22, pos := "ref.go:86", after := #[], guard := none } : Oper)) (v := .int .u64 (k : Int)) rfl (by kernel_rfl) (by kernel_rfl) (by kernel_rfl) (fun _ _ _ h => h) (Or.inl ⟨by rfl, by intro w hw; go_simp⟩) hS0 ?_
    try simp only [Act.put, List.setIfInBounds_toArray, List.set_cons_zero, List.set_cons_succ]
    refine wpAnyH_take (i := 5) (oi := ({ dst := some 62, op := Op.binOp BinOp.sub 22 (Operand.tmp 60) (Operand.tmp 61) 22, type := 22, pos := "ref.go:86", after := #[{ on := 3, ground := Ground.data }, { on := 4, ground := Ground.data }], guard := none } : Oper)) (v := .int .u64 (n2 : Int)) rfl (by kernel_rfl) (by kernel_rfl) (by kernel_rfl) (fun _ _ _ h => h) (Or.inl ⟨by rfl, by intro w hw; have := HSI.out.1; have := HSI.out.2; go_simp⟩) hS0 ?_
    try simp only [Act.put, List.setIfInBounds_toArray, List.set_cons_zero, List.set_cons_succ]
    refine wpAnyH_take (i := 6) (oi := ({ dst := some 63, op := Op.load 24 (Operand.tmp 8), type := 24, pos := "ref.go:86", after := #[], guard := none } : Oper)) (v := .agg (hbs bf)) rfl (by kernel_rfl) (by kernel_rfl) (by kernel_rfl) (fun _ _ _ h => h) (yields_loadA (by kernel_rfl) (.tmp 8) 24 32 rfl Tryd.isAgg24 Tryd.sizeOf24 xb (0) rfl (hbs bf) hbfs (fun w hw => HXC1.out w hw)) hS0 ?_
    try simp only [Act.put, List.setIfInBounds_toArray, List.set_cons_zero, List.set_cons_succ]
    refine wpAnyH_take (i := 7) (oi := ({ dst := some 64, op := Op.move (Operand.tmp 4), type := 25, pos := "ref.go:86", after := #[], guard := none } : Oper)) (v := .slice (some ⟨g, o0, none⟩) (m + 1) cap) rfl (by kernel_rfl) (by kernel_rfl) (by kernel_rfl) (fun _ _ _ h => h) (Or.inl ⟨by rfl, by intro w hw; go_simp⟩) hS0 ?_
    try simp only [Act.put, List.setIfInBounds_toArray, List.set_cons_zero, List.set_cons_succ]
    refine wpAnyH_take (i := 8) (oi := ({ dst := some 65, op := Op.move (Operand.tmp 13), type := 3, pos := "ref.go:86", after := #[], guard := none } : Oper)) (v := .int .i64 (m : Int)) rfl (by kernel_rfl) (by kernel_rfl) (by kernel_rfl) (fun _ _ _ h => h) (Or.inl ⟨by rfl, by intro w hw; go_simp⟩) hS0 ?_
    try simp only [Act.put, List.setIfInBounds_toArray, List.set_cons_zero, List.set_cons_succ]
    refine wpAnyH_take (i := 9) (oi := ({ dst := some 66, op := Op.slice 25 (Operand.tmp 64) none (some (Operand.tmp 65)) none, type := 25, pos := "ref.go:86", after := #[{ on := 7, ground := Ground.data }, { on := 8, ground := Ground.data }], guard := none } : Oper)) (v := .slice (some ⟨g, o0, none⟩) m cap) rfl (by kernel_rfl) (by kernel_rfl) (by kernel_rfl) (fun _ _ _ h => h) (Or.inl ⟨by rfl, by intro w hw; have := hcu w; go_simp⟩) hS0 ?_
    try simp only [Act.put, List.setIfInBounds_toArray, List.set_cons_zero, List.set_cons_succ]
    refine wpAnyH_ready (rs := [10, 14, 15]) (by kernel_rfl) (by simp) ?_
    refine (AllReadyH.cons (o := ({ dst := some 67, op := Op.call { callee := Callee.value (Operand.func 39), args := #[Operand.tmp 59, Operand.tmp 62, Operand.const (Value.bool false), Operand.tmp 63, Operand.tmp 66], argTypes := #[22, 22, 4, 24, 25] }, type := 79, pos := "ref.go:86", after := #[{ on := 2, ground := Ground.data }, { on := 5, ground := Ground.data }, { on := 6, ground := Ground.data }, { on := 9, ground := Ground.data }], guard := none } : Oper)) rfl (fun K' hK => ?_) (AllReadyH.cons (o := ({ dst := some 16, op := Op.alloc 24, type := 0, pos := "ref.go:86", after := #[], guard := none } : Oper)) rfl (fun K' hK => ?_) (AllReadyH.cons (o := ({ dst := some 17, op := Op.alloc 24, type := 0, pos := "ref.go:86", after := #[], guard := none } : Oper)) rfl (fun K' hK => ?_) AllReadyH.nil)))
    · go_simp
      go_wp2_with (go_at_call 39; refine (QA.out _ (N1.out.tr nb)).mono ?_; rintro ex w101 ⟨rfl, nw101⟩)
      have nb := nb.tr nw101
      refine hK.out _ _ (nb) (fun hS0 => ?_)
      try simp only [Act.put, List.setIfInBounds_toArray, List.set_cons_zero, List.set_cons_succ]
      refine wpAnyH_take (i := 11) (oi := ({ dst := some 56, op := Op.move (Operand.tmp 67), type := 79, pos := "ref.go:86", after := #[{ on := 10, ground := Ground.data }], guard := none } : Oper)) (v := .tuple #[.agg (hbs X), .agg (hbs Y)]) rfl (by kernel_rfl) (by kernel_rfl) (by kernel_rfl) (fun _ _ _ h => h) (Or.inl ⟨by rfl, by intro w hw; go_simp⟩) hS0 ?_
      try simp only [Act.put, List.setIfInBounds_toArray, List.set_cons_zero, List.set_cons_succ]
      refine wpAnyH_take (i := 12) (oi := ({ dst := some 68, op := Op.extract (Operand.tmp 56) 0, type := 24, pos := "ref.go:86", after := #[{ on := 11, ground := Ground.data }], guard := none } : Oper)) (v := .agg (hbs X)) rfl (by kernel_rfl) (by kernel_rfl) (by kernel_rfl) (fun _ _ _ h => h) (Or.inl ⟨by rfl, by intro w hw; go_simp⟩) hS0 ?_
      try simp only [Act.put, List.setIfInBounds_toArray, List.set_cons_zero, List.set_cons_succ]
      refine wpAnyH_take (i := 13) (oi := ({ dst := some 69, op := Op.extract (Operand.tmp 56) 1, type := 24, pos := "ref.go:86", after := #[{ on := 11, ground := Ground.data }, { on := 16, ground := Ground.gcOnly Departure.lateStores }], guard := none } : Oper)) (v := .agg (hbs Y)) rfl (by kernel_rfl) (by kernel_rfl) (by kernel_rfl) (fun _ _ _ h => h) (Or.inl ⟨by rfl, by intro w hw; go_simp⟩) hS0 ?_
      try simp only [Act.put, List.setIfInBounds_toArray, List.set_cons_zero, List.set_cons_succ]
      refine wpAnyH_ready (rs := [14, 15]) (by kernel_rfl) (by simp) ?_
      refine (AllReadyH.cons (o := ({ dst := some 16, op := Op.alloc 24, type := 0, pos := "ref.go:86", after := #[], guard := none } : Oper)) rfl (fun K' hK => ?_) (AllReadyH.cons (o := ({ dst := some 17, op := Op.alloc 24, type := 0, pos := "ref.go:86", after := #[], guard := none } : Oper)) rfl (fun K' hK => ?_) AllReadyH.nil))
      · refine step_alloc24 rfl rfl ?_
        have ha1 := heap_new (w101) (.cells z32 24)
        have hn1 := nwa (w101) (.cells z32 24)
        obtain ⟨wal1, hw1⟩ : ∃ q, (w101).alloc (.cells z32 24) = q := ⟨_, rfl⟩
        rw [hw1] at ha1 hn1 ⊢
        obtain ⟨b16, hb1⟩ : ∃ q, q = (w101).heap.size := ⟨_, rfl⟩
        rw [← hb1] at ha1 ⊢
        have LB16 : w1.heap.size ≤ b16 := by rw [hb1]; exact nb.size
        have BB16 := ha1
        have nb : Nw w1 wal1 := nb.tr hn1
        clear hw1 hb1 ha1 hn1
        refine hK.out _ _ (nb) (fun hS0 => ?_)
        try simp only [Act.put, List.setIfInBounds_toArray, List.set_cons_zero, List.set_cons_succ]
        refine wpAnyH_ready (rs := [15]) (by kernel_rfl) (by simp) ?_
        refine (AllReadyH.cons (o := ({ dst := some 17, op := Op.alloc 24, type := 0, pos := "ref.go:86", after := #[], guard := none } : Oper)) rfl (fun K' hK => ?_) AllReadyH.nil)
        refine step_alloc24 rfl rfl ?_
        have ha2 := heap_new (wal1) (.cells z32 24)
        have hn2 := nwa (wal1) (.cells z32 24)
        obtain ⟨wal2, hw2⟩ : ∃ q, (wal1).alloc (.cells z32 24) = q := ⟨_, rfl⟩
        rw [hw2] at ha2 hn2 ⊢
        obtain ⟨b17, hb2⟩ : ∃ q, q = (wal1).heap.size := ⟨_, rfl⟩
        rw [← hb2] at ha2 ⊢
        have LB17 : w1.heap.size ≤ b17 := by rw [hb2]; exact nb.size
        have BB17 := ha2
        have hne : b16 ≠ b17 := by rw [hb2]; have := heap_lt BB16; omega
        have BB16 := (hn2.block _ (heap_lt BB16) (fun f => f)).trans BB16
        have nb : Nw w1 wal2 := nb.tr hn2
        clear hw2 hb2 ha2 hn2
        refine hK.out _ _ (nb) (fun hS0 => ?_)
        try simp only [Act.put, List.setIfInBounds_toArray, List.set_cons_zero, List.set_cons_succ]
        refine wpAnyH_ready (rs := [16]) (by kernel_rfl) (by simp) ?_
        refine (AllReadyH.cons (o := ({ dst := none, op := Op.store 24 (Operand.tmp 16) (Operand.tmp 68), type := 0, pos := "ref.go:86", after := #[{ on := 14, ground := Ground.data }, { on := 12, ground := Ground.data }, { on := 10, ground := Ground.chain }, { on := 0, ground := Ground.phase }, { on := 1, ground := Ground.phase }, { on := 2, ground := Ground.phase }, { on := 3, ground := Ground.phase }, { on := 4, ground := Ground.phase }, { on := 5, ground := Ground.phase }, { on := 6, ground := Ground.phase }, { on := 7, ground := Ground.phase }, { on := 8, ground := Ground.phase }, { on := 9, ground := Ground.phase }, { on := 10, ground := Ground.phase }, { on := 11, ground := Ground.phase }, { on := 12, ground := Ground.phase }, { on := 13, ground := Ground.textOnly Departure.lateStores }, { on := 14, ground := Ground.phase }, { on := 15, ground := Ground.phase }], guard := none } : Oper)) rfl (fun K' hK => ?_) AllReadyH.nil)
        refine step_store_agg rfl (.tmp 16) (.tmp 68) 24 32 rfl Tryd.sizeOf24 b16 0 rfl z32 24 BB16 (hbs X) rfl hXs (hbs_one _) (by decide) (hbs X) (by rw [dropA z32_size]; simp) ?_
        intro w816 j816 f816 z8
        clear z8
        have BB17 := (f816.block _ (heap_lt BB17) (fun q => by omega)).trans BB17
        have nb : Nw w1 w816 := nb.trans f816 (fun k hk q => by omega)
        refine hK.out _ _ (nb) (fun hS0 => ?_)
        try simp only [Act.put, List.setIfInBounds_toArray, List.set_cons_zero, List.set_cons_succ]
        refine wpAnyH_ready (rs := [17]) (by kernel_rfl) (by simp) ?_
        refine (AllReadyH.cons (o := ({ dst := none, op := Op.store 24 (Operand.tmp 17) (Operand.tmp 69), type := 0, pos := "ref.go:86", after := #[{ on := 15, ground := Ground.data }, { on := 13, ground := Ground.data }, { on := 16, ground := Ground.chain }, { on := 0, ground := Ground.phase }, { on := 1, ground := Ground.phase }, { on := 2, ground := Ground.phase }, { on := 3, ground := Ground.phase }, { on := 4, ground := Ground.phase }, { on := 5, ground := Ground.phase }, { on := 6, ground := Ground.phase }, { on := 7, ground := Ground.phase }, { on := 8, ground := Ground.phase }, { on := 9, ground := Ground.phase }, { on := 10, ground := Ground.phase }, { on := 11, ground := Ground.phase }, { on := 12, ground := Ground.phase }, { on := 13, ground := Ground.phase }, { on := 14, ground := Ground.phase }, { on := 15, ground := Ground.phase }, { on := 16, ground := Ground.phase }], guard := none } : Oper)) rfl (fun K' hK => ?_) AllReadyH.nil)
        refine step_store_agg rfl (.tmp 17) (.tmp 69) 24 32 rfl Tryd.sizeOf24 b17 0 rfl z32 24 BB17 (hbs Y) rfl hYs (hbs_one _) (by decide) (hbs Y) (by rw [dropA z32_size]; simp) ?_
        intro w817 j817 f817 z8
        clear z8
        have j816 := (f817.block _ (heap_lt j816) (fun q => by omega)).trans j816
        have nb : Nw w1 w817 := nb.trans f817 (fun k hk q => by omega)
        refine hK.out _ _ (nb) (fun hS0 => ?_)
        try simp only [Act.put, List.setIfInBounds_toArray, List.set_cons_zero, List.set_cons_succ]
        refine wpAnyH_done (by kernel_rfl) ?_ _
        go_wp2_with fail
        go_meet
        exact ⟨b16, b17, rfl, rfl, LB16, LB17, j816, j817, nb⟩
      · refine step_alloc24 rfl rfl ?_
        have ha3 := heap_new (w101) (.cells z32 24)
        have hn3 := nwa (w101) (.cells z32 24)
        obtain ⟨wal3, hw3⟩ : ∃ q, (w101).alloc (.cells z32 24) = q := ⟨_, rfl⟩
        rw [hw3] at ha3 hn3 ⊢
        obtain ⟨b17, hb3⟩ : ∃ q, q = (w101).heap.size := ⟨_, rfl⟩
        rw [← hb3] at ha3 ⊢
        have LB17 : w1.heap.size ≤ b17 := by rw [hb3]; exact nb.size
        have BB17 := ha3
        have nb : Nw w1 wal3 := nb.tr hn3
        clear hw3 hb3 ha3 hn3
        refine hK.out _ _ (nb) (fun hS0 => ?_)
        try simp only [Act.put, List.setIfInBounds_toArray, List.set_cons_zero, List.set_cons_succ]
        refine wpAnyH_ready (rs := [14]) (by kernel_rfl) (by simp) ?_
        refine (AllReadyH.cons (o := ({ dst := some 16, op := Op.alloc 24, type := 0, pos := "ref.go:86", after := #[], guard := none } : Oper)) rfl (fun K' hK => ?_) AllReadyH.nil)
        refine step_alloc24 rfl rfl ?_
        have ha4 := heap_new (wal3) (.cells z32 24)
        have hn4 := nwa (wal3) (.cells z32 24)
        obtain ⟨wal4, hw4⟩ : ∃ q, (wal3).alloc (.cells z32 24) = q := ⟨_, rfl⟩
        rw [hw4] at ha4 hn4 ⊢
        obtain ⟨b16, hb4⟩ : ∃ q, q = (wal3).heap.size := ⟨_, rfl⟩
        rw [← hb4] at ha4 ⊢
        have LB16 : w1.heap.size ≤ b16 := by rw [hb4]; exact nb.size
        have BB16 := ha4
        have hne : b17 ≠ b16 := by rw [hb4]; have := heap_lt BB17; omega
        have BB17 := (hn4.block _ (heap_lt BB17) (fun f => f)).trans BB17
        have nb : Nw w1 wal4 := nb.tr hn4
        clear hw4 hb4 ha4 hn4
        refine hK.out _ _ (nb) (fun hS0 => ?_)
        try simp only [Act.put, List.setIfInBounds_toArray, List.set_cons_zero, List.set_cons_succ]
        refine wpAnyH_ready (rs := [16]) (by kernel_rfl) (by simp) ?_
        refine (AllReadyH.cons (o := ({ dst := none, op := Op.store 24 (Operand.tmp 16) (Operand.tmp 68), type := 0, pos := "ref.go:86", after := #[{ on := 14, ground := Ground.data }, { on := 12, ground := Ground.data }, { on := 10, ground := Ground.chain }, { on := 0, ground := Ground.phase }, { on := 1, ground := Ground.phase }, { on := 2, ground := Ground.phase }, { on := 3, ground := Ground.phase }, { on := 4, ground := Ground.phase }, { on := 5, ground := Ground.phase }, { on := 6, ground := Ground.phase }, { on := 7, ground := Ground.phase }, { on := 8, ground := Ground.phase }, { on := 9, ground := Ground.phase }, { on := 10, ground := Ground.phase }, { on := 11, ground := Ground.phase }, { on := 12, ground := Ground.phase }, { on := 13, ground := Ground.textOnly Departure.lateStores }, { on := 14, ground := Ground.phase }, { on := 15, ground := Ground.phase }], guard := none } : Oper)) rfl (fun K' hK => ?_) AllReadyH.nil)
        refine step_store_agg rfl (.tmp 16) (.tmp 68) 24 32 rfl Tryd.sizeOf24 b16 0 rfl z32 24 BB16 (hbs X) rfl hXs (hbs_one _) (by decide) (hbs X) (by rw [dropA z32_size]; simp) ?_
        intro w816 j816 f816 z8
        clear z8
        have BB17 := (f816.block _ (heap_lt BB17) (fun q => by omega)).trans BB17
        have nb : Nw w1 w816 := nb.trans f816 (fun k hk q => by omega)
        refine hK.out _ _ (nb) (fun hS0 => ?_)
        try simp only [Act.put, List.setIfInBounds_toArray, List.set_cons_zero, List.set_cons_succ]
        refine wpAnyH_ready (rs := [17]) (by kernel_rfl) (by simp) ?_
        refine (AllReadyH.cons (o := ({ dst := none, op := Op.store 24 (Operand.tmp 17) (Operand.tmp 69), type := 0, pos := "ref.go:86", after := #[{ on := 15, ground := Ground.data }, { on := 13, ground := Ground.data }, { on := 16, ground := Ground.chain }, { on := 0, ground := Ground.phase }, { on := 1, ground := Ground.phase }, { on := 2, ground := Ground.phase }, { on := 3, ground := Ground.phase }, { on := 4, ground := Ground.phase }, { on := 5, ground := Ground.phase }, { on := 6, ground := Ground.phase }, { on := 7, ground := Ground.phase }, { on := 8, ground := Ground.phase }, { on := 9, ground := Ground.phase }, { on := 10, ground := Ground.phase }, { on := 11, ground := Ground.phase }, { on := 12, ground := Ground.phase }, { on := 13, ground := Ground.phase }, { on := 14, ground := Ground.phase }, { on := 15, ground := Ground.phase }, { on := 16, ground := Ground.phase }], guard := none } : Oper)) rfl (fun K' hK => ?_) AllReadyH.nil)
        refine step_store_agg rfl (.tmp 17) (.tmp 69) 24 32 rfl Tryd.sizeOf24 b17 0 rfl z32 24 BB17 (hbs Y) rfl hYs (hbs_one _) (by decide) (hbs Y) (by rw [dropA z32_size]; simp) ?_
        intro w817 j817 f817 z8
        clear z8
        have j816 := (f817.block _ (heap_lt j816) (fun q => by omega)).trans j816
        have nb : Nw w1 w817 := nb.trans f817 (fun k hk q => by omega)
        refine hK.out _ _ (nb) (fun hS0 => ?_)
        try simp only [Act.put, List.setIfInBounds_toArray, List.set_cons_zero, List.set_cons_succ]
        refine wpAnyH_done (by kernel_rfl) ?_ _
        go_wp2_with fail
        go_meet
        exact ⟨b16, b17, rfl, rfl, LB16, LB17, j816, j817, nb⟩
    · refine step_alloc24 rfl rfl ?_
      have ha5 := heap_new (w1.drew) (.cells z32 24)
      have hn5 := nwa (w1.drew) (.cells z32 24)
      obtain ⟨wal5, hw5⟩ : ∃ q, (w1.drew).alloc (.cells z32 24) = q := ⟨_, rfl⟩
      rw [hw5] at ha5 hn5 ⊢
      obtain ⟨b16, hb5⟩ : ∃ q, q = (w1.drew).heap.size := ⟨_, rfl⟩
      rw [← hb5] at ha5 ⊢
      have LB16 : w1.heap.size ≤ b16 := by rw [hb5]; exact nb.size
      have BB16 := ha5
      have nb : Nw w1 wal5 := nb.tr hn5
      clear hw5 hb5 ha5 hn5
      refine hK.out _ _ (nb) (fun hS0 => ?_)
      try simp only [Act.put, List.setIfInBounds_toArray, List.set_cons_zero, List.set_cons_succ]
      refine wpAnyH_ready (rs := [10, 15]) (by kernel_rfl) (by simp) ?_
      refine (AllReadyH.cons (o := ({ dst := some 67, op := Op.call { callee := Callee.value (Operand.func 39), args := #[Operand.tmp 59, Operand.tmp 62, Operand.const (Value.bool false), Operand.tmp 63, Operand.tmp 66], argTypes := #[22, 22, 4, 24, 25] }, type := 79, pos := "ref.go:86", after := #[{ on := 2, ground := Ground.data }, { on := 5, ground := Ground.data }, { on := 6, ground := Ground.data }, { on := 9, ground := Ground.data }], guard := none } : Oper)) rfl (fun K' hK => ?_) (AllReadyH.cons (o := ({ dst := some 17, op := Op.alloc 24, type := 0, pos := "ref.go:86", after := #[], guard := none } : Oper)) rfl (fun K' hK => ?_) AllReadyH.nil))
      · go_simp
        go_wp2_with (go_at_call 39; refine (QA.out _ (N1.out.tr nb)).mono ?_; rintro ex w102 ⟨rfl, nw102⟩)
        have nb := nb.tr nw102
        have BB16 := (nw102.block _ (heap_lt BB16) (fun f => f)).trans BB16
        refine hK.out _ _ (nb) (fun hS0 => ?_)
        try simp only [Act.put, List.setIfInBounds_toArray, List.set_cons_zero, List.set_cons_succ]
        refine wpAnyH_take (i := 11) (oi := ({ dst := some 56, op := Op.move (Operand.tmp 67), type := 79, pos := "ref.go:86", after := #[{ on := 10, ground := Ground.data }], guard := none } : Oper)) (v := .tuple #[.agg (hbs X), .agg (hbs Y)]) rfl (by kernel_rfl) (by kernel_rfl) (by kernel_rfl) (fun _ _ _ h => h) (Or.inl ⟨by rfl, by intro w hw; go_simp⟩) hS0 ?_
        try simp only [Act.put, List.setIfInBounds_toArray, List.set_cons_zero, List.set_cons_succ]
        refine wpAnyH_take (i := 12) (oi := ({ dst := some 68, op := Op.extract (Operand.tmp 56) 0, type := 24, pos := "ref.go:86", after := #[{ on := 11, ground := Ground.data }], guard := none } : Oper)) (v := .agg (hbs X)) rfl (by kernel_rfl) (by kernel_rfl) (by kernel_rfl) (fun _ _ _ h => h) (Or.inl ⟨by rfl, by intro w hw; go_simp⟩) hS0 ?_
        try simp only [Act.put, List.setIfInBounds_toArray, List.set_cons_zero, List.set_cons_succ]
        refine wpAnyH_take (i := 13) (oi := ({ dst := some 69, op := Op.extract (Operand.tmp 56) 1, type := 24, pos := "ref.go:86", after := #[{ on := 11, ground := Ground.data }, { on := 16, ground := Ground.gcOnly Departure.lateStores }], guard := none } : Oper)) (v := .agg (hbs Y)) rfl (by kernel_rfl) (by kernel_rfl) (by kernel_rfl) (fun _ _ _ h => h) (Or.inl ⟨by rfl, by intro w hw; go_simp⟩) hS0 ?_
        try simp only [Act.put, List.setIfInBounds_toArray, List.set_cons_zero, List.set_cons_succ]
        refine wpAnyH_ready (rs := [15]) (by kernel_rfl) (by simp) ?_
        refine (AllReadyH.cons (o := ({ dst := some 17, op := Op.alloc 24, type := 0, pos := "ref.go:86", after := #[], guard := none } : Oper)) rfl (fun K' hK => ?_) AllReadyH.nil)
        refine step_alloc24 rfl rfl ?_
        have ha6 := heap_new (w102) (.cells z32 24)
        have hn6 := nwa (w102) (.cells z32 24)
        obtain ⟨wal6, hw6⟩ : ∃ q, (w102).alloc (.cells z32 24) = q := ⟨_, rfl⟩
        rw [hw6] at ha6 hn6 ⊢
        obtain ⟨b17, hb6⟩ : ∃ q, q = (w102).heap.size := ⟨_, rfl⟩
        rw [← hb6] at ha6 ⊢
        have LB17 : w1.heap.size ≤ b17 := by rw [hb6]; exact nb.size
        have BB17 := ha6
        have hne : b16 ≠ b17 := by rw [hb6]; have := heap_lt BB16; omega
        have BB16 := (hn6.block _ (heap_lt BB16) (fun f => f)).trans BB16
        have nb : Nw w1 wal6 := nb.tr hn6
        clear hw6 hb6 ha6 hn6
        refine hK.out _ _ (nb) (fun hS0 => ?_)
        try simp only [Act.put, List.setIfInBounds_toArray, List.set_cons_zero, List.set_cons_succ]
        refine wpAnyH_ready (rs := [16]) (by kernel_rfl) (by simp) ?_
        refine (AllReadyH.cons (o := ({ dst := none, op := Op.store 24 (Operand.tmp 16) (Operand.tmp 68), type := 0, pos := "ref.go:86", after := #[{ on := 14, ground := Ground.data }, { on := 12, ground := Ground.data }, { on := 10, ground := Ground.chain }, { on := 0, ground := Ground.phase }, { on := 1, ground := Ground.phase }, { on := 2, ground := Ground.phase }, { on := 3, ground := Ground.phase }, { on := 4, ground := Ground.phase }, { on := 5, ground := Ground.phase }, { on := 6, ground := Ground.phase }, { on := 7, ground := Ground.phase }, { on := 8, ground := Ground.phase }, { on := 9, ground := Ground.phase }, { on := 10, ground := Ground.phase }, { on := 11, ground := Ground.phase }, { on := 12, ground := Ground.phase }, { on := 13, ground := Ground.textOnly Departure.lateStores }, { on := 14, ground := Ground.phase }, { on := 15, ground := Ground.phase }], guard := none } : Oper)) rfl (fun K' hK => ?_) AllReadyH.nil)
        refine step_store_agg rfl (.tmp 16) (.tmp 68) 24 32 rfl Tryd.sizeOf24 b16 0 rfl z32 24 BB16 (hbs X) rfl hXs (hbs_one _) (by decide) (hbs X) (by rw [dropA z32_size]; simp) ?_
        intro w816 j816 f816 z8
        clear z8
        have BB17 := (f816.block _ (heap_lt BB17) (fun q => by omega)).trans BB17
        have nb : Nw w1 w816 := nb.trans f816 (fun k hk q => by omega)
        refine hK.out _ _ (nb) (fun hS0 => ?_)
        try simp only [Act.put, List.setIfInBounds_toArray, List.set_cons_zero, List.set_cons_succ]
        refine wpAnyH_ready (rs := [17]) (by kernel_rfl) (by simp) ?_
        refine (AllReadyH.cons (o := ({ dst := none, op := Op.store 24 (Operand.tmp 17) (Operand.tmp 69), type := 0, pos := "ref.go:86", after := #[{ on := 15, ground := Ground.data }, { on := 13, ground := Ground.data }, { on := 16, ground := Ground.chain }, { on := 0, ground := Ground.phase }, { on := 1, ground := Ground.phase }, { on := 2, ground := Ground.phase }, { on := 3, ground := Ground.phase }, { on := 4, ground := Ground.phase }, { on := 5, ground := Ground.phase }, { on := 6, ground := Ground.phase }, { on := 7, ground := Ground.phase }, { on := 8, ground := Ground.phase }, { on := 9, ground := Ground.phase }, { on := 10, ground := Ground.phase }, { on := 11, ground := Ground.phase }, { on := 12, ground := Ground.phase }, { on := 13, ground := Ground.phase }, { on := 14, ground := Ground.phase }, { on := 15, ground := Ground.phase }, { on := 16, ground := Ground.phase }], guard := none } : Oper)) rfl (fun K' hK => ?_) AllReadyH.nil)
        refine step_store_agg rfl (.tmp 17) (.tmp 69) 24 32 rfl Tryd.sizeOf24 b17 0 rfl z32 24 BB17 (hbs Y) rfl hYs (hbs_one _) (by decide) (hbs Y) (by rw [dropA z32_size]; simp) ?_
        intro w817 j817 f817 z8
        clear z8
        have j816 := (f817.block _ (heap_lt j816) (fun q => by omega)).trans j816
        have nb : Nw w1 w817 := nb.trans f817 (fun k hk q => by omega)
        refine hK.out _ _ (nb) (fun hS0 => ?_)
        try simp only [Act.put, List.setIfInBounds_toArray, List.set_cons_zero, List.set_cons_succ]
        refine wpAnyH_done (by kernel_rfl) ?_ _
        go_wp2_with fail
        go_meet
        exact ⟨b16, b17, rfl, rfl, LB16, LB17, j816, j817, nb⟩
      · refine step_alloc24 rfl rfl ?_
        have ha7 := heap_new (wal5) (.cells z32 24)
        have hn7 := nwa (wal5) (.cells z32 24)
        obtain ⟨wal7, hw7⟩ : ∃ q, (wal5).alloc (.cells z32 24) = q := ⟨_, rfl⟩
        rw [hw7] at ha7 hn7 ⊢
        obtain ⟨b17, hb7⟩ : ∃ q, q = (wal5).heap.size := ⟨_, rfl⟩
        rw [← hb7] at ha7 ⊢
        have LB17 : w1.heap.size ≤ b17 := by rw [hb7]; exact nb.size
        have BB17 := ha7
        have hne : b16 ≠ b17 := by rw [hb7]; have := heap_lt BB16; omega
        have BB16 := (hn7.block _ (heap_lt BB16) (fun f => f)).trans BB16
        have nb : Nw w1 wal7 := nb.tr hn7
        clear hw7 hb7 ha7 hn7
        refine hK.out _ _ (nb) (fun hS0 => ?_)
        try simp only [Act.put, List.setIfInBounds_toArray, List.set_cons_zero, List.set_cons_succ]
        refine wpAnyH_ready (rs := [10]) (by kernel_rfl) (by simp) ?_
        refine (AllReadyH.cons (o := ({ dst := some 67, op := Op.call { callee := Callee.value (Operand.func 39), args := #[Operand.tmp 59, Operand.tmp 62, Operand.const (Value.bool false), Operand.tmp 63, Operand.tmp 66], argTypes := #[22, 22, 4, 24, 25] }, type := 79, pos := "ref.go:86", after := #[{ on := 2, ground := Ground.data }, { on := 5, ground := Ground.data }, { on := 6, ground := Ground.data }, { on := 9, ground := Ground.data }], guard := none } : Oper)) rfl (fun K' hK => ?_) AllReadyH.nil)
        go_simp
        go_wp2_with (go_at_call 39; refine (QA.out _ (N1.out.tr nb)).mono ?_; rintro ex w103 ⟨rfl, nw103⟩)
        have nb := nb.tr nw103
        have BB16 := (nw103.block _ (heap_lt BB16) (fun f => f)).trans BB16
        have BB17 := (nw103.block _ (heap_lt BB17) (fun f => f)).trans BB17
        refine hK.out _ _ (nb) (fun hS0 => ?_)
        try simp only [Act.put, List.setIfInBounds_toArray, List.set_cons_zero, List.set_cons_succ]
        refine wpAnyH_take (i := 11) (oi := ({ dst := some 56, op := Op.move (Operand.tmp 67), type := 79, pos := "ref.go:86", after := #[{ on := 10, ground := Ground.data }], guard := none } : Oper)) (v := .tuple #[.agg (hbs X), .agg (hbs Y)]) rfl (by kernel_rfl) (by kernel_rfl) (by kernel_rfl) (fun _ _ _ h => h) (Or.inl ⟨by rfl, by intro w hw; go_simp⟩) hS0 ?_
        try simp only [Act.put, List.setIfInBounds_toArray, List.set_cons_zero, List.set_cons_succ]
        refine wpAnyH_take (i := 12) (oi := ({ dst := some 68, op := Op.extract (Operand.tmp 56) 0, type := 24, pos := "ref.go:86", after := #[{ on := 11, ground := Ground.data }], guard := none } : Oper)) (v := .agg (hbs X)) rfl (by kernel_rfl) (by kernel_rfl) (by kernel_rfl) (fun _ _ _ h => h) (Or.inl ⟨by rfl, by intro w hw; go_simp⟩) hS0 ?_
        try simp only [Act.put, List.setIfInBounds_toArray, List.set_cons_zero, List.set_cons_succ]
        refine wpAnyH_take (i := 13) (oi := ({ dst := some 69, op := Op.extract (Operand.tmp 56) 1, type := 24, pos := "ref.go:86", after := #[{ on := 11, ground := Ground.data }, { on := 16, ground := Ground.gcOnly Departure.lateStores }], guard := none } : Oper)) (v := .agg (hbs Y)) rfl (by kernel_rfl) (by kernel_rfl) (by kernel_rfl) (fun _ _ _ h => h) (Or.inl ⟨by rfl, by intro w hw; go_simp⟩) hS0 ?_
        try simp only [Act.put, List.setIfInBounds_toArray, List.set_cons_zero, List.set_cons_succ]
        refine wpAnyH_ready (rs := [16]) (by kernel_rfl) (by simp) ?_
        refine (AllReadyH.cons (o := ({ dst := none, op := Op.store 24 (Operand.tmp 16) (Operand.tmp 68), type := 0, pos := "ref.go:86", after := #[{ on := 14, ground := Ground.data }, { on := 12, ground := Ground.data }, { on := 10, ground := Ground.chain }, { on := 0, ground := Ground.phase }, { on := 1, ground := Ground.phase }, { on := 2, ground := Ground.phase }, { on := 3, ground := Ground.phase }, { on := 4, ground := Ground.phase }, { on := 5, ground := Ground.phase }, { on := 6, ground := Ground.phase }, { on := 7, ground := Ground.phase }, { on := 8, ground := Ground.phase }, { on := 9, ground := Ground.phase }, { on := 10, ground := Ground.phase }, { on := 11, ground := Ground.phase }, { on := 12, ground := Ground.phase }, { on := 13, ground := Ground.textOnly Departure.lateStores }, { on := 14, ground := Ground.phase }, { on := 15, ground := Ground.phase }], guard := none } : Oper)) rfl (fun K' hK => ?_) AllReadyH.nil)
        refine step_store_agg rfl (.tmp 16) (.tmp 68) 24 32 rfl Tryd.sizeOf24 b16 0 rfl z32 24 BB16 (hbs X) rfl hXs (hbs_one _) (by decide) (hbs X) (by rw [dropA z32_size]; simp) ?_
        intro w816 j816 f816 z8
        clear z8
        have BB17 := (f816.block _ (heap_lt BB17) (fun q => by omega)).trans BB17
        have nb : Nw w1 w816 := nb.trans f816 (fun k hk q => by omega)
        refine hK.out _ _ (nb) (fun hS0 => ?_)
        try simp only [Act.put, List.setIfInBounds_toArray, List.set_cons_zero, List.set_cons_succ]
        refine wpAnyH_ready (rs := [17]) (by kernel_rfl) (by simp) ?_
        refine (AllReadyH.cons (o := ({ dst := none, op := Op.store 24 (Operand.tmp 17) (Operand.tmp 69), type := 0, pos := "ref.go:86", after := #[{ on := 15, ground := Ground.data }, { on := 13, ground := Ground.data }, { on := 16, ground := Ground.chain }, { on := 0, ground := Ground.phase }, { on := 1, ground := Ground.phase }, { on := 2, ground := Ground.phase }, { on := 3, ground := Ground.phase }, { on := 4, ground := Ground.phase }, { on := 5, ground := Ground.phase }, { on := 6, ground := Ground.phase }, { on := 7, ground := Ground.phase }, { on := 8, ground := Ground.phase }, { on := 9, ground := Ground.phase }, { on := 10, ground := Ground.phase }, { on := 11, ground := Ground.phase }, { on := 12, ground := Ground.phase }, { on := 13, ground := Ground.phase }, { on := 14, ground := Ground.phase }, { on := 15, ground := Ground.phase }, { on := 16, ground := Ground.phase }], guard := none } : Oper)) rfl (fun K' hK => ?_) AllReadyH.nil)
        refine step_store_agg rfl (.tmp 17) (.tmp 69) 24 32 rfl Tryd.sizeOf24 b17 0 rfl z32 24 BB17 (hbs Y) rfl hYs (hbs_one _) (by decide) (hbs Y) (by rw [dropA z32_size]; simp) ?_
        intro w817 j817 f817 z8
        clear z8
        have j816 := (f817.block _ (heap_lt j816) (fun q => by omega)).trans j816
        have nb : Nw w1 w817 := nb.trans f817 (fun k hk q => by omega)
        refine hK.out _ _ (nb) (fun hS0 => ?_)
        try simp only [Act.put, List.setIfInBounds_toArray, List.set_cons_zero, List.set_cons_succ]
        refine wpAnyH_done (by kernel_rfl) ?_ _
        go_wp2_with fail
        go_meet
        exact ⟨b16, b17, rfl, rfl, LB16, LB17, j816, j817, nb⟩
    · refine step_alloc24 rfl rfl ?_
      have ha8 := heap_new (w1.drew) (.cells z32 24)
      have hn8 := nwa (w1.drew) (.cells z32 24)
      obtain ⟨wal8, hw8⟩ : ∃ q, (w1.drew).alloc (.cells z32 24) = q := ⟨_, rfl⟩
      rw [hw8] at ha8 hn8 ⊢
      obtain ⟨b17, hb8⟩ : ∃ q, q = (w1.drew).heap.size := ⟨_, rfl⟩
      rw [← hb8] at ha8 ⊢
      have LB17 : w1.heap.size ≤ b17 := by rw [hb8]; exact nb.size
      have BB17 := ha8
      have nb : Nw w1 wal8 := nb.tr hn8
      clear hw8 hb8 ha8 hn8
      refine hK.out _ _ (nb) (fun hS0 => ?_)
      try simp only [Act.put, List.setIfInBounds_toArray, List.set_cons_zero, List.set_cons_succ]
      refine wpAnyH_ready (rs := [10, 14]) (by kernel_rfl) (by simp) ?_
      refine (AllReadyH.cons (o := ({ dst := some 67, op := Op.call { callee := Callee.value (Operand.func 39), args := #[Operand.tmp 59, Operand.tmp 62, Operand.const (Value.bool false), Operand.tmp 63, Operand.tmp 66], argTypes := #[22, 22, 4, 24, 25] }, type := 79, pos := "ref.go:86", after := #[{ on := 2, ground := Ground.data }, { on := 5, ground := Ground.data }, { on := 6, ground := Ground.data }, { on := 9, ground := Ground.data }], guard := none } : Oper)) rfl (fun K' hK => ?_) (AllReadyH.cons (o := ({ dst := some 16, op := Op.alloc 24, type := 0, pos := "ref.go:86", after := #[], guard := none } : Oper)) rfl (fun K' hK => ?_) AllReadyH.nil))
      · go_simp
        go_wp2_with (go_at_call 39; refine (QA.out _ (N1.out.tr nb)).mono ?_; rintro ex w104 ⟨rfl, nw104⟩)
        have nb := nb.tr nw104
        have BB17 := (nw104.block _ (heap_lt BB17) (fun f => f)).trans BB17
        refine hK.out _ _ (nb) (fun hS0 => ?_)
        try simp only [Act.put, List.setIfInBounds_toArray, List.set_cons_zero, List.set_cons_succ]
        refine wpAnyH_take (i := 11) (oi := ({ dst := some 56, op := Op.move (Operand.tmp 67), type := 79, pos := "ref.go:86", after := #[{ on := 10, ground := Ground.data }], guard := none } : Oper)) (v := .tuple #[.agg (hbs X), .agg (hbs Y)]) rfl (by kernel_rfl) (by kernel_rfl) (by kernel_rfl) (fun _ _ _ h => h) (Or.inl ⟨by rfl, by intro w hw; go_simp⟩) hS0 ?_
        try simp only [Act.put, List.setIfInBounds_toArray, List.set_cons_zero, List.set_cons_succ]
        refine wpAnyH_take (i := 12) (oi := ({ dst := some 68, op := Op.extract (Operand.tmp 56) 0, type := 24, pos := "ref.go:86", after := #[{ on := 11, ground := Ground.data }], guard := none } : Oper)) (v := .agg (hbs X)) rfl (by kernel_rfl) (by kernel_rfl) (by kernel_rfl) (fun _ _ _ h => h) (Or.inl ⟨by rfl, by intro w hw; go_simp⟩) hS0 ?_
        try simp only [Act.put, List.setIfInBounds_toArray, List.set_cons_zero, List.set_cons_succ]
        refine wpAnyH_take (i := 13) (oi := ({ dst := some 69, op := Op.extract (Operand.tmp 56) 1, type := 24, pos := "ref.go:86", after := #[{ on := 11, ground := Ground.data }, { on := 16, ground := Ground.gcOnly Departure.lateStores }], guard := none } : Oper)) (v := .agg (hbs Y)) rfl (by kernel_rfl) (by kernel_rfl) (by kernel_rfl) (fun _ _ _ h => h) (Or.inl ⟨by rfl, by intro w hw; go_simp⟩) hS0 ?_
        try simp only [Act.put, List.setIfInBounds_toArray, List.set_cons_zero, List.set_cons_succ]
        refine wpAnyH_ready (rs := [14]) (by kernel_rfl) (by simp) ?_
        refine (AllReadyH.cons (o := ({ dst := some 16, op := Op.alloc 24, type := 0, pos := "ref.go:86", after := #[], guard := none } : Oper)) rfl (fun K' hK => ?_) AllReadyH.nil)
        refine step_alloc24 rfl rfl ?_
        have ha9 := heap_new (w104) (.cells z32 24)
        have hn9 := nwa (w104) (.cells z32 24)
        obtain ⟨wal9, hw9⟩ : ∃ q, (w104).alloc (.cells z32 24) = q := ⟨_, rfl⟩
        rw [hw9] at ha9 hn9 ⊢
        obtain ⟨b16, hb9⟩ : ∃ q, q = (w104).heap.size := ⟨_, rfl⟩
        rw [← hb9] at ha9 ⊢
        have LB16 : w1.heap.size ≤ b16 := by rw [hb9]; exact nb.size
        have BB16 := ha9
        have hne : b17 ≠ b16 := by rw [hb9]; have := heap_lt BB17; omega
        have BB17 := (hn9.block _ (heap_lt BB17) (fun f => f)).trans BB17
        have nb : Nw w1 wal9 := nb.tr hn9
        clear hw9 hb9 ha9 hn9
        refine hK.out _ _ (nb) (fun hS0 => ?_)
        try simp only [Act.put, List.setIfInBounds_toArray, List.set_cons_zero, List.set_cons_succ]
        refine wpAnyH_ready (rs := [16]) (by kernel_rfl) (by simp) ?_
        refine (AllReadyH.cons (o := ({ dst := none, op := Op.store 24 (Operand.tmp 16) (Operand.tmp 68), type := 0, pos := "ref.go:86", after := #[{ on := 14, ground := Ground.data }, { on := 12, ground := Ground.data }, { on := 10, ground := Ground.chain }, { on := 0, ground := Ground.phase }, { on := 1, ground := Ground.phase }, { on := 2, ground := Ground.phase }, { on := 3, ground := Ground.phase }, { on := 4, ground := Ground.phase }, { on := 5, ground := Ground.phase }, { on := 6, ground := Ground.phase }, { on := 7, ground := Ground.phase }, { on := 8, ground := Ground.phase }, { on := 9, ground := Ground.phase }, { on := 10, ground := Ground.phase }, { on := 11, ground := Ground.phase }, { on := 12, ground := Ground.phase }, { on := 13, ground := Ground.textOnly Departure.lateStores }, { on := 14, ground := Ground.phase }, { on := 15, ground := Ground.phase }], guard := none } : Oper)) rfl (fun K' hK => ?_) AllReadyH.nil)
        refine step_store_agg rfl (.tmp 16) (.tmp 68) 24 32 rfl Tryd.sizeOf24 b16 0 rfl z32 24 BB16 (hbs X) rfl hXs (hbs_one _) (by decide) (hbs X) (by rw [dropA z32_size]; simp) ?_
        intro w816 j816 f816 z8
        clear z8
        have BB17 := (f816.block _ (heap_lt BB17) (fun q => by omega)).trans BB17
        have nb : Nw w1 w816 := nb.trans f816 (fun k hk q => by omega)
        refine hK.out _ _ (nb) (fun hS0 => ?_)
        try simp only [Act.put, List.setIfInBounds_toArray, List.set_cons_zero, List.set_cons_succ]
        refine wpAnyH_ready (rs := [17]) (by kernel_rfl) (by simp) ?_
        refine (AllReadyH.cons (o := ({ dst := none, op := Op.store 24 (Operand.tmp 17) (Operand.tmp 69), type := 0, pos := "ref.go:86", after := #[{ on := 15, ground := Ground.data }, { on := 13, ground := Ground.data }, { on := 16, ground := Ground.chain }, { on := 0, ground := Ground.phase }, { on := 1, ground := Ground.phase }, { on := 2, ground := Ground.phase }, { on := 3, ground := Ground.phase }, { on := 4, ground := Ground.phase }, { on := 5, ground := Ground.phase }, { on := 6, ground := Ground.phase }, { on := 7, ground := Ground.phase }, { on := 8, ground := Ground.phase }, { on := 9, ground := Ground.phase }, { on := 10, ground := Ground.phase }, { on := 11, ground := Ground.phase }, { on := 12, ground := Ground.phase }, { on := 13, ground := Ground.phase }, { on := 14, ground := Ground.phase }, { on := 15, ground := Ground.phase }, { on := 16, ground := Ground.phase }], guard := none } : Oper)) rfl (fun K' hK => ?_) AllReadyH.nil)
        refine step_store_agg rfl (.tmp 17) (.tmp 69) 24 32 rfl Tryd.sizeOf24 b17 0 rfl z32 24 BB17 (hbs Y) rfl hYs (hbs_one _) (by decide) (hbs Y) (by rw [dropA z32_size]; simp) ?_
        intro w817 j817 f817 z8
        clear z8
        have j816 := (f817.block _ (heap_lt j816) (fun q => by omega)).trans j816
        have nb : Nw w1 w817 := nb.trans f817 (fun k hk q => by omega)
        refine hK.out _ _ (nb) (fun hS0 => ?_)
        try simp only [Act.put, List.setIfInBounds_toArray, List.set_cons_zero, List.set_cons_succ]
        refine wpAnyH_done (by kernel_rfl) ?_ _
        go_wp2_with fail
        go_meet
        exact ⟨b16, b17, rfl, rfl, LB16, LB17, j816, j817, nb⟩
      · refine step_alloc24 rfl rfl ?_
        have ha10 := heap_new (wal8) (.cells z32 24)
        have hn10 := nwa (wal8) (.cells z32 24)
        obtain ⟨wal10, hw10⟩ : ∃ q, (wal8).alloc (.cells z32 24) = q := ⟨_, rfl⟩
        rw [hw10] at ha10 hn10 ⊢
        obtain ⟨b16, hb10⟩ : ∃ q, q = (wal8).heap.size := ⟨_, rfl⟩
        rw [← hb10] at ha10 ⊢
        have LB16 : w1.heap.size ≤ b16 := by rw [hb10]; exact nb.size
        have BB16 := ha10
        have hne : b17 ≠ b16 := by rw [hb10]; have := heap_lt BB17; omega
        have BB17 := (hn10.block _ (heap_lt BB17) (fun f => f)).trans BB17
        have nb : Nw w1 wal10 := nb.tr hn10
        clear hw10 hb10 ha10 hn10
        refine hK.out _ _ (nb) (fun hS0 => ?_)
        try simp only [Act.put, List.setIfInBounds_toArray, List.set_cons_zero, List.set_cons_succ]
        refine wpAnyH_ready (rs := [10]) (by kernel_rfl) (by simp) ?_
        refine (AllReadyH.cons (o := ({ dst := some 67, op := Op.call { callee := Callee.value (Operand.func 39), args := #[Operand.tmp 59, Operand.tmp 62, Operand.const (Value.bool false), Operand.tmp 63, Operand.tmp 66], argTypes := #[22, 22, 4, 24, 25] }, type := 79, pos := "ref.go:86", after := #[{ on := 2, ground := Ground.data }, { on := 5, ground := Ground.data }, { on := 6, ground := Ground.data }, { on := 9, ground := Ground.data }], guard := none } : Oper)) rfl (fun K' hK => ?_) AllReadyH.nil)
        go_simp
        go_wp2_with (go_at_call 39; refine (QA.out _ (N1.out.tr nb)).mono ?_; rintro ex w105 ⟨rfl, nw105⟩)
        have nb := nb.tr nw105
        have BB16 := (nw105.block _ (heap_lt BB16) (fun f => f)).trans BB16
        have BB17 := (nw105.block _ (heap_lt BB17) (fun f => f)).trans BB17
        refine hK.out _ _ (nb) (fun hS0 => ?_)
        try simp only [Act.put, List.setIfInBounds_toArray, List.set_cons_zero, List.set_cons_succ]
        refine wpAnyH_take (i := 11) (oi := ({ dst := some 56, op := Op.move (Operand.tmp 67), type := 79, pos := "ref.go:86", after := #[{ on := 10, ground := Ground.data }], guard := none } : Oper)) (v := .tuple #[.agg (hbs X), .agg (hbs Y)]) rfl (by kernel_rfl) (by kernel_rfl) (by kernel_rfl) (fun _ _ _ h => h) (Or.inl ⟨by rfl, by intro w hw; go_simp⟩) hS0 ?_
        try simp only [Act.put, List.setIfInBounds_toArray, List.set_cons_zero, List.set_cons_succ]
        refine wpAnyH_take (i := 12) (oi := ({ dst := some 68, op := Op.extract (Operand.tmp 56) 0, type := 24, pos := "ref.go:86", after := #[{ on := 11, ground := Ground.data }], guard := none } : Oper)) (v := .agg (hbs X)) rfl (by kernel_rfl) (by kernel_rfl) (by kernel_rfl) (fun _ _ _ h => h) (Or.inl ⟨by rfl, by intro w hw; go_simp⟩) hS0 ?_
        try simp only [Act.put, List.setIfInBounds_toArray, List.set_cons_zero, List.set_cons_succ]
        refine wpAnyH_take (i := 13) (oi := ({ dst := some 69, op := Op.extract (Operand.tmp 56) 1, type := 24, pos := "ref.go:86", after := #[{ on := 11, ground := Ground.data }, { on := 16, ground := Ground.gcOnly Departure.lateStores }], guard := none } : Oper)) (v := .agg (hbs Y)) rfl (by kernel_rfl) (by kernel_rfl) (by kernel_rfl) (fun _ _ _ h => h) (Or.inl ⟨by rfl, by intro w hw; go_simp⟩) hS0 ?_
        try simp only [Act.put, List.setIfInBounds_toArray, List.set_cons_zero, List.set_cons_succ]
        refine wpAnyH_ready (rs := [16]) (by kernel_rfl) (by simp) ?_
        refine (AllReadyH.cons (o := ({ dst := none, op := Op.store 24 (Operand.tmp 16) (Operand.tmp 68), type := 0, pos := "ref.go:86", after := #[{ on := 14, ground := Ground.data }, { on := 12, ground := Ground.data }, { on := 10, ground := Ground.chain }, { on := 0, ground := Ground.phase }, { on := 1, ground := Ground.phase }, { on := 2, ground := Ground.phase }, { on := 3, ground := Ground.phase }, { on := 4, ground := Ground.phase }, { on := 5, ground := Ground.phase }, { on := 6, ground := Ground.phase }, { on := 7, ground := Ground.phase }, { on := 8, ground := Ground.phase }, { on := 9, ground := Ground.phase }, { on := 10, ground := Ground.phase }, { on := 11, ground := Ground.phase }, { on := 12, ground := Ground.phase }, { on := 13, ground := Ground.textOnly Departure.lateStores }, { on := 14, ground := Ground.phase }, { on := 15, ground := Ground.phase }], guard := none } : Oper)) rfl (fun K' hK => ?_) AllReadyH.nil)
        refine step_store_agg rfl (.tmp 16) (.tmp 68) 24 32 rfl Tryd.sizeOf24 b16 0 rfl z32 24 BB16 (hbs X) rfl hXs (hbs_one _) (by decide) (hbs X) (by rw [dropA z32_size]; simp) ?_
        intro w816 j816 f816 z8
        clear z8
        have BB17 := (f816.block _ (heap_lt BB17) (fun q => by omega)).trans BB17
        have nb : Nw w1 w816 := nb.trans f816 (fun k hk q => by omega)
        refine hK.out _ _ (nb) (fun hS0 => ?_)
        try simp only [Act.put, List.setIfInBounds_toArray, List.set_cons_zero, List.set_cons_succ]
        refine wpAnyH_ready (rs := [17]) (by kernel_rfl) (by simp) ?_
        refine (AllReadyH.cons (o := ({ dst := none, op := Op.store 24 (Operand.tmp 17) (Operand.tmp 69), type := 0, pos := "ref.go:86", after := #[{ on := 15, ground := Ground.data }, { on := 13, ground := Ground.data }, { on := 16, ground := Ground.chain }, { on := 0, ground := Ground.phase }, { on := 1, ground := Ground.phase }, { on := 2, ground := Ground.phase }, { on := 3, ground := Ground.phase }, { on := 4, ground := Ground.phase }, { on := 5, ground := Ground.phase }, { on := 6, ground := Ground.phase }, { on := 7, ground := Ground.phase }, { on := 8, ground := Ground.phase }, { on := 9, ground := Ground.phase }, { on := 10, ground := Ground.phase }, { on := 11, ground := Ground.phase }, { on := 12, ground := Ground.phase }, { on := 13, ground := Ground.phase }, { on := 14, ground := Ground.phase }, { on := 15, ground := Ground.phase }, { on := 16, ground := Ground.phase }], guard := none } : Oper)) rfl (fun K' hK => ?_) AllReadyH.nil)
        refine step_store_agg rfl (.tmp 17) (.tmp 69) 24 32 rfl Tryd.sizeOf24 b17 0 rfl z32 24 BB17 (hbs Y) rfl hYs (hbs_one _) (by decide) (hbs Y) (by rw [dropA z32_size]; simp) ?_
        intro w817 j817 f817 z8
        clear z8
        have j816 := (f817.block _ (heap_lt j816) (fun q => by omega)).trans j816
        have nb : Nw w1 w817 := nb.trans f817 (fun k hk q => by omega)
        refine hK.out _ _ (nb) (fun hS0 => ?_)
        try simp only [Act.put, List.setIfInBounds_toArray, List.set_cons_zero, List.set_cons_succ]
        refine wpAnyH_done (by kernel_rfl) ?_ _
        go_wp2_with fail
        go_meet
        exact ⟨b16, b17, rfl, rfl, LB16, LB17, j816, j817, nb⟩
  case rest =>
  obtain ⟨b1, b2, rfl, rfl, l1, l2, x1, x2, n3⟩ := hcut
  obtain ⟨w3, hw3⟩ : ∃ q, q = wc := ⟨_, rfl⟩
  rw [← hw3] at x1 x2 n3 ⊢
  have HL12 : Hid (w1.heap.size ≤ b1 ∧ w1.heap.size ≤ b2) := ⟨l1, l2⟩
  have HLP : Hid (p1 < w1.heap.size ∧ p2 < w1.heap.size) := ⟨heap_lt HP1.out, heap_lt HP2.out⟩
  have HB1 : Hid (w3.heap[b1]? = some (.cells (hbs X) 24)) := x1
  have HB2 : Hid (w3.heap[b2]? = some (.cells (hbs Y) 24)) := x2
  have NX : Hid (Nw w w3) := N1.out.tr n3
  have HQ1 : Hid (w3.heap[p1]? = some (.cells z32 24)) := (n3.block _ (heap_lt HP1.out) (fun f => f)).trans HP1.out
  have HQ2 : Hid (w3.heap[p2]? = some (.cells z32 24)) := (n3.block _ (heap_lt HP2.out) (fun f => f)).trans HP2.out
  have HBC1 : Hid (∀ W, Fr (fun k => k = p1 ∨ k = p2) w3 W → ∀ j, j < 32 → W.cell? ⟨b1, 0 + j, none⟩ = (hbs X)[j]?) := fun W hW => hash_cells ((hW.block _ (heap_lt HB1.out) (fun q => by have := HL12.out; have := HLP.out; omega)).trans HB1.out)
  have HBC2 : Hid (∀ W, Fr (fun k => k = p1 ∨ k = p2) w3 W → ∀ j, j < 32 → W.cell? ⟨b2, 0 + j, none⟩ = (hbs Y)[j]?) := fun W hW => hash_cells ((hW.block _ (heap_lt HB2.out) (fun q => by have := HL12.out; have := HLP.out; omega)).trans HB2.out)
  have HYC : Hid (∀ W, Fr (fun k => k = p1 ∨ k = p2) w3 W → ∀ j, j < 32 → W.cell? ⟨g, o0 + m * 32 + j, none⟩ = (hbs y)[j]?) := fun W hW j hj => by
    have h5 : (hbs y)[j]? = some (hbs y)[j] := Array.getElem?_eq_getElem (by omega)
    have h6 := HY0.out j hj
    rw [h5] at h6 ⊢
    have hlt := World.block_lt_of_cell? w ⟨g, o0 + m * 32 + j, none⟩ h6
    have h7 := NX.out.cellOf h6
    exact (hW.cell (p := ⟨g, o0 + m * 32 + j, none⟩) (by have := NX.out.size; simp only at hlt ⊢; omega) (fun q => by have := HNE.out; simp only at hlt q; omega)).trans h7
  clear hw3 l1 l2 x1 x2 n3
  go_upto_region 11 with fail
  have nb : Nw w3 w3.drew := (Fr.refl _ _).drew
  refine wp_region_held_drew (S := (fun V => Fr (fun k => k = p1 ∨ k = p2) w3 V)) (by kernel_rfl) (by first | exact nb.mono (fun _ _ f => f.elim) | exact nb) ?_
  intro hS0
  refine wpAnyH_take (i := 0) (oi := ({ dst := some 70, op := Op.move (Operand.tmp 4), type := 25, pos := "ref.go:87", after := #[], guard := none } : Oper)) (v := .slice (some ⟨g, o0, none⟩) (m + 1) cap) rfl (by kernel_rfl) (by kernel_rfl) (by kernel_rfl) (fun _ _ _ h => h) (Or.inl ⟨by rfl, by intro w hw; go_simp⟩) hS0 ?_
  try simp only [Act.put, List.setIfInBounds_toArray, List.set_cons_zero, List.set_cons_succ]
  refine wpAnyH_take (i := 1) (oi := ({ dst := some 71, op := Op.move (Operand.tmp 13), type := 3, pos := "ref.go:87", after := #[], guard := none } : Oper)) (v := .int .i64 (m : Int)) rfl (by kernel_rfl) (by kernel_rfl) (by kernel_rfl) (fun _ _ _ h => h) (Or.inl ⟨by rfl, by intro w hw; go_simp⟩) hS0 ?_
  try simp only [Act.put, List.setIfInBounds_toArray, List.set_cons_zero, List.set_cons_succ]
  refine wpAnyH_take (i := 2) (oi := ({ dst := some 72, op := Op.indexAddr 25 (Operand.tmp 70) (Operand.tmp 71), type := 0, pos := "ref.go:87", after := #[{ on := 0, ground := Ground.data }, { on := 1, ground := Ground.data }], guard := none } : Oper)) (v := .pointer (some ⟨g, o0 + m * 32, none⟩)) rfl (by kernel_rfl) (by kernel_rfl) (by kernel_rfl) (fun _ _ _ h => h) (Or.inl ⟨by rfl, by intro w hw; go_simp; try (intro hq; omega)⟩) hS0 ?_
  try simp only [Act.put, List.setIfInBounds_toArray, List.set_cons_zero, List.set_cons_succ]
  refine wpAnyH_take (i := 3) (oi := ({ dst := some 73, op := Op.load 24 (Operand.tmp 72), type := 24, pos := "ref.go:87", after := #[{ on := 2, ground := Ground.data }], guard := none } : Oper)) (v := .agg (hbs y)) rfl (by kernel_rfl) (by kernel_rfl) (by kernel_rfl) (fun _ _ _ h => h) (yields_loadA (by kernel_rfl) (.tmp 72) 24 32 rfl Tryd.isAgg24 Tryd.sizeOf24 g (o0 + m * 32) rfl (hbs y) hys (fun w hw => HYC.out w hw)) hS0 ?_
  try simp only [Act.put, List.setIfInBounds_toArray, List.set_cons_zero, List.set_cons_succ]
  refine wpAnyH_take (i := 4) (oi := ({ dst := some 74, op := Op.load 24 (Operand.tmp 16), type := 24, pos := "ref.go:87", after := #[], guard := none } : Oper)) (v := .agg (hbs X)) rfl (by kernel_rfl) (by kernel_rfl) (by kernel_rfl) (fun _ _ _ h => h) (yields_loadA (by kernel_rfl) (.tmp 16) 24 32 rfl Tryd.isAgg24 Tryd.sizeOf24 b1 (0) rfl (hbs X) hXs (fun w hw => HBC1.out w hw)) hS0 ?_
  try simp only [Act.put, List.setIfInBounds_toArray, List.set_cons_zero, List.set_cons_succ]
  refine wpAnyH_take (i := 6) (oi := ({ dst := some 76, op := Op.move (Operand.tmp 4), type := 25, pos := "ref.go:87", after := #[], guard := none } : Oper)) (v := .slice (some ⟨g, o0, none⟩) (m + 1) cap) rfl (by kernel_rfl) (by kernel_rfl) (by kernel_rfl) (fun _ _ _ h => h) (Or.inl ⟨by rfl, by intro w hw; go_simp⟩) hS0 ?_
  try simp only [Act.put, List.setIfInBounds_toArray, List.set_cons_zero, List.set_cons_succ]
  refine wpAnyH_take (i := 7) (oi := ({ dst := some 77, op := Op.move (Operand.tmp 13), type := 3, pos := "ref.go:87", after := #[], guard := none } : Oper)) (v := .int .i64 (m : Int)) rfl (by kernel_rfl) (by kernel_rfl) (by kernel_rfl) (fun _ _ _ h => h) (Or.inl ⟨by rfl, by intro w hw; go_simp⟩) hS0 ?_
  try simp only [Act.put, List.setIfInBounds_toArray, List.set_cons_zero, List.set_cons_succ]
  refine wpAnyH_take (i := 8) (oi := ({ dst := some 78, op := Op.indexAddr 25 (Operand.tmp 76) (Operand.tmp 77), type := 0, pos := "ref.go:87", after := #[{ on := 6, ground := Ground.data }, { on := 7, ground := Ground.data }], guard := none } : Oper)) (v := .pointer (some ⟨g, o0 + m * 32, none⟩)) rfl (by kernel_rfl) (by kernel_rfl) (by kernel_rfl) (fun _ _ _ h => h) (Or.inl ⟨by rfl, by intro w hw; go_simp; try (intro hq; omega)⟩) hS0 ?_
  try simp only [Act.put, List.setIfInBounds_toArray, List.set_cons_zero, List.set_cons_succ]
  refine wpAnyH_take (i := 9) (oi := ({ dst := some 79, op := Op.load 24 (Operand.tmp 78), type := 24, pos := "ref.go:87", after := #[{ on := 8, ground := Ground.data }], guard := none } : Oper)) (v := .agg (hbs y)) rfl (by kernel_rfl) (by kernel_rfl) (by kernel_rfl) (fun _ _ _ h => h) (yields_loadA (by kernel_rfl) (.tmp 78) 24 32 rfl Tryd.isAgg24 Tryd.sizeOf24 g (o0 + m * 32) rfl (hbs y) hys (fun w hw => HYC.out w hw)) hS0 ?_
  try simp only [Act.put, List.setIfInBounds_toArray, List.set_cons_zero, List.set_cons_succ]
  refine wpAnyH_take (i := 10) (oi := ({ dst := some 80, op := Op.load 24 (Operand.tmp 17), type := 24, pos := "ref.go:87", after := #[], guard := none } : Oper)) (v := .agg (hbs Y)) rfl (by kernel_rfl) (by kernel_rfl) (by kernel_rfl) (fun _ _ _ h => h) (yields_loadA (by kernel_rfl) (.tmp 17) 24 32 rfl Tryd.isAgg24 Tryd.sizeOf24 b2 (0) rfl (hbs Y) hYs (fun w hw => HBC2.out w hw)) hS0 ?_
  try simp only [Act.put, List.setIfInBounds_toArray, List.set_cons_zero, List.set_cons_succ]
  refine wpAnyH_ready (rs := [5]) (by kernel_rfl) (by simp) ?_
  refine (AllReadyH.cons (o := ({ dst := some 75, op := Op.call { callee := Callee.value (Operand.func 47), args := #[Operand.tmp 73, Operand.tmp 74], argTypes := #[24, 24] }, type := 24, pos := "ref.go:87", after := #[{ on := 3, ground := Ground.data }, { on := 4, ground := Ground.data }], guard := none } : Oper)) rfl (fun K' hK => ?_) AllReadyH.nil)
  go_simp
  go_wp2_with (go_at_call 47; refine (QN1.out _).mono ?_; rintro ex w101 ⟨rfl, nw101⟩)
  have nb := nb.tr nw101
  refine hK.out _ _ (by first | exact nb.mono (fun _ _ f => f.elim) | exact nb) (fun hS0 => ?_)
  try simp only [Act.put, List.setIfInBounds_toArray, List.set_cons_zero, List.set_cons_succ]
  refine wpAnyH_ready (rs := [11]) (by kernel_rfl) (by simp) ?_
  refine (AllReadyH.cons (o := ({ dst := some 81, op := Op.call { callee := Callee.value (Operand.func 47), args := #[Operand.tmp 79, Operand.tmp 80], argTypes := #[24, 24] }, type := 24, pos := "ref.go:87", after := #[{ on := 9, ground := Ground.data }, { on := 10, ground := Ground.data }, { on := 5, ground := Ground.chain }], guard := none } : Oper)) rfl (fun K' hK => ?_) AllReadyH.nil)
  go_simp
  go_wp2_with (go_at_call 47; refine (QN2.out _).mono ?_; rintro ex w102 ⟨rfl, nw102⟩)
  have nb := nb.tr nw102
  refine hK.out _ _ (by first | exact nb.mono (fun _ _ f => f.elim) | exact nb) (fun hS0 => ?_)
  try simp only [Act.put, List.setIfInBounds_toArray, List.set_cons_zero, List.set_cons_succ]
  refine wpAnyH_ready (rs := [12]) (by kernel_rfl) (by simp) ?_
  refine (AllReadyH.cons (o := ({ dst := none, op := Op.store 24 (Operand.tmp 10) (Operand.tmp 75), type := 0, pos := "ref.go:87", after := #[{ on := 5, ground := Ground.data }, { on := 11, ground := Ground.chain }, { on := 0, ground := Ground.phase }, { on := 1, ground := Ground.phase }, { on := 2, ground := Ground.phase }, { on := 3, ground := Ground.phase }, { on := 4, ground := Ground.phase }, { on := 5, ground := Ground.phase }, { on := 6, ground := Ground.textOnly Departure.lateStores }, { on := 7, ground := Ground.textOnly Departure.lateStores }, { on := 8, ground := Ground.textOnly Departure.lateStores }, { on := 9, ground := Ground.textOnly Departure.lateStores }, { on := 10, ground := Ground.textOnly Departure.lateStores }, { on := 11, ground := Ground.textOnly Departure.lateStoresUnsure }], guard := none } : Oper)) rfl (fun K' hK => ?_) AllReadyH.nil)
  have jz := (nb.block _ (heap_lt HQ1.out) (fun f => f)).trans HQ1.out
  have jy := (nb.block _ (heap_lt HQ2.out) (fun f => f)).trans HQ2.out
  refine step_store_agg rfl (.tmp 10) (.tmp 75) 24 32 rfl Tryd.sizeOf24 p1 0 rfl z32 24 jz (hbs z1) rfl hz1s (hbs_one _) (by decide) (hbs z1) (by rw [dropA z32_size]; simp) ?_
  intro w8 j8 f8 z8
  clear z8
  have jy8 := (f8.block _ (heap_lt jy) (fun q => by have := HNE.out; omega)).trans jy
  have nf : Fr (fun k => k = p1 ∨ k = p2) w3 w8 := (nb.mono (fun _ _ f => f.elim)).trans f8 (fun j _ h => Or.inl h)
  have nb := nf
  refine hK.out _ _ (by first | exact nb.mono (fun _ _ f => f.elim) | exact nb) (fun hS0 => ?_)
  try simp only [Act.put, List.setIfInBounds_toArray, List.set_cons_zero, List.set_cons_succ]
  refine wpAnyH_ready (rs := [13]) (by kernel_rfl) (by simp) ?_
  refine (AllReadyH.cons (o := ({ dst := none, op := Op.store 24 (Operand.tmp 11) (Operand.tmp 81), type := 0, pos := "ref.go:87", after := #[{ on := 11, ground := Ground.data }, { on := 12, ground := Ground.chain }, { on := 0, ground := Ground.phase }, { on := 1, ground := Ground.phase }, { on := 2, ground := Ground.phase }, { on := 3, ground := Ground.phase }, { on := 4, ground := Ground.phase }, { on := 5, ground := Ground.phase }, { on := 6, ground := Ground.phase }, { on := 7, ground := Ground.phase }, { on := 8, ground := Ground.phase }, { on := 9, ground := Ground.phase }, { on := 10, ground := Ground.phase }, { on := 11, ground := Ground.phase }, { on := 12, ground := Ground.phase }], guard := none } : Oper)) rfl (fun K' hK => ?_) AllReadyH.nil)
  refine step_store_agg rfl (.tmp 11) (.tmp 81) 24 32 rfl Tryd.sizeOf24 p2 0 rfl z32 24 jy8 (hbs z2) rfl hz2s (hbs_one _) (by decide) (hbs z2) (by rw [dropA z32_size]; simp) ?_
  intro w9 j9 f9 z9
  clear z9
  have j89 := (f9.block _ (heap_lt j8) (fun q => by have := HNE.out; omega)).trans j8
  have nf : Fr (fun k => k = p1 ∨ k = p2) w3 w9 := nb.trans f9 (fun j _ h => Or.inr h)
  have nb := nf
  refine hK.out _ _ (by first | exact nb.mono (fun _ _ f => f.elim) | exact nb) (fun hS0 => ?_)
  try simp only [Act.put, List.setIfInBounds_toArray, List.set_cons_zero, List.set_cons_succ]
  refine wpAnyH_done (by kernel_rfl) ?_ _
  go_wp2_with fail
  exact bodyPost_ret (results_cellsV Tryd.results39 Tryd.isAgg24 Tryd.sizeOf24 Tryd.isAgg24 Tryd.sizeOf24 rfl rfl j89 hz1s j9 hz2s) rfl ⟨rfl, NX.out.trans nb (fun k hk q => by have := HNE.out; rcases q with q | q <;> omega)⟩
end Go.Proofs.YtaeocbdphfkflaaDoor
