/- The document's Half, Long; what a path says, by the document. -/
import Derived.Test.YtaeocbdphfkflaaDoorAcd
import Derived.Test.YtaeocbdphfkflaaDoorRah
import Derived.Test.YtaeocbdphfkflaaDoorYvw
namespace Go.Proofs.YtaeocbdphfkflaaDoor
open Go.RowKit Go.Shelf
set_option linter.unusedVariables false
set_option linter.unusedSimpArgs false
set_option maxHeartbeats 1000000 in
theorem rhalf_any (n : Nat) (hn : 2 ≤ n) (hn2 : n ≤ 9223372036854775808) (w : World) :
    Calls Tryd.prog 46 #[.int .u64 (n : Int)] w fun e w' => e = .returned (.int .u64 ((spl n : Nat) : Int)) ∧ w' = w := by
  obtain ⟨K, hK⟩ : ∃ K, K = spl n := ⟨_, rfl⟩
  have HK : Hid (K = spl n) := hK
  rw [← hK]
  clear hK
  go_enter Tryd.func46, Tryd.ntmps46
  go_wp2
  go_loopw [3] (fun x wr => wr = w ∧ ∃ k j : Nat, k = 2 ^ j ∧ x = .int .u64 (k : Int) ∧ k < n) (fun x _ => n - (intOf x).toNat)
  case atStart => exact ⟨rfl, 1, 0, rfl, rfl, by omega⟩
  case round =>
    obtain ⟨rfl, q, j, hq, rfl, hlt⟩ := hrel
    have HQ : Hid (q = 2 ^ j) := hq
    have hq0 : 0 < q := by rw [hq]; exact Nat.two_pow_pos j
    clear hq
    obtain ⟨D, hD⟩ : ∃ D : Nat, (n : Int) - (q : Int) = (D : Int) := ⟨n - q, by omega⟩
    by_cases hc : 2 * q < n
    · have hc1 : (q : Int) < (D : Int) := by omega
      go_wp2_with fail
      exact ⟨⟨trivial, 2 * q, j + 1, by rw [HQ.out, Nat.pow_succ'], by go_num, hc⟩, by simp [intOf]; omega⟩
    · have hc1 : ¬ (q : Int) < (D : Int) := by omega
      have hs : K = q := by rw [HK.out, HQ.out]; exact spl_of (by rw [← HQ.out]; exact hlt) (by rw [← HQ.out]; omega)
      clear hc hlt
      go_wp2
      go_ret
      exact ⟨rfl, rfl⟩
set_option maxRecDepth 100000 in
set_option maxHeartbeats 2000000 in
theorem rlong_any (i n : Nat) (hi : i < n) (hn2 : n ≤ 9223372036854775808) (w : World) :
    Calls Tryd.prog 33 #[.int .u64 (i : Int), .int .u64 (n : Int)] w fun e w' => e = .returned (.int .i64 (((sds i n).length : Nat) : Int)) ∧ w' = w := by
  obtain ⟨K, hK⟩ : ∃ K, K = (sds i n).length := ⟨_, rfl⟩
  have HK : Hid (K = (sds i n).length) := hK
  have hK63 : K ≤ 63 := by rw [hK]; exact sds_len 63 n i (Nat.le_trans hn2 (by decide))
  have QH : Hid (∀ (m : Nat) V, 2 ≤ m → m ≤ 9223372036854775808 → Calls Tryd.prog 46 #[.int .u64 (m : Int)] V fun e w' => e = .returned (.int .u64 ((spl m : Nat) : Int)) ∧ w' = V) := fun m V h1 h2 => rhalf_any m h1 h2 V
  rw [← hK]
  clear hK
  have HI : Hid (i < n ∧ n ≤ 9223372036854775808) := ⟨hi, hn2⟩
  clear hi hn2
  go_enter Tryd.func33, Tryd.ntmps33
  go_wp2
  go_loopw [0, 1, 5] (fun x y z wr => wr = w ∧ ∃ i' n' c : Nat, x = .int .u64 (i' : Int) ∧ y = .int .u64 (n' : Int) ∧ z = .int .i64 (c : Int) ∧ i' < n' ∧ n' ≤ 9223372036854775808 ∧ c + (sds i' n').length = K) (fun _ y _ _ => (intOf y).toNat)
  case atStart => exact ⟨rfl, i, n, 0, rfl, rfl, rfl, HI.out.1, HI.out.2, by rw [HK.out]; omega⟩
  case round =>
    obtain ⟨rfl, p, q, c, rfl, rfl, rfl, hpq, hq, hs⟩ := hrel
    have HS : Hid (c + (sds p q).length = K) := hs
    have hc63 : c ≤ 63 := by omega
    clear hs
    by_cases h2 : 2 ≤ q
    · have hq1 : (1 : Int) < (q : Int) := by omega
      have hkl := spl_lt h2
      have hkp := spl_pos q
      have QH1 := hid_of (QH.out q wr h2 hq)
      have HL : Hid (p < spl q → (sds p q).length = (sds p (spl q)).length + 1) := fun h => by rw [sds_left h2 h]; simp
      have HR : Hid (¬ p < spl q → (sds p q).length = (sds (p - spl q) (q - spl q)).length + 1) := fun h => by rw [sds_right h2 h]; simp
      obtain ⟨k, hk⟩ : ∃ k, k = spl q := ⟨_, rfl⟩
      rw [← hk] at QH1 hkl hkp HL HR
      clear hk h2
      go_wp2_with fail
      refine (Calls.mono QH1.out) ?_
      rintro e w2 ⟨rfl, rfl⟩
      by_cases hp : p < k
      · have hpi : (p : Int) < (k : Int) := by omega
        have HL1 := hid_of (HL.out hp)
        go_wp2_with fail
        exact ⟨⟨trivial, p, k, c + 1, rfl, rfl, by go_num, hp, by omega, by have := HS.out; have := HL1.out; omega⟩, by simp [intOf]; omega⟩
      · have hpi : ¬ (p : Int) < (k : Int) := by omega
        have HR1 := hid_of (HR.out hp)
        obtain ⟨p', hp'⟩ : ∃ p', p = k + p' := ⟨p - k, by omega⟩
        obtain ⟨q', hq'⟩ : ∃ q', q = k + q' := ⟨q - k, by omega⟩
        subst hp' hq'
        go_wp2_with fail
        refine ⟨⟨trivial, p', q', c + 1, by go_num, by go_num, by go_num, by omega, by omega, ?_⟩, by simp [intOf]; omega⟩
        have h1 := HS.out
        rw [HR1.out, show k + p' - k = p' by omega, show k + q' - k = q' by omega] at h1
        omega
    · have hq1 : ¬ (1 : Int) < (q : Int) := by omega
      have hz : (sds p q).length = 0 := by rw [sds_one p q (by omega)]; rfl
      have HKc : Hid (K = c) := by show K = c; have := HS.out; omega
      clear hz
      go_wp2
      go_ret
      exact ⟨by rw [HKc.out]; rfl, rfl⟩
theorem yields_loadA {P : Program} {ops : Array Oper} {S : World → Prop} {o : Oper} {a : Act} (hgd : Region.wanted o (yielded ops a.tmps) = true) (x : Operand) (t : TypeId) (n : Nat) (ho : o.op = .load t x)
    (hagg : ∀ W : World, (isAgg t).run P W = .ok true W) (hsz : ∀ W : World, (sizeOf t).run P W = .ok n W) (g off : Nat) (hx : a.eval x = .pointer (some ⟨g, off, none⟩))
    (V : Array Value) (hV : V.size = n) (hc : ∀ w, S w → ∀ j, j < n → w.cell? ⟨g, off + j, none⟩ = V[j]?) : YieldsIf P ops S o (.agg V) a := by
  refine .inl ⟨hgd, fun w hw => ?_⟩
  have hl : (loadCells ⟨g, off, none⟩ n).run P w = .ok V w := by
    have := run_loadCells_list (P := P) w ⟨g, off, none⟩ V.toList (fun j v hv => by
      have hj : j < n := by
        have := (List.getElem?_eq_some_iff.1 hv).1
        simpa [hV] using this
      rw [addO, hc w hw j hj]
      simpa using hv)
    simpa [hV] using this
  unfold execOp
  simp only [ho, hx, Instr.loadAt, sure, loadVar, Sem.run_bind, Sem.run_pure, hagg, hsz, hl, Result.andThen_ok, if_true]
set_option maxRecDepth 100000 in
set_option maxHeartbeats 4000000 in
theorem says_left (i n k m : Nat) (x A y : List UInt8) (hx : x.length = 32) (hA : A.length = 32) (hy : y.length = 32) (g o cap : Nat) (w : World) (hn : 2 ≤ n) (hn2 : n ≤ 9223372036854775808) (hk : k = spl n) (hcap : m + 1 ≤ cap) (hm : m < 1000)
    (hyc : ∀ j, j < 32 → w.cell? ⟨g, o + m * 32 + j, none⟩ = (hbs y)[j]?) (hik : i < k) (QA0 : ∀ W, Nw w W → Calls Tryd.prog 34 #[.int .u64 (i : Int), .int .u64 (k : Int), .agg (hbs x), .slice (some ⟨g, o, none⟩) m cap] W fun e w' => e = .returned (.agg (hbs A)) ∧ Nw W w') :
    Calls Tryd.prog 34 #[.int .u64 (i : Int), .int .u64 (n : Int), .agg (hbs x), .slice (some ⟨g, o, none⟩) (m + 1) cap] w fun e w' => e = .returned (.agg (hbs (ndp A y))) ∧ Nw w w' := by
  have QA := hid_of QA0
  have QN0 : ∀ V : World, Calls Tryd.prog 47 #[.agg (hbs A), .agg (hbs y)] V fun e w' => e = .returned (.agg (hbs (ndp A y))) ∧ Nw V w' := fun V => Rf.refnode_any A y hA hy V
  have QN := hid_of QN0
  have QH0 : ∀ V : World, Calls Tryd.prog 46 #[.int .u64 (n : Int)] V fun e w' => e = .returned (.int .u64 ((k : Nat) : Int)) ∧ w' = V := fun V => by rw [hk]; exact rhalf_any n hn hn2 V
  have QH := hid_of QH0
  have hcu := fun W => cut_hh (some ⟨g, o, none⟩) (m + 1) cap m (by omega) W
  have hzs : (hbs (ndp A y)).size = 32 := by rw [hbs_size, ndp_len]
  have hxs : (hbs x).size = 32 := by rw [hbs_size, hx]
  have hys : (hbs y).size = 32 := by rw [hbs_size, hy]
  have HY0 : Hid (∀ j, j < 32 → w.cell? ⟨g, o + m * 32 + j, none⟩ = (hbs y)[j]?) := hyc
  have Y32 := hid_of hy
  have hn1 : ((n : Int) == 1) = false := by rw [beq_eq_false_iff_ne]; omega
  have hmn : ((m : Int) + 1 : Int) - 1 = (m : Int) := by omega
  have hik1 : (i : Int) < (k : Int) := by omega
  obtain ⟨z, hz⟩ : ∃ z, z = ndp A y := ⟨_, rfl⟩
  rw [← hz] at QN hzs ⊢
  clear QA0 QN0 QH0 hz hx hA hy hyc hk hik
  go_enter Tryd.func34, Tryd.ntmps34
  go_upto_region 1 with fail
  rw [z32_h]
  have b1 := heap_next w (.cells (hbs x) 24) (.cells z32 24)
  have b0 : ((w.alloc (.cells (hbs x) 24)).alloc (.cells z32 24)).heap[w.heap.size]? = some (.cells (hbs x) 24) := ((nwa (w.alloc (.cells (hbs x) 24)) _).block _ (heap_lt (heap_new _ _)) (fun f => f)).trans (heap_new _ _)
  have nA : Nw w ((w.alloc (.cells (hbs x) 24)).alloc (.cells z32 24)) := (nwa w _).alloc _
  obtain ⟨w1, hw1⟩ : ∃ q, (w.alloc (.cells (hbs x) 24)).alloc (.cells z32 24) = q := ⟨_, rfl⟩
  rw [hw1] at b0 b1 nA ⊢
  clear hw1
  obtain ⟨xb, hxb⟩ : ∃ q, q = w.heap.size := ⟨_, rfl⟩
  rw [← hxb] at b0 b1 ⊢
  obtain ⟨rb, hrb⟩ : ∃ q, q = xb + 1 := ⟨_, rfl⟩
  rw [← hrb] at b1 ⊢
  have HXR : Hid (w.heap.size < rb ∧ xb ≠ rb) := by refine ⟨?_, ?_⟩ <;> omega
  have HRB : Hid (w1.heap[rb]? = some (.cells z32 24)) := b1
  have HX : Hid (w1.heap[xb]? = some (.cells (hbs x) 24)) := b0
  have N1 : Hid (Nw w w1) := nA
  have HXC : Hid (∀ W, Fr (fun k => k = rb) w1 W → ∀ j, j < 32 → W.cell? ⟨xb, 0 + j, none⟩ = (hbs x)[j]?) := fun W hW => hash_cells ((hW.block _ (heap_lt HX.out) (fun q => by have := HXR.out.2; omega)).trans HX.out)
  have HYC : Hid (∀ W, Fr (fun k => k = rb) w1 W → ∀ j, j < 32 → W.cell? ⟨g, o + m * 32 + j, none⟩ = (hbs y)[j]?) := fun W hW j hj => by
    have h5 : (hbs y)[j]? = some (hbs y)[j] := Array.getElem?_eq_getElem (by omega)
    have h6 := HY0.out j hj
    rw [h5] at h6 ⊢
    have hlt := World.block_lt_of_cell? w ⟨g, o + m * 32 + j, none⟩ h6
    have h7 := N1.out.cellOf h6
    exact (hW.cell (p := ⟨g, o + m * 32 + j, none⟩) (by have := N1.out.size; simp only at hlt ⊢; omega) (fun q => by have := HXR.out.1; simp only at hlt q; omega)).trans h7
  clear hxb hrb b0 b1 nA
  go_wp2_with fail
  refine (Calls.mono (QH.out _)) ?_
  rintro e w2 ⟨rfl, h2⟩
  obtain rfl : w1 = w2 := h2.symm
  go_upto_region 6 with fail
  have nb : Nw w1 w1.drew := (Fr.refl _ _).drew
  refine wp_region_held_drew (S := (fun V => Fr (fun k => k = rb) w1 V)) (by kernel_rfl) (by first | exact nb.mono (fun _ _ f => f.elim) | exact nb) ?_
  intro hS0
  refine wpAnyH_take (i := 0) (oi := ({ dst := some 22, op := Op.move (Operand.tmp 0), type := 22, pos := "ref.go:67", after := #[], guard := none } : Oper)) (v := .int .u64 (i : Int)) rfl (by kernel_rfl) (by kernel_rfl) (by kernel_rfl) (fun _ _ _ h => h) (Or.inl ⟨by rfl, by intro w hw; go_simp⟩) hS0 ?_
  try simp only [Act.put, List.setIfInBounds_toArray, List.set_cons_zero, List.set_cons_succ]
  refine wpAnyH_take (i := 1) (oi := ({ dst := some 23, op := Op.move (Operand.tmp 9), type := 22, pos := "ref.go:67", after := #[], guard := none } : Oper)) (v := .int .u64 (k : Int)) rfl (by kernel_rfl) (by kernel_rfl) (by kernel_rfl) (fun _ _ _ h => h) (Or.inl ⟨by rfl, by intro w hw; go_simp⟩) hS0 ?_
  try simp only [Act.put, List.setIfInBounds_toArray, List.set_cons_zero, List.set_cons_succ]
  refine wpAnyH_take (i := 2) (oi := ({ dst := some 24, op := Op.load 24 (Operand.tmp 6), type := 24, pos := "ref.go:67", after := #[], guard := none } : Oper)) (v := .agg (hbs x)) rfl (by kernel_rfl) (by kernel_rfl) (by kernel_rfl) (fun _ _ _ h => h) (yields_loadA (by kernel_rfl) (.tmp 6) 24 32 rfl Tryd.isAgg24 Tryd.sizeOf24 xb (0) rfl (hbs x) hxs (fun w hw => HXC.out w hw)) hS0 ?_
  try simp only [Act.put, List.setIfInBounds_toArray, List.set_cons_zero, List.set_cons_succ]
  refine wpAnyH_take (i := 3) (oi := ({ dst := some 25, op := Op.move (Operand.tmp 3), type := 25, pos := "ref.go:67", after := #[], guard := none } : Oper)) (v := .slice (some ⟨g, o, none⟩) (m + 1) cap) rfl (by kernel_rfl) (by kernel_rfl) (by kernel_rfl) (fun _ _ _ h => h) (Or.inl ⟨by rfl, by intro w hw; go_simp⟩) hS0 ?_
  try simp only [Act.put, List.setIfInBounds_toArray, List.set_cons_zero, List.set_cons_succ]
  refine wpAnyH_take (i := 4) (oi := ({ dst := some 26, op := Op.move (Operand.tmp 10), type := 3, pos := "ref.go:67", after := #[], guard := none } : Oper)) (v := .int .i64 (m : Int)) rfl (by kernel_rfl) (by kernel_rfl) (by kernel_rfl) (fun _ _ _ h => h) (Or.inl ⟨by rfl, by intro w hw; go_simp⟩) hS0 ?_
  try simp only [Act.put, List.setIfInBounds_toArray, List.set_cons_zero, List.set_cons_succ]
  refine wpAnyH_take (i := 5) (oi := ({ dst := some 27, op := Op.slice 25 (Operand.tmp 25) none (some (Operand.tmp 26)) none, type := 25, pos := "ref.go:67", after := #[{ on := 3, ground := Ground.data }, { on := 4, ground := Ground.data }], guard := none } : Oper)) (v := .slice (some ⟨g, o, none⟩) m cap) rfl (by kernel_rfl) (by kernel_rfl) (by kernel_rfl) (fun _ _ _ h => h) (Or.inl ⟨by rfl, by intro w hw; have := hcu w; go_simp⟩) hS0 ?_
  try simp only [Act.put, List.setIfInBounds_toArray, List.set_cons_zero, List.set_cons_succ]
  refine wpAnyH_take (i := 7) (oi := ({ dst := some 29, op := Op.move (Operand.tmp 3), type := 25, pos := "ref.go:67", after := #[], guard := none } : Oper)) (v := .slice (some ⟨g, o, none⟩) (m + 1) cap) rfl (by kernel_rfl) (by kernel_rfl) (by kernel_rfl) (fun _ _ _ h => h) (Or.inl ⟨by rfl, by intro w hw; go_simp⟩) hS0 ?_
  try simp only [Act.put, List.setIfInBounds_toArray, List.set_cons_zero, List.set_cons_succ]
  refine wpAnyH_take (i := 8) (oi := ({ dst := some 30, op := Op.move (Operand.tmp 10), type := 3, pos := "ref.go:67", after := #[], guard := none } : Oper)) (v := .int .i64 (m : Int)) rfl (by kernel_rfl) (by kernel_rfl) (by kernel_rfl) (fun _ _ _ h => h) (Or.inl ⟨by rfl, by intro w hw; go_simp⟩) hS0 ?_
  try simp only [Act.put, List.setIfInBounds_toArray, List.set_cons_zero, List.set_cons_succ]
  refine wpAnyH_take (i := 9) (oi := ({ dst := some 31, op := Op.indexAddr 25 (Operand.tmp 29) (Operand.tmp 30), type := 0, pos := "ref.go:67", after := #[{ on := 7, ground := Ground.data }, { on := 8, ground := Ground.data }], guard := none } : Oper)) (v := .pointer (some ⟨g, o + m * 32, none⟩)) rfl (by kernel_rfl) (by kernel_rfl) (by kernel_rfl) (fun _ _ _ h => h) (Or.inl ⟨by rfl, by intro w hw; go_simp; try (intro hq; omega)⟩) hS0 ?_
  try simp only [Act.put, List.setIfInBounds_toArray, List.set_cons_zero, List.set_cons_succ]
  refine wpAnyH_take (i := 10) (oi := ({ dst := some 32, op := Op.load 24 (Operand.tmp 31), type := 24, pos := "ref.go:67", after := #[{ on := 9, ground := Ground.data }], guard := none } : Oper)) (v := .agg (hbs y)) rfl (by kernel_rfl) (by kernel_rfl) (by kernel_rfl) (fun _ _ _ h => h) (yields_loadA (by kernel_rfl) (.tmp 31) 24 32 rfl Tryd.isAgg24 Tryd.sizeOf24 g (o + m * 32) rfl (hbs y) hys (fun w hw => HYC.out w hw)) hS0 ?_
  try simp only [Act.put, List.setIfInBounds_toArray, List.set_cons_zero, List.set_cons_succ]
  refine wpAnyH_ready (rs := [6]) (by kernel_rfl) (by simp) ?_
  refine (AllReadyH.cons (o := ({ dst := some 28, op := Op.call { callee := Callee.value (Operand.func 34), args := #[Operand.tmp 22, Operand.tmp 23, Operand.tmp 24, Operand.tmp 27], argTypes := #[22, 22, 24, 25] }, type := 24, pos := "ref.go:67", after := #[{ on := 0, ground := Ground.data }, { on := 1, ground := Ground.data }, { on := 2, ground := Ground.data }, { on := 5, ground := Ground.data }], guard := none } : Oper)) rfl (fun K' hK => ?_) AllReadyH.nil)
  go_simp
  go_wp2_with (go_at_call 34; refine (QA.out _ (N1.out.tr nb)).mono ?_; rintro ex w101 ⟨rfl, nw101⟩)
  have nb := nb.tr nw101
  refine hK.out _ _ (by first | exact nb.mono (fun _ _ f => f.elim) | exact nb) (fun hS0 => ?_)
  try simp only [Act.put, List.setIfInBounds_toArray, List.set_cons_zero, List.set_cons_succ]
  refine wpAnyH_ready (rs := [11]) (by kernel_rfl) (by simp) ?_
  refine (AllReadyH.cons (o := ({ dst := some 33, op := Op.call { callee := Callee.value (Operand.func 47), args := #[Operand.tmp 28, Operand.tmp 32], argTypes := #[24, 24] }, type := 24, pos := "ref.go:67", after := #[{ on := 6, ground := Ground.data }, { on := 10, ground := Ground.data }, { on := 6, ground := Ground.chain }], guard := none } : Oper)) rfl (fun K' hK => ?_) AllReadyH.nil)
  go_simp
  go_wp2_with (go_at_call 47; refine (QN.out _).mono ?_; rintro ex w102 ⟨rfl, nw102⟩)
  have nb := nb.tr nw102
  refine hK.out _ _ (by first | exact nb.mono (fun _ _ f => f.elim) | exact nb) (fun hS0 => ?_)
  try simp only [Act.put, List.setIfInBounds_toArray, List.set_cons_zero, List.set_cons_succ]
  refine wpAnyH_ready (rs := [12]) (by kernel_rfl) (by simp) ?_
  refine (AllReadyH.cons (o := ({ dst := none, op := Op.store 24 (Operand.tmp 8) (Operand.tmp 33), type := 0, pos := "ref.go:67", after := #[{ on := 11, ground := Ground.data }, { on := 11, ground := Ground.chain }, { on := 0, ground := Ground.phase }, { on := 1, ground := Ground.phase }, { on := 2, ground := Ground.phase }, { on := 3, ground := Ground.phase }, { on := 4, ground := Ground.phase }, { on := 5, ground := Ground.phase }, { on := 6, ground := Ground.phase }, { on := 7, ground := Ground.phase }, { on := 8, ground := Ground.phase }, { on := 9, ground := Ground.phase }, { on := 10, ground := Ground.phase }, { on := 11, ground := Ground.phase }], guard := none } : Oper)) rfl (fun K' hK => ?_) AllReadyH.nil)
  have jz := (nb.block _ (heap_lt HRB.out) (fun f => f)).trans HRB.out
  refine step_store_agg rfl (.tmp 8) (.tmp 33) 24 32 rfl Tryd.sizeOf24 rb 0 rfl z32 24 jz (hbs z) rfl hzs (hbs_one _) (by decide) (hbs z) (by rw [dropA z32_size]; simp) ?_
  intro w9 j9 f9 z9
  clear z9
  have nf : Fr (fun k => k = rb) w1 w9 := (nb.mono (fun _ _ f => f.elim)).trans f9 (fun j _ h => h)
  have nb := nf
  refine hK.out _ _ (by first | exact nb.mono (fun _ _ f => f.elim) | exact nb) (fun hS0 => ?_)
  try simp only [Act.put, List.setIfInBounds_toArray, List.set_cons_zero, List.set_cons_succ]
  refine wpAnyH_done (by kernel_rfl) ?_ _
  go_wp2_with fail
  exact bodyPost_ret (results_cell Tryd.results34 Tryd.isAgg24 Tryd.sizeOf24 rfl j9 hzs) rfl ⟨rfl, N1.out.trans nb (fun k hk q => by have := HXR.out; omega)⟩
set_option maxRecDepth 100000 in
set_option maxHeartbeats 4000000 in
theorem says_right (i n k m : Nat) (x A y : List UInt8) (hx : x.length = 32) (hA : A.length = 32) (hy : y.length = 32) (g o cap : Nat) (w : World) (hn : 2 ≤ n) (hn2 : n ≤ 9223372036854775808) (hk : k = spl n) (hcap : m + 1 ≤ cap) (hm : m < 1000)
    (hyc : ∀ j, j < 32 → w.cell? ⟨g, o + m * 32 + j, none⟩ = (hbs y)[j]?) (hi : i < n) (i2 n2 : Nat) (hi2 : i = k + i2) (hn3 : n = k + n2) (QA0 : ∀ W, Nw w W → Calls Tryd.prog 34 #[.int .u64 (i2 : Int), .int .u64 (n2 : Int), .agg (hbs x), .slice (some ⟨g, o, none⟩) m cap] W fun e w' => e = .returned (.agg (hbs A)) ∧ Nw W w') :
    Calls Tryd.prog 34 #[.int .u64 (i : Int), .int .u64 (n : Int), .agg (hbs x), .slice (some ⟨g, o, none⟩) (m + 1) cap] w fun e w' => e = .returned (.agg (hbs (ndp y A))) ∧ Nw w w' := by
  have QA := hid_of QA0
  have QN0 : ∀ V : World, Calls Tryd.prog 47 #[.agg (hbs y), .agg (hbs A)] V fun e w' => e = .returned (.agg (hbs (ndp y A))) ∧ Nw V w' := fun V => Rf.refnode_any y A hy hA V
  have QN := hid_of QN0
  have QH0 : ∀ V : World, Calls Tryd.prog 46 #[.int .u64 (n : Int)] V fun e w' => e = .returned (.int .u64 ((k : Nat) : Int)) ∧ w' = V := fun V => by rw [hk]; exact rhalf_any n hn hn2 V
  have QH := hid_of QH0
  have hcu := fun W => cut_hh (some ⟨g, o, none⟩) (m + 1) cap m (by omega) W
  have hzs : (hbs (ndp y A)).size = 32 := by rw [hbs_size, ndp_len]
  have hxs : (hbs x).size = 32 := by rw [hbs_size, hx]
  have hys : (hbs y).size = 32 := by rw [hbs_size, hy]
  have HY0 : Hid (∀ j, j < 32 → w.cell? ⟨g, o + m * 32 + j, none⟩ = (hbs y)[j]?) := hyc
  have Y32 := hid_of hy
  have hn1 : ((n : Int) == 1) = false := by rw [beq_eq_false_iff_ne]; omega
  have hmn : ((m : Int) + 1 : Int) - 1 = (m : Int) := by omega
  have hik1 : ¬ (i : Int) < (k : Int) := by omega
  have HSI : Hid (IntKind.u64.wrap ((i : Int) - (k : Int)) = (i2 : Int) ∧ IntKind.u64.wrap ((n : Int) - (k : Int)) = (n2 : Int)) := by refine ⟨?_, ?_⟩ <;> rw [IntKind.wrap_u64] <;> omega
  obtain ⟨z, hz⟩ : ∃ z, z = ndp y A := ⟨_, rfl⟩
  rw [← hz] at QN hzs ⊢
  clear QA0 QN0 QH0 hz hx hA hy hyc hk hi hi2 hn3
  go_enter Tryd.func34, Tryd.ntmps34
  go_upto_region 1 with fail
  rw [z32_h]
  have b1 := heap_next w (.cells (hbs x) 24) (.cells z32 24)
  have b0 : ((w.alloc (.cells (hbs x) 24)).alloc (.cells z32 24)).heap[w.heap.size]? = some (.cells (hbs x) 24) := ((nwa (w.alloc (.cells (hbs x) 24)) _).block _ (heap_lt (heap_new _ _)) (fun f => f)).trans (heap_new _ _)
  have nA : Nw w ((w.alloc (.cells (hbs x) 24)).alloc (.cells z32 24)) := (nwa w _).alloc _
  obtain ⟨w1, hw1⟩ : ∃ q, (w.alloc (.cells (hbs x) 24)).alloc (.cells z32 24) = q := ⟨_, rfl⟩
  rw [hw1] at b0 b1 nA ⊢
  clear hw1
  obtain ⟨xb, hxb⟩ : ∃ q, q = w.heap.size := ⟨_, rfl⟩
  rw [← hxb] at b0 b1 ⊢
  obtain ⟨rb, hrb⟩ : ∃ q, q = xb + 1 := ⟨_, rfl⟩
  rw [← hrb] at b1 ⊢
  have HXR : Hid (w.heap.size < rb ∧ xb ≠ rb) := by refine ⟨?_, ?_⟩ <;> omega
  have HRB : Hid (w1.heap[rb]? = some (.cells z32 24)) := b1
  have HX : Hid (w1.heap[xb]? = some (.cells (hbs x) 24)) := b0
  have N1 : Hid (Nw w w1) := nA
  have HXC : Hid (∀ W, Fr (fun k => k = rb) w1 W → ∀ j, j < 32 → W.cell? ⟨xb, 0 + j, none⟩ = (hbs x)[j]?) := fun W hW => hash_cells ((hW.block _ (heap_lt HX.out) (fun q => by have := HXR.out.2; omega)).trans HX.out)
  have HYC : Hid (∀ W, Fr (fun k => k = rb) w1 W → ∀ j, j < 32 → W.cell? ⟨g, o + m * 32 + j, none⟩ = (hbs y)[j]?) := fun W hW j hj => by
    have h5 : (hbs y)[j]? = some (hbs y)[j] := Array.getElem?_eq_getElem (by omega)
    have h6 := HY0.out j hj
    rw [h5] at h6 ⊢
    have hlt := World.block_lt_of_cell? w ⟨g, o + m * 32 + j, none⟩ h6
    have h7 := N1.out.cellOf h6
    exact (hW.cell (p := ⟨g, o + m * 32 + j, none⟩) (by have := N1.out.size; simp only at hlt ⊢; omega) (fun q => by have := HXR.out.1; simp only at hlt q; omega)).trans h7
  clear hxb hrb b0 b1 nA
  go_wp2_with fail
  refine (Calls.mono (QH.out _)) ?_
  rintro e w2 ⟨rfl, h2⟩
  obtain rfl : w1 = w2 := h2.symm
  go_upto_region 7 with fail
  have nb : Nw w1 w1.drew := (Fr.refl _ _).drew
  refine wp_region_held_drew (S := (fun V => Fr (fun k => k = rb) w1 V)) (by kernel_rfl) (by first | exact nb.mono (fun _ _ f => f.elim) | exact nb) ?_
  intro hS0
  refine wpAnyH_take (i := 0) (oi := ({ dst := some 34, op := Op.move (Operand.tmp 3), type := 25, pos := "ref.go:69", after := #[], guard := none } : Oper)) (v := .slice (some ⟨g, o, none⟩) (m + 1) cap) rfl (by kernel_rfl) (by kernel_rfl) (by kernel_rfl) (fun _ _ _ h => h) (Or.inl ⟨by rfl, by intro w hw; go_simp⟩) hS0 ?_
  try simp only [Act.put, List.setIfInBounds_toArray, List.set_cons_zero, List.set_cons_succ]
  refine wpAnyH_take (i := 1) (oi := ({ dst := some 35, op := Op.move (Operand.tmp 10), type := 3, pos := "ref.go:69", after := #[], guard := none } : Oper)) (v := .int .i64 (m : Int)) rfl (by kernel_rfl) (by kernel_rfl) (by kernel_rfl) (fun _ _ _ h => h) (Or.inl ⟨by rfl, by intro w hw; go_simp⟩) hS0 ?_
  try simp only [Act.put, List.setIfInBounds_toArray, List.set_cons_zero, List.set_cons_succ]
  refine wpAnyH_take (i := 2) (oi := ({ dst := some 36, op := Op.indexAddr 25 (Operand.tmp 34) (Operand.tmp 35), type := 0, pos := "ref.go:69", after := #[{ on := 0, ground := Ground.data }, { on := 1, ground := Ground.data }], guard := none } : Oper)) (v := .pointer (some ⟨g, o + m * 32, none⟩)) rfl (by kernel_rfl) (by kernel_rfl) (by kernel_rfl) (fun _ _ _ h => h) (Or.inl ⟨by rfl, by intro w hw; go_simp; try (intro hq; omega)⟩) hS0 ?_
  try simp only [Act.put, List.setIfInBounds_toArray, List.set_cons_zero, List.set_cons_succ]
  refine wpAnyH_take (i := 3) (oi := ({ dst := some 37, op := Op.load 24 (Operand.tmp 36), type := 24, pos := "ref.go:69", after := #[{ on := 2, ground := Ground.data }], guard := none } : Oper)) (v := .agg (hbs y)) rfl (by kernel_rfl) (by kernel_rfl) (by kernel_rfl) (fun _ _ _ h => h) (yields_loadA (by kernel_rfl) (.tmp 36) 24 32 rfl Tryd.isAgg24 Tryd.sizeOf24 g (o + m * 32) rfl (hbs y) hys (fun w hw => HYC.out w hw)) hS0 ?_
  try simp only [Act.put, List.setIfInBounds_toArray, List.set_cons_zero, List.set_cons_succ]
  refine wpAnyH_take (i := 4) (oi := ({ dst := some 38, op := Op.move (Operand.tmp 0), type := 22, pos := "ref.go:69", after := #[], guard := none } : Oper)) (v := .int .u64 (i : Int)) rfl (by kernel_rfl) (by kernel_rfl) (by kernel_rfl) (fun _ _ _ h => h) (Or.inl ⟨by rfl, by intro w hw; go_simp⟩) hS0 ?_
  try simp only [Act.put, List.setIfInBounds_toArray, List.set_cons_zero, List.set_cons_succ]
  refine wpAnyH_take (i := 5) (oi := ({ dst := some 39, op := Op.move (Operand.tmp 9), type := 22, pos := "ref.go:69", after := #[], guard := none } : Oper)) (v := .int .u64 (k : Int)) rfl (by kernel_rfl) (by kernel_rfl) (by kernel_rfl) (fun _ _ _ h => h) (Or.inl ⟨by rfl, by intro w hw; go_simp⟩) hS0 ?_
  try simp only [Act.put, List.setIfInBounds_toArray, List.set_cons_zero, List.set_cons_succ]
  refine wpAnyH_take (i := 6) (oi := ({ dst := some 40, op := Op.binOp BinOp.sub 22 (Operand.tmp 38) (Operand.tmp 39) 22, type := 22, pos := "ref.go:69", after := #[{ on := 4, ground := Ground.data }, { on := 5, ground := Ground.data }], guard := none } : Oper)) (v := .int .u64 (i2 : Int)) rfl (by kernel_rfl) (by kernel_rfl) (by kernel_rfl) (fun _ _ _ h => h) (Or.inl ⟨by rfl, by intro w hw; have := HSI.out.1; have := HSI.out.2; go_simp⟩) hS0 ?_
  try simp only [Act.put, List.setIfInBounds_toArray, List.set_cons_zero, List.set_cons_succ]
  refine wpAnyH_take (i := 7) (oi := ({ dst := some 41, op := Op.move (Operand.tmp 1), type := 22, pos := "ref.go:69", after := #[], guard := none } : Oper)) (v := .int .u64 (n : Int)) rfl (by kernel_rfl) (by kernel_rfl) (by kernel_rfl) (fun _ _ _ h => h) (Or.inl ⟨by rfl, by intro w hw; go_simp⟩) hS0 ?_
  try simp only [Act.put, List.setIfInBounds_toArray, List.set_cons_zero, List.set_cons_succ]
  refine wpAnyH_take (i := 8) (oi := ({ dst := some 42, op := Op.move (Operand.tmp 9), type := 22, pos := "ref.go:69", after := #[], guard := none } : Oper)) (v := .int .u64 (k : Int)) rfl (by kernel_rfl) (by kernel_rfl) (by kernel_rfl) (fun _ _ _ h => h) (Or.inl ⟨by rfl, by intro w hw; go_simp⟩) hS0 ?_
  try simp only [Act.put, List.setIfInBounds_toArray, List.set_cons_zero, List.set_cons_succ]
  refine wpAnyH_take (i := 9) (oi := ({ dst := some 43, op := Op.binOp BinOp.sub 22 (Operand.tmp 41) (Operand.tmp 42) 22, type := 22, pos := "ref.go:69", after := #[{ on := 7, ground := Ground.data }, { on := 8, ground := Ground.data }], guard := none } : Oper)) (v := .int .u64 (n2 : Int)) rfl (by kernel_rfl) (by kernel_rfl) (by kernel_rfl) (fun _ _ _ h => h) (Or.inl ⟨by rfl, by intro w hw; have := HSI.out.1; have := HSI.out.2; go_simp⟩) hS0 ?_
  try simp only [Act.put, List.setIfInBounds_toArray, List.set_cons_zero, List.set_cons_succ]
  refine wpAnyH_take (i := 10) (oi := ({ dst := some 44, op := Op.load 24 (Operand.tmp 6), type := 24, pos := "ref.go:69", after := #[], guard := none } : Oper)) (v := .agg (hbs x)) rfl (by kernel_rfl) (by kernel_rfl) (by kernel_rfl) (fun _ _ _ h => h) (yields_loadA (by kernel_rfl) (.tmp 6) 24 32 rfl Tryd.isAgg24 Tryd.sizeOf24 xb (0) rfl (hbs x) hxs (fun w hw => HXC.out w hw)) hS0 ?_
  try simp only [Act.put, List.setIfInBounds_toArray, List.set_cons_zero, List.set_cons_succ]
  refine wpAnyH_take (i := 11) (oi := ({ dst := some 45, op := Op.move (Operand.tmp 3), type := 25, pos := "ref.go:69", after := #[], guard := none } : Oper)) (v := .slice (some ⟨g, o, none⟩) (m + 1) cap) rfl (by kernel_rfl) (by kernel_rfl) (by kernel_rfl) (fun _ _ _ h => h) (Or.inl ⟨by rfl, by intro w hw; go_simp⟩) hS0 ?_
  try simp only [Act.put, List.setIfInBounds_toArray, List.set_cons_zero, List.set_cons_succ]
  refine wpAnyH_take (i := 12) (oi := ({ dst := some 46, op := Op.move (Operand.tmp 10), type := 3, pos := "ref.go:69", after := #[], guard := none } : Oper)) (v := .int .i64 (m : Int)) rfl (by kernel_rfl) (by kernel_rfl) (by kernel_rfl) (fun _ _ _ h => h) (Or.inl ⟨by rfl, by intro w hw; go_simp⟩) hS0 ?_
  try simp only [Act.put, List.setIfInBounds_toArray, List.set_cons_zero, List.set_cons_succ]
  refine wpAnyH_take (i := 13) (oi := ({ dst := some 47, op := Op.slice 25 (Operand.tmp 45) none (some (Operand.tmp 46)) none, type := 25, pos := "ref.go:69", after := #[{ on := 11, ground := Ground.data }, { on := 12, ground := Ground.data }], guard := none } : Oper)) (v := .slice (some ⟨g, o, none⟩) m cap) rfl (by kernel_rfl) (by kernel_rfl) (by kernel_rfl) (fun _ _ _ h => h) (Or.inl ⟨by rfl, by intro w hw; have := hcu w; go_simp⟩) hS0 ?_
  try simp only [Act.put, List.setIfInBounds_toArray, List.set_cons_zero, List.set_cons_succ]
  refine wpAnyH_ready (rs := [14]) (by kernel_rfl) (by simp) ?_
  refine (AllReadyH.cons (o := ({ dst := some 48, op := Op.call { callee := Callee.value (Operand.func 34), args := #[Operand.tmp 40, Operand.tmp 43, Operand.tmp 44, Operand.tmp 47], argTypes := #[22, 22, 24, 25] }, type := 24, pos := "ref.go:69", after := #[{ on := 6, ground := Ground.data }, { on := 9, ground := Ground.data }, { on := 10, ground := Ground.data }, { on := 13, ground := Ground.data }], guard := none } : Oper)) rfl (fun K' hK => ?_) AllReadyH.nil)
  go_simp
  go_wp2_with (go_at_call 34; refine (QA.out _ (N1.out.tr nb)).mono ?_; rintro ex w101 ⟨rfl, nw101⟩)
  have nb := nb.tr nw101
  refine hK.out _ _ (by first | exact nb.mono (fun _ _ f => f.elim) | exact nb) (fun hS0 => ?_)
  try simp only [Act.put, List.setIfInBounds_toArray, List.set_cons_zero, List.set_cons_succ]
  refine wpAnyH_ready (rs := [15]) (by kernel_rfl) (by simp) ?_
  refine (AllReadyH.cons (o := ({ dst := some 49, op := Op.call { callee := Callee.value (Operand.func 47), args := #[Operand.tmp 37, Operand.tmp 48], argTypes := #[24, 24] }, type := 24, pos := "ref.go:69", after := #[{ on := 3, ground := Ground.data }, { on := 14, ground := Ground.data }, { on := 14, ground := Ground.chain }], guard := none } : Oper)) rfl (fun K' hK => ?_) AllReadyH.nil)
  go_simp
  go_wp2_with (go_at_call 47; refine (QN.out _).mono ?_; rintro ex w102 ⟨rfl, nw102⟩)
  have nb := nb.tr nw102
  refine hK.out _ _ (by first | exact nb.mono (fun _ _ f => f.elim) | exact nb) (fun hS0 => ?_)
  try simp only [Act.put, List.setIfInBounds_toArray, List.set_cons_zero, List.set_cons_succ]
  refine wpAnyH_ready (rs := [16]) (by kernel_rfl) (by simp) ?_
  refine (AllReadyH.cons (o := ({ dst := none, op := Op.store 24 (Operand.tmp 8) (Operand.tmp 49), type := 0, pos := "ref.go:69", after := #[{ on := 15, ground := Ground.data }, { on := 15, ground := Ground.chain }, { on := 0, ground := Ground.phase }, { on := 1, ground := Ground.phase }, { on := 2, ground := Ground.phase }, { on := 3, ground := Ground.phase }, { on := 4, ground := Ground.phase }, { on := 5, ground := Ground.phase }, { on := 6, ground := Ground.phase }, { on := 7, ground := Ground.phase }, { on := 8, ground := Ground.phase }, { on := 9, ground := Ground.phase }, { on := 10, ground := Ground.phase }, { on := 11, ground := Ground.phase }, { on := 12, ground := Ground.phase }, { on := 13, ground := Ground.phase }, { on := 14, ground := Ground.phase }, { on := 15, ground := Ground.phase }], guard := none } : Oper)) rfl (fun K' hK => ?_) AllReadyH.nil)
  have jz := (nb.block _ (heap_lt HRB.out) (fun f => f)).trans HRB.out
  refine step_store_agg rfl (.tmp 8) (.tmp 49) 24 32 rfl Tryd.sizeOf24 rb 0 rfl z32 24 jz (hbs z) rfl hzs (hbs_one _) (by decide) (hbs z) (by rw [dropA z32_size]; simp) ?_
  intro w9 j9 f9 z9
  clear z9
  have nf : Fr (fun k => k = rb) w1 w9 := (nb.mono (fun _ _ f => f.elim)).trans f9 (fun j _ h => h)
  have nb := nf
  refine hK.out _ _ (by first | exact nb.mono (fun _ _ f => f.elim) | exact nb) (fun hS0 => ?_)
  try simp only [Act.put, List.setIfInBounds_toArray, List.set_cons_zero, List.set_cons_succ]
  refine wpAnyH_done (by kernel_rfl) ?_ _
  go_wp2_with fail
  exact bodyPost_ret (results_cell Tryd.results34 Tryd.isAgg24 Tryd.sizeOf24 rfl j9 hzs) rfl ⟨rfl, N1.out.trans nb (fun k hk q => by have := HXR.out; omega)⟩
set_option maxRecDepth 100000 in
set_option maxHeartbeats 1000000 in
theorem says_one (i : Nat) (x : List UInt8) (hx : x.length = 32) (sl : Value) (w : World) :
    Calls Tryd.prog 34 #[.int .u64 (i : Int), .int .u64 1, .agg (hbs x), sl] w fun e w' => e = .returned (.agg (hbs x)) ∧ Nw w w' := by
  have hxs : (hbs x).size = 32 := by rw [hbs_size, hx]
  clear hx
  go_enter Tryd.func34, Tryd.ntmps34
  go_upto_region 1 with fail
  rw [z32_h]
  have b1 := heap_next w (.cells (hbs x) 24) (.cells z32 24)
  have b0 : ((w.alloc (.cells (hbs x) 24)).alloc (.cells z32 24)).heap[w.heap.size]? = some (.cells (hbs x) 24) := ((nwa (w.alloc (.cells (hbs x) 24)) _).block _ (heap_lt (heap_new _ _)) (fun f => f)).trans (heap_new _ _)
  have nA : Nw w ((w.alloc (.cells (hbs x) 24)).alloc (.cells z32 24)) := (nwa w _).alloc _
  obtain ⟨w1, hw1⟩ : ∃ q, (w.alloc (.cells (hbs x) 24)).alloc (.cells z32 24) = q := ⟨_, rfl⟩
  rw [hw1] at b0 b1 nA ⊢
  clear hw1
  have HRB : Hid (w1.heap[w.heap.size + 1]? = some (.cells z32 24)) := b1
  have HX := hash_cells b0
  have N1 : Hid (Nw w w1) := nA
  have HX1 := hid_of HX
  clear b0 b1 nA HX
  go_wp2_with first
    | refine wple_load_at rfl (.tmp 6) 24 32 rfl Tryd.isAgg24 Tryd.sizeOf24 w.heap.size 0 rfl (hbs x) hxs HX1.out ?_
    | (refine wp_store_agg rfl (.tmp 8) (.tmp 13) 24 32 rfl Tryd.sizeOf24 (w.heap.size + 1) 0 rfl z32 24 HRB.out (hbs x) rfl hxs (hbs_one _) (by decide) (hbs x) (by rw [dropA z32_size]; simp) ?_; intro w9 j9 f9 z9; clear z9)
  exact bodyPost_ret (results_cell Tryd.results34 Tryd.isAgg24 Tryd.sizeOf24 rfl j9 hxs) rfl ⟨rfl, N1.out.trans f9 (fun k hk q => by omega)⟩
theorem Hrs.take {w : World} {ad : Option Addr} {L : List (List UInt8)} (h : Hrs w ad L) (m : Nat) : Hrs w ad (L.take m) := fun k x hk => by
  rw [List.getElem?_take] at hk
  split at hk
  · exact h k x hk
  · cases hk
theorem Hrs.last {w : World} {ad : Option Addr} {L : List (List UInt8)} (h : Hrs w ad L) {m : Nat} (hm : L.length = m + 1) : ∃ g o y, ad = some ⟨g, o, none⟩ ∧ L = L.take m ++ [y] ∧ y ∈ L ∧ ∀ j, j < 32 → w.cell? ⟨g, o + m * 32 + j, none⟩ = (hbs y)[j]? := by
  have hy : L[m]? = some (L[m]'(by omega)) := List.getElem?_eq_getElem _
  obtain ⟨g, o, e, hc⟩ := h m _ hy
  refine ⟨g, o, _, e, ?_, List.getElem_mem _, hc⟩
  have := List.take_append_drop m L
  have h2 : L.drop m = [L[m]'(by omega)] := by
    rw [List.drop_eq_getElem_cons (by omega), List.drop_of_length_le (by omega)]
  rw [h2] at this
  exact this.symm
theorem says_any (x : List UInt8) (hx : x.length = 32) : ∀ (N n i : Nat) (L : List (List UInt8)) (ad : Option Addr) (cap : Nat) (w : World), n ≤ N → i < n → n ≤ 9223372036854775808 → L.length = (sds i n).length → L.length ≤ cap → (∀ y ∈ L, y.length = 32) → Hrs w ad L →
    Calls Tryd.prog 34 #[.int .u64 (i : Int), .int .u64 (n : Int), .agg (hbs x), .slice ad L.length cap] w fun e w' => e = .returned (.agg (hbs (clm x L (sds i n)))) ∧ Nw w w'
  | 0, n, i, L, ad, cap, w, hN, hi, hn2, hl, hc, h32, hr => by omega
  | N + 1, n, i, L, ad, cap, w, hN, hi, hn2, hl, hc, h32, hr => by
    by_cases h2 : 2 ≤ n
    · have hkl := spl_lt h2
      have hkp := spl_pos n
      have hlen : (sds i n).length ≤ 63 := sds_len 63 n i (Nat.le_trans hn2 (by decide))
      by_cases hp : i < spl n
      · have e := sds_left h2 hp
        have hm : L.length = (sds i (spl n)).length + 1 := by rw [hl, e]; simp
        obtain ⟨g, o, y, rfl, hL, hyL, hyc⟩ := hr.last hm
        have hlm : (L.take (sds i (spl n)).length).length = (sds i (spl n)).length := by rw [List.length_take]; omega
        have h32' : ∀ z ∈ L.take (sds i (spl n)).length, z.length = 32 := fun z hz => h32 z (List.mem_of_mem_take hz)
        have ih := fun V (hV : Nw w V) => says_any x hx N (spl n) i (L.take (sds i (spl n)).length) (some ⟨g, o, none⟩) cap V (by omega) hp (by omega) hlm (by omega) h32' ((hr.take _).nw h32' hV)
        have := says_left i n (spl n) (sds i (spl n)).length x (clm x (L.take (sds i (spl n)).length) (sds i (spl n))) y hx (clm_len _ _ _ hx) (h32 y hyL) g o cap w h2 hn2 rfl (by omega) (by omega) hyc hp (fun V hV => by have := ih V hV; rw [hlm] at this; exact this)
        rw [e, hm]
        rw [show clm x L (sds i (spl n) ++ [false]) = ndp (clm x (L.take (sds i (spl n)).length) (sds i (spl n))) y by rw [congrArg (fun q => clm x q (sds i (spl n) ++ [false])) hL, clm_snoc _ _ _ _ _ hlm]; rfl]
        exact this
      · have e := sds_right h2 hp
        have hm : L.length = (sds (i - spl n) (n - spl n)).length + 1 := by rw [hl, e]; simp
        obtain ⟨g, o, y, rfl, hL, hyL, hyc⟩ := hr.last hm
        obtain ⟨s, hs⟩ : ∃ s, s = sds (i - spl n) (n - spl n) := ⟨_, rfl⟩
        rw [← hs] at hm hL hyc e
        have hlm : (L.take s.length).length = s.length := by rw [List.length_take]; omega
        have h32' : ∀ z ∈ L.take s.length, z.length = 32 := fun z hz => h32 z (List.mem_of_mem_take hz)
        have ih := fun V (hV : Nw w V) => says_any x hx N (n - spl n) (i - spl n) (L.take s.length) (some ⟨g, o, none⟩) cap V (by omega) (by omega) (by omega) (by rw [← hs]; exact hlm) (by omega) h32' ((hr.take _).nw h32' hV)
        rw [← hs] at ih
        have := says_right i n (spl n) s.length x (clm x (L.take s.length) s) y hx (clm_len _ _ _ hx) (h32 y hyL) g o cap w h2 hn2 rfl (by omega) (by rw [e] at hlen; simp at hlen; omega) hyc hi (i - spl n) (n - spl n) (by omega) (by omega) (fun V hV => by have := ih V hV; rw [hlm] at this; exact this)
        rw [e, hm]
        rw [show clm x L (s ++ [true]) = ndp y (clm x (L.take s.length) s) by rw [congrArg (fun q => clm x q (s ++ [true])) hL, clm_snoc _ _ _ _ _ hlm]; rfl]
        exact this
    · obtain rfl : n = 1 := by omega
      rw [sds_one i 1 (by omega)] at hl ⊢
      obtain rfl : L = [] := List.length_eq_zero_iff.1 (by simpa using hl)
      rw [show clm x [] [] = x by simp [clm]]
      exact says_one i x hx _ w
end Go.Proofs.YtaeocbdphfkflaaDoor
