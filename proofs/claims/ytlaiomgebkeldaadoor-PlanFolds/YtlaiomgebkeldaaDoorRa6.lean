/- The document's SHA of a text. -/
import Derived.Test.YtlaiomgebkeldaaDoorRa5
import Derived.Test.YtlaiomgebkeldaaDoorH2
namespace Go.Proofs.YtlaiomgebkeldaaDoor.Rf
open Go.RowKit
set_option linter.unusedVariables false
set_option linter.unusedSimpArgs false

theorem pad_len (L : List UInt8) : (pad L).length = 64 * ((pad L).length / 64) := by
  have h : (pad L).length = L.length + 1 + zc L.length + 8 := by
    rw [pad, List.length_append, List.length_append, List.length_append, List.length_replicate]; rfl
  have : (pad L).length % 64 = 0 := by rw [h]; unfold zc; omega
  omega
theorem pad_le (L : List UInt8) : (pad L).length ≤ L.length + 72 := by
  have h : (pad L).length = L.length + 1 + zc L.length + 8 := by
    rw [pad, List.length_append, List.length_append, List.length_append, List.length_replicate]; rfl
  have : zc L.length < 64 := by unfold zc; omega
  omega
theorem pad_pos (L : List UInt8) : 0 < (pad L).length := by
  have h : (pad L).length = L.length + 1 + zc L.length + 8 := by
    rw [pad, List.length_append, List.length_append, List.length_append, List.length_replicate]; rfl
  omega
theorem bn_blk (P : List UInt8) (k i : Nat) (hi : i < 64) : bn ((P.drop (64 * k)).take 64) i = (P.getD (64 * k + i) 0).toNat := by
  unfold bn
  rw [List.getD_eq_getElem?_getD, List.getElem?_take, if_pos hi, List.getElem?_drop, List.getD_eq_getElem?_getD]
theorem bn_256 (l : List UInt8) (i : Nat) : bn l i < 256 := by
  unfold bn
  exact UInt8.toNat_lt _

/-- A thing loaded whole, as one step of a statement whose order is drawn. -/
theorem step_load_agg {P : Program} {ops : Array Oper} {o : Oper} {a : Act} {w : World} {K : Act → World → Prop} {Q : Exit → Act → World → Prop} {E : Prop} (hgd : o.guard = none) (x : Operand) (t : TypeId) (n : Nat) (ho : o.op = .load t x)
    (hagg : ∀ W : World, (isAgg t).run P W = .ok true W) (hsz : ∀ W : World, (sizeOf t).run P W = .ok n W) (g off : Nat) (hx : a.eval x = .pointer (some ⟨g, off, none⟩)) (cur : Array Value) (ty : TypeId) (f : Nat × Nat) (hg : w.heap[g]? = some (.cells cur ty f))
    (V : Array Value) (hV : V.size = n) (hc : ∀ j, j < n → cur[off + j]? = V[j]?)
    (h : K (a.put o.dst (.agg V)) w) : if Region.wanted o (yielded ops a.tmps) = true then Oper.wp P o a w K Q else E := by
  have hw : Region.wanted o (yielded ops a.tmps) = true := by simp [Region.wanted, hgd]
  rw [if_pos hw]
  have hl : (loadCells ⟨g, off, none⟩ n).run P w = .ok V w := by
    have := run_loadCells_list (P := P) w ⟨g, off, none⟩ V.toList (fun j v hv => by
      have hj : j < n := by
        have := (List.getElem?_eq_some_iff.1 hv).1
        simpa [hV] using this
      rw [addO, cell_of hg, hc j hj]
      simpa using hv)
    simpa [hV] using this
  unfold Oper.wp execOp
  simp only [ho, hx, Instr.loadAt, sure, loadVar, Sem.run_bind, Sem.run_pure, hagg, hsz, hl, Result.andThen_ok, if_true]
  exact h
set_option maxRecDepth 100000 in
set_option maxHeartbeats 2000000 in
theorem refsum_any (s : ByteArray) (hs : s.size ≤ 4194304) (w : World) :
    Calls Tryd.prog 57 #[.string s] w fun e w' => e = .returned (.agg (hbs (Sh s.data.toList))) ∧ Nw w w' := by
  obtain ⟨P, hP⟩ : ∃ P, P = pad s.data.toList := ⟨_, rfl⟩
  obtain ⟨nb, hnb⟩ : ∃ nb, nb = P.length / 64 := ⟨_, rfl⟩
  have hPl : P.length = 64 * nb := by rw [hnb, hP]; exact pad_len _
  have HPl : Hid (P.length = 64 * nb) := hPl
  clear hPl
  have hP0 : 0 < P.length := by rw [hP]; exact pad_pos _
  have hPm : P.length ≤ 4194376 := by
    have h1 := pad_le s.data.toList
    have h2 : s.data.toList.length = s.size := by rw [Array.length_toList]; rfl
    rw [← hP] at h1
    omega
  have HW : Hid (hsh (st P nb) = .agg (hbs (Sh s.data.toList))) := by unfold Hid; rw [← hsh_hbs, hnb, hP]; rfl
  obtain ⟨RR, hRR⟩ : ∃ RR, RR = Value.agg (hbs (Sh s.data.toList)) := ⟨_, rfl⟩
  rw [← hRR] at HW ⊢
  have HP : Hid (P = pad s.data.toList) := hP
  clear hP hRR hnb
  go_enter Tryd.func57, Tryd.ntmps57
  go_wp2_with fail
  rw [z32_h]
  have jz : (w.alloc (.cells z32 26)).heap[w.heap.size]? = some (.cells z32 26) := heap_new w _
  have n0 : Nw w (w.alloc (.cells z32 26)) := (Fr.refl _ _).alloc _
  refine (padded_any s hs _).mono ?_
  rintro e1 w1 ⟨v, rfl, o1, n1⟩
  rw [← HP.out, World.size_alloc] at o1
  obtain ⟨g, cap, rfl, hgB, hcap, hcg⟩ := o1.bys
  have jz1 := (n1.block _ (heap_lt jz) (fun f => f)).trans jz
  have nw1 : Nw w w1 := n0.tr n1
  have hg1 : g < w1.heap.size := World.block_lt_of_cell? w1 _ (hcg 0 hP0)
  clear jz n0 n1 o1
  go_wp2_with fail
  refine (table_any w1).mono ?_
  rintro e2 w2 ⟨rfl, n2⟩
  have jz2 := (n2.block _ (heap_lt jz1) (fun f => f)).trans jz1
  have nw2 : Nw w w2 := nw1.tr n2
  have hc2 : ∀ j, j < P.length → w2.cell? ⟨g, j, none⟩ = some (.int .u8 ((P.getD j 0).toNat : Nat)) := fun j hj => n2.cellOf (hcg j hj)
  have HC2 : Hid (∀ j, j < P.length → w2.cell? ⟨g, j, none⟩ = some (.int .u8 ((P.getD j 0).toNat : Nat))) := hc2
  have hg2 : g < w2.heap.size := Nat.lt_of_lt_of_le hg1 n2.size
  clear jz1 nw1 n2 hcg hc2 hg1
  go_wp2_with (refine wp_store_agg rfl (.tmp 4) (.tmp 11) 138 64 rfl Tryd.sizeOf138 w2.heap.size 0 rfl _ 138 (heap_new _ _) ks rfl ks_size ks_one (by decide) ks (by simp) ?_; intro w3 j3 f3 z3)
  have n3 : Nw w2 w3 := ((Fr.refl _ _).alloc _).trans f3 (fun k hk q => by omega)
  clear f3 z3
  refine (start_any w3).mono ?_
  rintro e4 w4 ⟨rfl, n4⟩
  have nA : Nw w2 w4 := n3.tr n4
  have j4 := (n4.block _ (heap_lt j3) (fun f => f)).trans j3
  have jz4 := (nA.block _ (heap_lt jz2) (fun f => f)).trans jz2
  have HC4 : Hid (∀ j, j < P.length → w4.cell? ⟨g, j, none⟩ = some (.int .u8 ((P.getD j 0).toNat : Nat))) := fun j hj => nA.cellOf (HC2.out j hj)
  have nw4 : Nw w w4 := nw2.tr nA
  obtain ⟨b4, hb4⟩ : ∃ b, b = w2.heap.size := ⟨_, rfl⟩
  rw [← hb4] at j4 hg2 ⊢
  have hb44 : b4 < w4.heap.size := heap_lt j4
  have hzb : w.heap.size < b4 := by rw [hb4]; exact heap_lt jz2
  clear hb4 n3 n4 nA jz2 j3 HC2 nw2
  go_wp2_with (refine wp_store_agg rfl (.tmp 5) (.tmp 12) 132 8 rfl Tryd.sizeOf132 w4.heap.size 0 rfl _ 132 (heap_new _ _) (vals H0) rfl (vals_size _) (vals_one _) (by decide) (vals H0) (by simp) ?_; intro w5 j5 f5 z5)
  have n5 : Nw w4 w5 := ((Fr.refl _ _).alloc _).trans f5 (fun k hk q => by omega)
  have k5 := (n5.block _ (heap_lt j4) (fun f => f)).trans j4
  have jz5 := (n5.block _ (heap_lt jz4) (fun f => f)).trans jz4
  have HC5 : Hid (∀ j, j < P.length → w5.cell? ⟨g, j, none⟩ = some (.int .u8 ((P.getD j 0).toNat : Nat))) := fun j hj => n5.cellOf (HC4.out j hj)
  have nw5 : Nw w w5 := nw4.tr n5
  obtain ⟨b5, hb5⟩ : ∃ b, b = w4.heap.size := ⟨_, rfl⟩
  rw [← hb5] at j5 hb44 ⊢
  clear hb5 n5 f5 z5 jz4 HC4 nw4 j4
  obtain ⟨n, hn⟩ : ∃ n, n = P.length := ⟨_, rfl⟩
  have hPl := HPl.out
  rw [← hn] at hPl hP0 hPm hcap HC5 ⊢
  have HN : Hid (n = P.length) := hn
  have HNB : Hid (n = 64 * nb) := hPl
  have HO : Hid (w.heap.size < b4 ∧ b4 < b5 ∧ g < b4 ∧ w.heap.size + 1 ≤ g) := ⟨hzb, hb44, hg2, hgB⟩
  clear hn hPl hzb hb44 hg2 hgB
  go_loopw [6] (fun i wr => ∃ k : Nat, k ≤ nb ∧ i = .int .i64 ((64 * k : Nat) : Int) ∧ Nw w wr ∧ wr.heap[w.heap.size]? = some (.cells z32 26 (0, 0)) ∧ wr.heap[b4]? = some (.cells ks 138 (0, 0)) ∧ wr.heap[b5]? = some (.cells (vals (st P k)) 132 (0, 0)) ∧ (∀ j, j < n → wr.cell? ⟨g, j, none⟩ = some (.int .u8 ((P.getD j 0).toNat : Nat)))) (fun i _ => n - (intOf i).toNat)
  case atStart => exact ⟨0, by omega, rfl, nw5, jz5, k5, j5, HC5.out⟩
  case round =>
    clear nw5 jz5 k5 j5 HC5
    obtain ⟨k, hk, rfl, hnw, hz, hks, hv, hcg⟩ := hrel
    have HG : Hid (∀ j, j < n → wr.cell? ⟨g, j, none⟩ = some (.int .u8 ((P.getD j 0).toNat : Nat))) := hcg
    clear hcg
    by_cases hlt : k < nb
    · obtain ⟨m, hm⟩ : ∃ m, m = 64 * k := ⟨_, rfl⟩
      have hm64 : m + 64 ≤ n := by have := HNB.out; omega
      have HM : Hid (m = 64 * k) := hm
      have HB : Hid (∀ i, i < 64 → wr.cell? ⟨g, m + i, none⟩ = some (.int .u8 ((bn ((P.drop (64 * k)).take 64) i : Nat) : Int))) := fun i hi => by
        rw [HG.out (m + i) (by omega), bn_blk P k i hi, hm]
      rw [← hm]
      have hT : (st P k).ok := st_ok P k
      have HS : Hid (vals (st P (k + 1)) = vals (add8 (st P k) (rounds Kc (Wf (bn ((P.drop (64 * k)).take 64))) (st P k) 64))) := rfl
      generalize st P k = T at hv hT HS
      generalize bn_e : bn ((P.drop (64 * k)).take 64) = Bf at HB HS
      have hB256 : ∀ i, i < 64 → Bf i < 256 := fun i _ => by rw [← bn_e]; exact bn_256 _ _
      have HT : Hid T.ok := hT
      have HB2 : Hid (∀ i, i < 64 → Bf i < 256) := hB256
      clear hm hT bn_e hB256
      have i1 : (m : Int) < (n : Int) := by omega
      have i2 : (0 : Int) ≤ (m : Int) := by omega
      have i3 : IntKind.i64.wrap ((m : Int) + 64) = (m : Int) + 64 := by rw [IntKind.wrap_i64]; omega
      have i4 : (m : Int) ≤ (m : Int) + 64 := by omega
      have i5 : (m : Int) + 64 ≤ (cap : Int) := by omega
      have i6 : ((m : Int) + 64).toNat = m + 64 := by omega
      have v8 := vals_size T
      have k64 := ks_size
      have hcd : (vals T).toList.drop (0 + 8) = [] := rfl
      have Q7 : Hid (∀ c, Calls Tryd.prog 74 #[.agg (vals T), .slice (some ⟨g, m, none⟩) 64 c, .agg ks] wr.drew fun e w' => e = .returned (.agg (vals (add8 T (rounds Kc (Wf Bf) T 64)))) ∧ Nw wr.drew w') := fun c => block_any T HT.out g m c Bf HB2.out wr.drew (fun i hi => Nw.cellOf (Fr.refl _ wr).drew (HB.out i hi))
      have FIN : Hid (∀ w7 w8, Nw wr w7 → Fr (fun k => k = b5) w7 w8 → w8.heap[b5]? = some (.cells (vals (add8 T (rounds Kc (Wf Bf) T 64))) 132 (0, 0)) → (∃ k : Nat, k ≤ nb ∧ Value.int .i64 ((m : Int) + 64) = .int .i64 ((64 * k : Nat) : Int) ∧ Nw w w8 ∧ w8.heap[w.heap.size]? = some (.cells z32 26 (0, 0)) ∧ w8.heap[b4]? = some (.cells ks 138 (0, 0)) ∧ w8.heap[b5]? = some (.cells (vals (st P k)) 132 (0, 0)) ∧ (∀ j, j < n → w8.cell? ⟨g, j, none⟩ = some (.int .u8 ((P.getD j 0).toNat : Nat)))) ∧ n - (intOf (.int .i64 ((m : Int) + 64))).toNat < n - (intOf (.int .i64 (m : Int))).toNat) := fun w7 w8 n7 f8 j8 => by
        have hO := HO.out
        have hsz := hnw.size
        have hmk := HM.out
        refine ⟨⟨k + 1, by omega, ?_, (hnw.tr n7).trans f8 (fun j hj q => by omega), ?_, ?_, ?_, ?_⟩, by simp [intOf]; omega⟩
        · rw [hmk]; congr 1 <;> omega
        · exact (f8.block _ (Nat.lt_of_lt_of_le (heap_lt hz) n7.size) (by omega)).trans ((n7.block _ (heap_lt hz) (fun f => f)).trans hz)
        · exact (f8.block _ (Nat.lt_of_lt_of_le (heap_lt hks) n7.size) (by omega)).trans ((n7.block _ (heap_lt hks) (fun f => f)).trans hks)
        · rw [HS.out]; exact j8
        · intro j hj
          have hc := n7.cellOf (HG.out j hj)
          exact (f8.cell (World.block_lt_of_cell? w7 _ hc) (show ¬ g = b5 by omega)).trans hc
      go_wp2
      refine wp_region_any (by kernel_rfl) ?_
      refine wpAny_take (i := 1) (oi := ({ dst := some 20, op := Op.move (Operand.tmp 3), type := 110, pos := "ref.go:77", after := #[], guard := none } : Oper)) (v := .slice (some ⟨g, 0, none⟩) n cap) rfl (by kernel_rfl) (by kernel_rfl) (by kernel_rfl) (fun _ _ _ h => h) (Or.inl ⟨by rfl, by intro w; go_simp⟩) ?_
      try simp only [Act.put, List.setIfInBounds_toArray, List.set_cons_zero, List.set_cons_succ]
      refine wpAny_take (i := 2) (oi := ({ dst := some 21, op := Op.move (Operand.tmp 6), type := 3, pos := "ref.go:77", after := #[], guard := none } : Oper)) (v := .int .i64 (m : Int)) rfl (by kernel_rfl) (by kernel_rfl) (by kernel_rfl) (fun _ _ _ h => h) (Or.inl ⟨by rfl, by intro w; go_simp⟩) ?_
      try simp only [Act.put, List.setIfInBounds_toArray, List.set_cons_zero, List.set_cons_succ]
      refine wpAny_take (i := 3) (oi := ({ dst := some 22, op := Op.move (Operand.tmp 6), type := 3, pos := "ref.go:77", after := #[], guard := none } : Oper)) (v := .int .i64 (m : Int)) rfl (by kernel_rfl) (by kernel_rfl) (by kernel_rfl) (fun _ _ _ h => h) (Or.inl ⟨by rfl, by intro w; go_simp⟩) ?_
      try simp only [Act.put, List.setIfInBounds_toArray, List.set_cons_zero, List.set_cons_succ]
      refine wpAny_take (i := 4) (oi := ({ dst := some 23, op := Op.binOp BinOp.add 3 (Operand.tmp 22) (Operand.const (Value.int IntKind.i64 64)) 3, type := 3, pos := "ref.go:77", after := #[{ on := 3, ground := Ground.data }], guard := none } : Oper)) (v := .int .i64 ((m : Int) + 64)) rfl (by kernel_rfl) (by kernel_rfl) (by kernel_rfl) (fun _ _ _ h => h) (Or.inl ⟨by rfl, by intro w; go_simp⟩) ?_
      try simp only [Act.put, List.setIfInBounds_toArray, List.set_cons_zero, List.set_cons_succ]
      refine wpAny_take (i := 5) (oi := ({ dst := some 24, op := Op.slice 110 (Operand.tmp 20) (some (Operand.tmp 21)) (some (Operand.tmp 23)) none, type := 110, pos := "ref.go:77", after := #[{ on := 1, ground := Ground.data }, { on := 2, ground := Ground.data }, { on := 4, ground := Ground.data }], guard := none } : Oper)) (v := .slice (some ⟨g, m, none⟩) 64 (cap - m)) rfl (by kernel_rfl) (by kernel_rfl) (by kernel_rfl) (fun _ _ _ h => h) (Or.inl ⟨by rfl, by intro w; go_simp; intro h; omega⟩) ?_
      try simp only [Act.put, List.setIfInBounds_toArray, List.set_cons_zero, List.set_cons_succ]
      refine wpAny_ready (rs := [0, 6]) (by kernel_rfl) (by simp) ?_
      refine (AllReady.cons (o := ({ dst := some 19, op := Op.load 132 (Operand.tmp 5), type := 132, pos := "ref.go:77", after := #[], guard := none } : Oper)) rfl (fun K' hK => ?_) (AllReady.cons (o := ({ dst := some 25, op := Op.load 138 (Operand.tmp 4), type := 138, pos := "ref.go:77", after := #[], guard := none } : Oper)) rfl (fun K' hK => ?_) AllReady.nil))
      · refine step_load_agg rfl (.tmp 5) 132 8 rfl Tryd.isAgg132 Tryd.sizeOf132 b5 0 rfl (vals T) 132 (0, 0) hv (vals T) v8 (fun j _ => by rw [Nat.zero_add]) ?_
        refine hK _ _ ?_
        try simp only [Act.put, List.setIfInBounds_toArray, List.set_cons_zero, List.set_cons_succ]
        refine wpAny_ready (rs := [6]) (by kernel_rfl) (by simp) ?_
        refine (AllReady.cons (o := ({ dst := some 25, op := Op.load 138 (Operand.tmp 4), type := 138, pos := "ref.go:77", after := #[], guard := none } : Oper)) rfl (fun K' hK => ?_) AllReady.nil)
        refine step_load_agg rfl (.tmp 4) 138 64 rfl Tryd.isAgg138 Tryd.sizeOf138 b4 0 rfl ks 138 (0, 0) hks ks k64 (fun j _ => by rw [Nat.zero_add]) ?_
        refine hK _ _ ?_
        try simp only [Act.put, List.setIfInBounds_toArray, List.set_cons_zero, List.set_cons_succ]
        refine wpAny_ready (rs := [7]) (by kernel_rfl) (by simp) ?_
        refine (AllReady.cons (o := ({ dst := some 26, op := Op.call { callee := Callee.value (Operand.func 74), args := #[Operand.tmp 19, Operand.tmp 24, Operand.tmp 25], argTypes := #[132, 110, 138] }, type := 132, pos := "ref.go:77", after := #[{ on := 0, ground := Ground.data }, { on := 5, ground := Ground.data }, { on := 6, ground := Ground.data }], guard := none } : Oper)) rfl (fun K' hK => ?_) AllReady.nil)
        go_simp
        go_wp2_with (go_at_call 74; refine (Q7.out _).mono ?_; rintro e7 w7 ⟨rfl, n7⟩)
        have n7' : Nw wr w7 := Nw.tr (Fr.refl _ wr).drew n7
        try refine hK _ _ ?_
        try simp only [Act.put, List.setIfInBounds_toArray, List.set_cons_zero, List.set_cons_succ]
        refine wpAny_ready (rs := [8]) (by kernel_rfl) (by simp) ?_
        refine (AllReady.cons (o := ({ dst := none, op := Op.store 132 (Operand.tmp 5) (Operand.tmp 26), type := 0, pos := "ref.go:77", after := #[{ on := 7, ground := Ground.data }, { on := 7, ground := Ground.chain }, { on := 0, ground := Ground.phase }, { on := 1, ground := Ground.phase }, { on := 2, ground := Ground.phase }, { on := 3, ground := Ground.phase }, { on := 4, ground := Ground.phase }, { on := 5, ground := Ground.phase }, { on := 6, ground := Ground.phase }, { on := 7, ground := Ground.phase }], guard := none } : Oper)) rfl (fun K' hK => ?_) AllReady.nil)
        have hv7 := (n7'.block _ (heap_lt hv) (fun f => f)).trans hv
        refine step_store_agg rfl (.tmp 5) (.tmp 26) 132 8 rfl Tryd.sizeOf132 b5 0 rfl (vals T) 132 hv7 (vals (add8 T (rounds Kc (Wf Bf) T 64))) rfl (vals_size _) (vals_one _) (by rw [v8]; decide) (vals (add8 T (rounds Kc (Wf Bf) T 64))) (by rw [hcd]; simp) ?_
        intro w8 j8 f8 z8
        refine hK _ _ ?_
        refine wpAny_done (by kernel_rfl) ?_ _
        go_wp2_with fail
        exact FIN.out w7 w8 n7' f8 j8
      · refine step_load_agg rfl (.tmp 4) 138 64 rfl Tryd.isAgg138 Tryd.sizeOf138 b4 0 rfl ks 138 (0, 0) hks ks k64 (fun j _ => by rw [Nat.zero_add]) ?_
        refine hK _ _ ?_
        try simp only [Act.put, List.setIfInBounds_toArray, List.set_cons_zero, List.set_cons_succ]
        refine wpAny_ready (rs := [0]) (by kernel_rfl) (by simp) ?_
        refine (AllReady.cons (o := ({ dst := some 19, op := Op.load 132 (Operand.tmp 5), type := 132, pos := "ref.go:77", after := #[], guard := none } : Oper)) rfl (fun K' hK => ?_) AllReady.nil)
        refine step_load_agg rfl (.tmp 5) 132 8 rfl Tryd.isAgg132 Tryd.sizeOf132 b5 0 rfl (vals T) 132 (0, 0) hv (vals T) v8 (fun j _ => by rw [Nat.zero_add]) ?_
        refine hK _ _ ?_
        try simp only [Act.put, List.setIfInBounds_toArray, List.set_cons_zero, List.set_cons_succ]
        refine wpAny_ready (rs := [7]) (by kernel_rfl) (by simp) ?_
        refine (AllReady.cons (o := ({ dst := some 26, op := Op.call { callee := Callee.value (Operand.func 74), args := #[Operand.tmp 19, Operand.tmp 24, Operand.tmp 25], argTypes := #[132, 110, 138] }, type := 132, pos := "ref.go:77", after := #[{ on := 0, ground := Ground.data }, { on := 5, ground := Ground.data }, { on := 6, ground := Ground.data }], guard := none } : Oper)) rfl (fun K' hK => ?_) AllReady.nil)
        go_simp
        go_wp2_with (go_at_call 74; refine (Q7.out _).mono ?_; rintro e7 w7 ⟨rfl, n7⟩)
        have n7' : Nw wr w7 := Nw.tr (Fr.refl _ wr).drew n7
        try refine hK _ _ ?_
        try simp only [Act.put, List.setIfInBounds_toArray, List.set_cons_zero, List.set_cons_succ]
        refine wpAny_ready (rs := [8]) (by kernel_rfl) (by simp) ?_
        refine (AllReady.cons (o := ({ dst := none, op := Op.store 132 (Operand.tmp 5) (Operand.tmp 26), type := 0, pos := "ref.go:77", after := #[{ on := 7, ground := Ground.data }, { on := 7, ground := Ground.chain }, { on := 0, ground := Ground.phase }, { on := 1, ground := Ground.phase }, { on := 2, ground := Ground.phase }, { on := 3, ground := Ground.phase }, { on := 4, ground := Ground.phase }, { on := 5, ground := Ground.phase }, { on := 6, ground := Ground.phase }, { on := 7, ground := Ground.phase }], guard := none } : Oper)) rfl (fun K' hK => ?_) AllReady.nil)
        have hv7 := (n7'.block _ (heap_lt hv) (fun f => f)).trans hv
        refine step_store_agg rfl (.tmp 5) (.tmp 26) 132 8 rfl Tryd.sizeOf132 b5 0 rfl (vals T) 132 hv7 (vals (add8 T (rounds Kc (Wf Bf) T 64))) rfl (vals_size _) (vals_one _) (by rw [v8]; decide) (vals (add8 T (rounds Kc (Wf Bf) T 64))) (by rw [hcd]; simp) ?_
        intro w8 j8 f8 z8
        refine hK _ _ ?_
        refine wpAny_done (by kernel_rfl) ?_ _
        go_wp2_with fail
        exact FIN.out w7 w8 n7' f8 j8
    · obtain rfl : k = nb := by omega
      have hO := HO.out
      have hge : ¬ ((64 * k : Nat) : Int) < (n : Int) := by have := HNB.out; omega
      obtain ⟨m, hm⟩ : ∃ m, m = 64 * k := ⟨_, rfl⟩
      rw [← hm] at hge ⊢
      have hT : (st P k).ok := st_ok P k
      have HT : Hid (st P k).ok := hT
      generalize st P k = T at hv HT HW
      have hb5 : b5 < wr.heap.size := heap_lt hv
      obtain ⟨wo, hwo⟩ : ∃ wo, wo = wr.alloc (.cells z32 26) := ⟨_, rfl⟩
      have no : Nw wr wo := by rw [hwo]; exact (Fr.refl _ _).alloc _
      have jo : wo.heap[wr.heap.size]? = some (.cells (hcs T 0) 26 (0, 0)) := by rw [hwo, hcs_0]; exact heap_new wr _
      have vo := (no.block _ hb5 (fun f => f)).trans hv
      have zo := (no.block _ (heap_lt hz) (fun f => f)).trans hz
      have nwo := hnw.tr no
      have HK : Hid (w.heap.size < b5 ∧ b5 < wr.heap.size) := ⟨by omega, hb5⟩
      have HWS : Hid (w.heap.size ≤ wr.heap.size) := hnw.size
      clear hT hm hks hO no hb5 hz hv hnw HG
      go_wp2_with fail
      rw [z32_h, ← hwo]
      clear hwo hge
      generalize decide ((m : Int) < (n : Int)) = dd
      obtain ⟨r, hr⟩ : ∃ r, r = wr.heap.size := ⟨_, rfl⟩
      rw [← hr] at jo HK HWS ⊢
      clear hr
      go_loopw [8] (fun i wx => ∃ j : Nat, j ≤ 32 ∧ i = .int .i64 j ∧ Nw w wx ∧ wx.heap[w.heap.size]? = some (.cells z32 26 (0, 0)) ∧ wx.heap[b5]? = some (.cells (vals T) 132 (0, 0)) ∧ wx.heap[r]? = some (.cells (hcs T j) 26 (0, 0))) (fun i _ => 32 - (intOf i).toNat)
      case atStart => exact ⟨0, by omega, rfl, nwo, zo, vo, jo⟩
      case round =>
        clear nwo zo vo jo
        obtain ⟨j, hj, rfl, hnw, hz, hv, hc⟩ := hrel
        by_cases hlt : j < 32
        · have hki : (j : Int) < 32 := by omega
          obtain ⟨q, x, hkj, hx4⟩ : ∃ q x, j = 4 * q + x ∧ x < 4 := ⟨j / 4, j % 4, by omega, by omega⟩
          have h4 : (j : Int) / 4 = (q : Int) := by omega
          have h4m : (j : Int) % 4 = (x : Int) := by omega
          have hj8 : (q : Int) < 8 := by omega
          have hcw := (cell_of hv q).trans (vals_at T q (by omega))
          have hwl := wl_lt T HT.out q
          have HB : Hid (hby T j = (wl T).getD q 0 / 2 ^ (8 * (3 - x)) % 256) := by
            unfold Hid hby
            rw [show j / 4 = q by omega, show j % 4 = x by omega]
          generalize (wl T).getD q 0 = y at hcw hwl HB
          have hcs : wr.cell? ⟨r, j, none⟩ = some (.int .u8 0) := (cell_of hc j).trans (by rw [hcs, Array.getElem?_ofFn, dif_pos (by omega), if_neg (by simp)]; rfl)
          have hfz : wr.frozen? ⟨r, j, none⟩ = false := frozen_of hc j
          clear hkj
          go_wp2
          have hvl : (y : Int) / 2 ^ (24 - x * 8) % 256 = ((hby T j : Nat) : Int) := by rw [HB.out, show 8 * (3 - x) = 24 - x * 8 by omega]; simp
          rw [hvl]
          have hKo := HK.out
          have hWS := HWS.out
          refine ⟨⟨j + 1, by omega, by go_num, hnw.setCell _ _ (fun h => absurd h (by simp; omega)), (heap_set_ne (by omega) _).trans hz, (heap_set_ne (by omega) _).trans hv, ?_⟩, by simp [intOf]; omega⟩
          rw [← hcs_set T j hlt]
          exact heap_set hc _
        · obtain rfl : j = 32 := by omega
          have hKo := HK.out
          go_wp2_with first
            | (refine wp_load_agg rfl (.tmp 7) 26 32 rfl Tryd.isAgg26 Tryd.sizeOf26 r 0 rfl (hcs T 32) 26 (0, 0) hc (hcs T 32) (hcs_size _ _) (fun j _ => by rw [Nat.zero_add]) ?_)
            | (refine wp_store_agg rfl (.tmp 2) (.tmp 43) 26 32 rfl Tryd.sizeOf26 w.heap.size 0 rfl z32 26 hz (hcs T 32) rfl (hcs_size _ _) (hcs_one T 32) (by decide) (hcs T 32) (by rw [z32_drop]; simp) ?_; intro w9 j9 f9 z9)
          exact bodyPost_ret (results_cell Tryd.results57 Tryd.isAgg26 Tryd.sizeOf26 rfl j9 (hcs_size _ _)) rfl ⟨by rw [← HW.out]; rfl, hnw.trans f9 (fun k hk q => by omega)⟩
end Go.Proofs.YtlaiomgebkeldaaDoor.Rf
