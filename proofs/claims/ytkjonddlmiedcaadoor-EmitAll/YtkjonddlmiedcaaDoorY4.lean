/- emit: the trees that become whole. -/
import Derived.Test.YtkjonddlmiedcaaDoorY3
import Derived.Test.YtkjonddlmiedcaaDoorX3
namespace Go.Proofs.YtkjonddlmiedcaaDoor
open Go.RowKit Go.Shelf
set_option linter.unusedVariables false
set_option linter.unusedSimpArgs false
set_option maxRecDepth 100000 in
theorem built_node (L I : Int) (H : List UInt8) (hH : H.length = 32) (W : World) : (Instr.build 38 #[(0, .agg #[.int .u8 L, .int .u64 I]), (1, .agg (hbs H))]).run Tryd.prog W = .ok (.agg (#[.int .u8 L, .int .u64 I] ++ hbs H)) W := by
  refine run_build W _ _ _ ?_
  match H, hH with
  | [a0, a1, a2, a3, a4, a5, a6, a7, a8, a9, a10, a11, a12, a13, a14, a15, a16, a17, a18, a19, a20, a21, a22, a23, a24, a25, a26, a27, a28, a29, a30, a31], _ =>
    change _ = _
    kernel_rfl
theorem built_n (t : Tre) (h : t.H.length = 32) (W : World) : (Instr.build 38 #[(0, .agg #[.int .u8 (t.L : Int), .int .u64 (t.I : Int)]), (1, .agg (hbs t.H))]).run Tryd.prog W = .ok (.agg t.c) W := built_node _ _ _ h W
theorem infoNd : (Tryd.prog.info? 38).map (fun i => (i.zero, i.size, i.bytes)) = some (some (.agg zt.c), 34, 48) := by kernel_rfl
theorem build1n (V : Array Value) (hV : V.size = 34) (W : World) : (Instr.buildSlice 26 1 #[(0, .agg V)]).run Tryd.prog W = .ok (.slice (some ⟨W.heap.size, 0, none⟩) 1 1) (W.alloc (.cells V 38)) := by
  obtain ⟨i0, hi, hz0, hz1, hz2⟩ := info_parts infoNd
  have hf : ∀ Z : Array Value, Z.size = 34 → V.zipIdx.foldl (fun (cs : Array Value) (x : Value × Nat) => cs.setIfInBounds (0 + x.2) x.1) Z = V := fun Z hZ => by
    rw [← Array.foldl_toList, Array.toList_zipIdx, fill_fold V.toList 0 Z (by simp; omega)]
    simp
  have hz : ((Array.range 34).map (fun x => zt.c[x % zt.c.size]!)).size = 34 := by simp
  have h32 : (Value.agg V).cells.size = 34 := hV
  have := hf _ hz
  simp only [Instr.buildSlice, Sem.run_bind, run_underlying Tryd.underlying26, Tryd.sizeOf38 W, Result.andThen_ok, Sem.run_pure]
  simp [zeroValue, hi, hz0, typeInfo, Instr.fill, Value.cells, hV, zt34, newRow]
  have hs : V.zipIdx.size = 34 := by simp [hV]
  simp only [Nat.zero_add, zt34, hs] at this
  rw [this]
/-- The hash of the tree of so many joined. -/
def nhs (L : List (List UInt8)) (x : List UInt8) : Nat → List UInt8
  | 0 => x
  | i + 1 => ndh (L.getD (L.length - 1 - i) []) (nhs L x i)
theorem nhs_len (L : List (List UInt8)) (x : List UInt8) (hx : x.length = 32) : ∀ i, (nhs L x i).length = 32
  | 0 => hx
  | i + 1 => ndh_len _ _
/-- The trees that the next leaf makes whole. -/
def nds (n : Nat) (L : List (List UInt8)) (x : List UInt8) (k : Nat) : List Tre := (List.range k).map fun i => ⟨i, n / 2 ^ i, nhs L x i⟩
theorem nds_succ (n : Nat) (L : List (List UInt8)) (x : List UInt8) (k : Nat) : nds n L x (k + 1) = nds n L x k ++ [⟨k, n / 2 ^ k, nhs L x k⟩] := by simp [nds, List.range_succ]
theorem nds_len (n : Nat) (L : List (List UInt8)) (x : List UInt8) (k : Nat) : (nds n L x k).length = k := by simp [nds]
theorem tre_newn (w : World) (t : Tre) (ty : TypeId) : ∀ j u, t.c.toList[j]? = some u → (w.alloc (.cells t.c ty)).cell? ((⟨w.heap.size, 0, none⟩ : Addr).add j) = some u := by
  intro j u h
  rw [addZ, cell_of (heap_new _ _)]
  simpa using h
theorem wple_build1 {w : World} {ops : Array Oper} {rest : List Oper} {o : Oper} {a : Act} {Q : Exit → Act → World → Prop} (hgd : o.guard = none) (x : Operand) (ho : o.op = .buildSlice 26 1 #[(0, x)]) (V : Array Value) (hx : a.eval x = .agg V) (hV : V.size = 34)
    (h : wpList Tryd.prog ops Q rest (a.put o.dst (.slice (some ⟨w.heap.size, 0, none⟩) 1 1)) (w.alloc (.cells V 38))) : wpList Tryd.prog ops Q (o :: rest) a w := by
  refine wpList_plain hgd fun K hK => ?_
  unfold Oper.wp execOp
  simp only [ho, Sem.run_bind, Sem.run_pure, Result.andThen_ok, List.map_toArray, List.map_cons, List.map_nil, hx, build1n V hV]
  exact hK _ _ h
/-- A row made with room, as one step of a statement whose order is drawn. -/
theorem step_make {P : Program} {ops : Array Oper} {o : Oper} {a : Act} {w : World} {K : Act → World → Prop} {Q : Exit → Act → World → Prop} {E : Prop} (hgd : o.guard = none) (y : Operand) (t e : TypeId) (ho : o.op = .makeSlice t (.const (.int .i64 0)) y) (i : TypeInfo) (z : Value) (size : Nat) (ht : P.underlying t = some (.slice e)) (hi : P.info? e = some i) (hz : i.zero = some z) (hsize : i.size = size) (c : Nat) (hy : a.eval y = .int .i64 (c : Int)) (hbytes : i.bytes * c ≤ 281474976710656) (h63 : c ≤ maxLen)
    (h : ∀ w', w'.ownsRow w.heap.size e size (.slice (some ⟨w.heap.size, 0, none⟩) 0 c) 0 [] → Nw w w' → K (a.put o.dst (.slice (some ⟨w.heap.size, 0, none⟩) 0 c)) w') : if Region.wanted o (yielded ops a.tmps) = true then Oper.wp P o a w K Q else E := by
  have hw : Region.wanted o (yielded ops a.tmps) = true := by simp [Region.wanted, hgd]
  rw [if_pos hw]
  obtain ⟨w', hr, hown, hg⟩ := run_make_own (P := P) w w.heap.size t e i z size ht hi hz hsize .i64 .i64 c hbytes h63 (Nat.le_refl _)
  unfold Oper.wp execOp
  simp only [ho, Act.eval, Sem.run_bind, Sem.run_pure, Result.andThen_ok]
  have hy' := hy
  simp only [Act.eval] at hy'
  simp only [hy', hr, Result.andThen_ok]
  exact h w' hown ((Fr.refl _ _).grown hg (fun k e _ => by cases e))
set_option maxRecDepth 100000 in
set_option maxHeartbeats 8000000 in
theorem whole_any {w : World} {b base : Nat} {v : Value} {n : Nat} {L : List (List UInt8)} (h : Bd w b base v n L) (x : List UInt8) (hx : x.length = 32) (j : Nat) (hj : j ≤ L.length) (hn : n < 9223372036854775808) (hm : ∀ i, i < j → may i (n / 2 ^ i) ∧ i < 63) (hl : L.length ≤ 1000000) (hL : Laid w) :
    Calls Tryd.prog 22 #[.pointer (some ⟨b, 0, none⟩), .agg (hbs x), .int .i64 (j : Int)] w fun e w' => ∃ v', e = .returned v' ∧ w'.ownsRow w.heap.size 38 34 v' (j + 1) (tsc (nds n L x (j + 1))) ∧ Nw w w' := by
  obtain ⟨i0, hi0, hz0, hz1, hz2⟩ := info_parts infoNd
  obtain ⟨va, vc, rfl⟩ := ownsRow_form h.own
  have HB : Hid (Bd w b base (.slice va L.length vc) n L) := h
  have HL : Hid (Laid w) := hL
  have HX : Hid (x.length = 32) := hx
  have hxs : (hbs x).size = 32 := by rw [hbs_size, hx]
  have HM : Hid (∀ i, i < j → may i (n / 2 ^ i) ∧ i < 63) := hm
  obtain ⟨m, hmm⟩ : ∃ m, m = L.length := ⟨_, rfl⟩
  have HLm : Hid (L.length = m) := hmm.symm
  rw [← hmm] at hj hl HB
  clear h hL hx hm hmm
  go_enter Tryd.func22, Tryd.ntmps22
  go_upto_region 1 with fail
  obtain ⟨w0, hw0⟩ : ∃ q, w.alloc (.cells (hbs x) 32) = q := ⟨_, rfl⟩
  have N0 : Hid (Nw w w0) := by show Nw _ _; rw [← hw0]; exact nwa w _
  have b0 : Hid (w0.heap[w.heap.size]? = some (.cells (hbs x) 32)) := by show _ = _; rw [← hw0]; exact heap_new _ _
  rw [hw0]
  clear hw0
  obtain ⟨xb, hxb⟩ : ∃ q, q = w.heap.size := ⟨_, rfl⟩
  rw [← hxb] at b0 ⊢
  have HXB : Hid (xb = w.heap.size) := hxb
  clear hxb
  have KP : Hid (∀ V, Nw w0 V → V.cell? ⟨b, 1, none⟩ = some (.int .u64 (n : Int)) ∧ V.heap[xb]? = some (.cells (hbs x) 32)) := fun V nV => ⟨(HB.out.nw (N0.out.tr nV)).cs.2.1, (nV.block _ (heap_lt b0.out) (fun f => f)).trans b0.out⟩
  obtain ⟨t0, ht0⟩ : ∃ t : Tre, t = ⟨0, n, x⟩ := ⟨_, rfl⟩
  have HT0 : Hid (t0 = ⟨0, n, x⟩) := ht0
  have ht0s : t0.c.size = 34 := by rw [ht0]; exact Tre.size HX.out
  have BT : Hid (∀ W : World, (Instr.build 38 #[(0, .agg #[.int .u8 0, .int .u64 (n : Int)]), (1, .agg (hbs x))]).run Tryd.prog W = .ok (.agg t0.c) W) := fun W => by rw [ht0]; exact built_n ⟨0, n, x⟩ HX.out W
  clear ht0
  go_cut [7] (fun p wx => ∃ tb : Nat, p = .pointer (some ⟨tb, 0, none⟩) ∧ w.heap.size ≤ tb ∧ wx.heap[tb]? = some (.cells t0.c 38) ∧ Nw w wx)
  case first =>
    have nb : Nw w0 w0.drew := (Fr.refl _ _).drew
    have lbw := heap_lt (HB.out.nw N0.out).blk
    refine wp_region_held_drew (S := fun V => V.cell? ⟨b, 1, none⟩ = some (.int .u64 (n : Int)) ∧ V.heap[xb]? = some (.cells (hbs x) 32)) (by kernel_rfl) (KP.out _ nb) ?_
    intro hS0
    refine wpAnyH_take (i := 0) (oi := Oper.mk (some 11) _ _ _ _ _) (v := .pointer (some ⟨b, 0, none⟩)) rfl (by kernel_rfl) (by kernel_rfl) (by kernel_rfl) (fun _ _ _ h => h) (Or.inl ⟨by kernel_rfl, by intro w hw; go_simp⟩) hS0 ?_
    try simp only [Act.put, List.setIfInBounds_toArray, List.set_cons_zero, List.set_cons_succ]
    refine wpAnyH_take (i := 1) (oi := Oper.mk (some 12) _ _ _ _ _) (v := .pointer (some ⟨b, 0, none⟩)) rfl (by kernel_rfl) (by kernel_rfl) (by kernel_rfl) (fun _ _ _ h => h) (Or.inl ⟨by kernel_rfl, by intro w hw; go_simp⟩) hS0 ?_
    try simp only [Act.put, List.setIfInBounds_toArray, List.set_cons_zero, List.set_cons_succ]
    refine wpAnyH_take (i := 2) (oi := Oper.mk (some 13) _ _ _ _ _) (v := .pointer (some ⟨b, 1, none⟩)) rfl (by kernel_rfl) (by kernel_rfl) (by kernel_rfl) (fun _ _ _ h => h) (Or.inl ⟨by kernel_rfl, by intro w hw; go_simp⟩) hS0 ?_
    try simp only [Act.put, List.setIfInBounds_toArray, List.set_cons_zero, List.set_cons_succ]
    refine wpAnyH_take (i := 3) (oi := Oper.mk (some 14) _ _ _ _ _) (v := .int .u64 (n : Int)) rfl (by kernel_rfl) (by kernel_rfl) (by kernel_rfl) (fun _ _ _ h => h) (Or.inl ⟨by kernel_rfl, by intro w hw; have hc := hw.1; go_simp⟩) hS0 ?_
    try simp only [Act.put, List.setIfInBounds_toArray, List.set_cons_zero, List.set_cons_succ]
    refine wpAnyH_take (i := 4) (oi := Oper.mk (some 15) _ _ _ _ _) (v := .agg #[.int .u8 0, .int .u64 (n : Int)]) rfl (by kernel_rfl) (by kernel_rfl) (by kernel_rfl) (fun _ _ _ h => h) (Or.inl ⟨by kernel_rfl, by intro w hw; go_simp⟩) hS0 ?_
    try simp only [Act.put, List.setIfInBounds_toArray, List.set_cons_zero, List.set_cons_succ]
    refine wpAnyH_take (i := 5) (oi := Oper.mk (some 16) _ _ _ _ _) (v := .agg (hbs x)) rfl (by kernel_rfl) (by kernel_rfl) (by kernel_rfl) (fun _ _ _ h => h) (yields_load_agg rfl (.tmp 4) 32 32 rfl Tryd.isAgg32 Tryd.sizeOf32 xb (by kernel_rfl) 32 (hbs x) hxs (fun V hV => hV.2)) hS0 ?_
    try simp only [Act.put, List.setIfInBounds_toArray, List.set_cons_zero, List.set_cons_succ]
    refine wpAnyH_take (i := 6) (oi := Oper.mk (some 17) _ _ _ _ _) (v := .agg t0.c) rfl (by kernel_rfl) (by kernel_rfl) (by kernel_rfl) (fun _ _ _ h => h) (yields_build rfl 38 #[(0, .tmp 15), (1, .tmp 16)] rfl #[(0, .agg #[.int .u8 0, .int .u64 (n : Int)]), (1, .agg (hbs x))] (by kernel_rfl) t0.c BT.out) hS0 ?_
    try simp only [Act.put, List.setIfInBounds_toArray, List.set_cons_zero, List.set_cons_succ]
    refine wpAnyH_ready (rs := [7]) (by kernel_rfl) (by simp) ?_
    refine AllReadyH.cons rfl (fun K' hK => ?_) AllReadyH.nil
    go_simp
    rw [zt_h]
    obtain ⟨w1, hw1⟩ : ∃ q, (w0.alloc (.cells zt.c 38)).drew = q := ⟨_, rfl⟩
    have n1 : Nw w0 w1 := by rw [← hw1]; exact (nwa w0 _).drew
    have g1 : w1.heap[w0.heap.size]? = some (.cells zt.c 38) := by rw [← hw1]; exact heap_new _ _
    rw [hw1]
    refine hK.out _ _ (KP.out _ (n1)) (fun hS0 => ?_)
    try simp only [Act.put, List.setIfInBounds_toArray, List.set_cons_zero, List.set_cons_succ]
    refine wpAnyH_ready (rs := [8]) (by kernel_rfl) (by simp) ?_
    refine ready_store rfl rfl (.tmp 7) (.tmp 17) 38 34 rfl Tryd.sizeOf38 w0.heap.size (by kernel_rfl) zt.c 38 g1 t0.c (by kernel_rfl) ht0s (Tre.one _) zt34 ?_ AllReadyH.nil
    intro w5 j5 f5
    have n5 : Nw w0 w5 := n1.trans f5 (fun k hk e => by omega)
    refine ⟨KP.out _ n5, fun hS0 => ?_⟩
    try simp only [Act.put, List.setIfInBounds_toArray, List.set_cons_zero, List.set_cons_succ]
    refine wpAnyH_done (by kernel_rfl) ?_ _
    try go_wp2_with fail
    go_meet
    exact ⟨_, rfl, N0.out.size, j5, N0.out.tr n5⟩
  case rest =>
    obtain ⟨tb, rfl, htb, btb, nx⟩ := hcut
    obtain ⟨w2, hw2⟩ : ∃ q, q = wc := ⟨_, rfl⟩
    subst hw2
    have BTB : Hid (w2.heap[tb]? = some (.cells t0.c 38)) := btb
    have N2 : Hid (Nw w w2) := nx
    have HTB : Hid (w.heap.size ≤ tb) := htb
    clear btb nx htb KP BT
    obtain ⟨c1, hc1⟩ : ∃ c1, c1 = j + 1 := ⟨_, rfl⟩
    have HC1 : Hid (c1 = j + 1) := hc1
    have EC : Hid ((j : Int) + 1 = (c1 : Int)) := by show (j : Int) + 1 = (c1 : Int); omega
    have KQ : Hid (∀ V, Nw w2 V → V.heap[tb]? = some (.cells t0.c 38)) := fun V nV => (nV.block _ (heap_lt BTB.out) (fun f => f)).trans BTB.out
    have hc1l : c1 ≤ 1000001 := by omega
    have EW : Hid (IntKind.i64.wrap (c1 : Int) = (c1 : Int)) := by show _ = _; rw [IntKind.wrap_i64]; omega
    clear hc1
    go_upto_region 2 with fail
    go_cut [8] (fun p wx => p ≠ .slice none 0 0 ∧ wx.ownsRow w.heap.size 38 34 p 1 t0.c.toList ∧ wx.heap[tb]? = some (.cells t0.c 38) ∧ (∀ g, p.ownBlock = some g → tb < g) ∧ Nw w wx)
    case first =>
      have nb : Nw w2 w2.drew := (Fr.refl _ _).drew
      refine wp_region_held_drew (S := fun V => V.heap[tb]? = some (.cells t0.c 38)) (by kernel_rfl) (KQ.out _ nb) ?_
      intro hS0
      refine wpAnyH_take (i := 0) (oi := Oper.mk (some 18) _ _ _ _ _) (v := .int .i64 (j : Int)) rfl (by kernel_rfl) (by kernel_rfl) (by kernel_rfl) (fun _ _ _ h => h) (Or.inl ⟨by kernel_rfl, by intro w hw; go_simp⟩) hS0 ?_
      try simp only [Act.put, List.setIfInBounds_toArray, List.set_cons_zero, List.set_cons_succ]
      refine wpAnyH_take (i := 1) (oi := Oper.mk (some 19) _ _ _ _ _) (v := .int .i64 (c1 : Int)) rfl (by kernel_rfl) (by kernel_rfl) (by kernel_rfl) (fun _ _ _ h => h) (Or.inl ⟨by kernel_rfl, by intro w hw; have ec := EC.out; have ew := EW.out; go_simp⟩) hS0 ?_
      try simp only [Act.put, List.setIfInBounds_toArray, List.set_cons_zero, List.set_cons_succ]
      refine wpAnyH_take (i := 3) (oi := Oper.mk (some 21) _ _ _ _ _) (v := .agg t0.c) rfl (by kernel_rfl) (by kernel_rfl) (by kernel_rfl) (fun _ _ _ h => h) (yields_load_agg rfl (.tmp 7) 38 34 rfl Tryd.isAgg38 Tryd.sizeOf38 tb (by kernel_rfl) 38 t0.c ht0s (fun V hV => hV)) hS0 ?_
      try simp only [Act.put, List.setIfInBounds_toArray, List.set_cons_zero, List.set_cons_succ]
      refine wpAnyH_ready (rs := [2, 4]) (by kernel_rfl) (by simp) ?_
      refine AllReadyH.cons rfl (fun K' hK => ?_) (AllReadyH.cons rfl (fun K' hK => ?_) AllReadyH.nil)
      · show if Region.wanted (Oper.mk _ _ _ _ _ _) _ = true then _ else _
        refine step_make rfl (.tmp 19) 26 38 rfl i0 (.agg zt.c) 34 Tryd.underlying26 hi0 hz0 hz1 c1 (by kernel_rfl) (by rw [hz2]; omega) (by unfold maxLen; omega) ?_
        intro u1 om mu1
        have nu1 : Nw w2 u1 := (nb).tr mu1
        obtain ⟨gm, hgm⟩ : ∃ q, q = (w2.drew).heap.size := ⟨_, rfl⟩
        rw [← hgm] at om ⊢
        have lm : w2.heap.size ≤ gm := by have := (nb).size; omega
        refine hK.out _ _ (KQ.out _ (nu1)) (fun hS0 => ?_)
        try simp only [Act.put, List.setIfInBounds_toArray, List.set_cons_zero, List.set_cons_succ]
        refine wpAnyH_ready (rs := [4]) (by kernel_rfl) (by simp) ?_
        refine AllReadyH.cons rfl (fun K' hK => ?_) AllReadyH.nil
        show if Region.wanted (Oper.mk _ _ _ _ _ _) _ = true then _ else _
        refine step_build1 rfl (.tmp 21) 26 38 rfl t0.c (by kernel_rfl) (build1n t0.c ht0s) ?_
        have cl := tre_newn (u1) t0 38
        obtain ⟨u2, hu2⟩ : ∃ q, (u1).alloc (.cells t0.c 38) = q := ⟨_, rfl⟩
        have mu2 : Nw (u1) u2 := by rw [← hu2]; exact nwa _ _
        have nu2 : Nw w2 u2 := (nu1).tr mu2
        rw [hu2] at cl ⊢
        obtain ⟨gl, hgl⟩ : ∃ q, q = (u1).heap.size := ⟨_, rfl⟩
        rw [← hgl] at cl ⊢
        clear hu2
        have om := ownsRow_keep om (fun g hg => mu2.block g (om.lt g hg).2 (fun f => f))
        refine hK.out _ _ (KQ.out _ (nu2)) (fun hS0 => ?_)
        try simp only [Act.put, List.setIfInBounds_toArray, List.set_cons_zero, List.set_cons_succ]
        refine wpAnyH_ready (rs := [5]) (by kernel_rfl) (by simp) ?_
        refine AllReadyH.cons rfl (fun K' hK => ?_) AllReadyH.nil
        show if Region.wanted (Oper.mk _ _ _ _ _ _) _ = true then _ else _
        refine step_two rfl (.tmp 20) (.tmp 22) 26 rfl gm 38 i0 (.agg zt.c) 34 48 Tryd.underlying26 hi0 hz0 hz1 hz2 zt34 (by decide) (.slice (some ⟨gm, 0, none⟩) 0 c1) 0 [] (by kernel_rfl) om ⟨gl, 0, none⟩ 1 1 t0.c.toList (by kernel_rfl) (by rw [Array.length_toList, ht0s]) cl (Tre.one _) (by unfold maxLen; omega) (by omega) (by have := (om.lt gm rfl).2; omega) ?_
        intro v8 u3 o8 t8
        rw [List.nil_append, Nat.zero_add] at o8
        have nu3 : Nw w2 u3 := (nu2).trans t8.fr (fun z hz e => by simp only [Value.ownBlock, Option.some.injEq] at e; omega)
        obtain ⟨xa, xc, rfl⟩ := ownsRow_form o8
        refine hK.out _ _ (KQ.out _ (nu3)) (fun hS0 => ?_)
        try simp only [Act.put, List.setIfInBounds_toArray, List.set_cons_zero, List.set_cons_succ]
        refine wpAnyH_ready (rs := [6]) (by kernel_rfl) (by simp) ?_
        refine AllReadyH.cons rfl (fun K' hK => ?_) AllReadyH.nil
        go_simp
        refine hK.out _ _ (KQ.out _ (nu3)) (fun hS0 => ?_)
        try simp only [Act.put, List.setIfInBounds_toArray, List.set_cons_zero, List.set_cons_succ]
        refine wpAnyH_done (by kernel_rfl) ?_ _
        try go_wp2_with fail
        go_meet
        refine ⟨?_, ownsRow_base o8 (by have := N2.out.size; omega), KQ.out _ nu3, fun g hg => ?_, N2.out.tr nu3⟩
        · intro e
          cases e
        · have := (o8.lt g hg).1
          have := heap_lt BTB.out
          omega
      · show if Region.wanted (Oper.mk _ _ _ _ _ _) _ = true then _ else _
        refine step_build1 rfl (.tmp 21) 26 38 rfl t0.c (by kernel_rfl) (build1n t0.c ht0s) ?_
        have cl := tre_newn (w2.drew) t0 38
        obtain ⟨u1, hu1⟩ : ∃ q, (w2.drew).alloc (.cells t0.c 38) = q := ⟨_, rfl⟩
        have mu1 : Nw (w2.drew) u1 := by rw [← hu1]; exact nwa _ _
        have nu1 : Nw w2 u1 := (nb).tr mu1
        rw [hu1] at cl ⊢
        obtain ⟨gl, hgl⟩ : ∃ q, q = (w2.drew).heap.size := ⟨_, rfl⟩
        rw [← hgl] at cl ⊢
        clear hu1
        refine hK.out _ _ (KQ.out _ (nu1)) (fun hS0 => ?_)
        try simp only [Act.put, List.setIfInBounds_toArray, List.set_cons_zero, List.set_cons_succ]
        refine wpAnyH_ready (rs := [2]) (by kernel_rfl) (by simp) ?_
        refine AllReadyH.cons rfl (fun K' hK => ?_) AllReadyH.nil
        show if Region.wanted (Oper.mk _ _ _ _ _ _) _ = true then _ else _
        refine step_make rfl (.tmp 19) 26 38 rfl i0 (.agg zt.c) 34 Tryd.underlying26 hi0 hz0 hz1 c1 (by kernel_rfl) (by rw [hz2]; omega) (by unfold maxLen; omega) ?_
        intro u2 om mu2
        have nu2 : Nw w2 u2 := (nu1).tr mu2
        obtain ⟨gm, hgm⟩ : ∃ q, q = (u1).heap.size := ⟨_, rfl⟩
        rw [← hgm] at om ⊢
        have lm : w2.heap.size ≤ gm := by have := (nu1).size; omega
        have cl : ∀ z u, t0.c.toList[z]? = some u → u2.cell? ((⟨gl, 0, none⟩ : Addr).add z) = some u := fun z u hu => mu2.cellOf (cl z u hu)
        refine hK.out _ _ (KQ.out _ (nu2)) (fun hS0 => ?_)
        try simp only [Act.put, List.setIfInBounds_toArray, List.set_cons_zero, List.set_cons_succ]
        refine wpAnyH_ready (rs := [5]) (by kernel_rfl) (by simp) ?_
        refine AllReadyH.cons rfl (fun K' hK => ?_) AllReadyH.nil
        show if Region.wanted (Oper.mk _ _ _ _ _ _) _ = true then _ else _
        refine step_two rfl (.tmp 20) (.tmp 22) 26 rfl gm 38 i0 (.agg zt.c) 34 48 Tryd.underlying26 hi0 hz0 hz1 hz2 zt34 (by decide) (.slice (some ⟨gm, 0, none⟩) 0 c1) 0 [] (by kernel_rfl) om ⟨gl, 0, none⟩ 1 1 t0.c.toList (by kernel_rfl) (by rw [Array.length_toList, ht0s]) cl (Tre.one _) (by unfold maxLen; omega) (by omega) (by have := (om.lt gm rfl).2; omega) ?_
        intro v8 u3 o8 t8
        rw [List.nil_append, Nat.zero_add] at o8
        have nu3 : Nw w2 u3 := (nu2).trans t8.fr (fun z hz e => by simp only [Value.ownBlock, Option.some.injEq] at e; omega)
        obtain ⟨xa, xc, rfl⟩ := ownsRow_form o8
        refine hK.out _ _ (KQ.out _ (nu3)) (fun hS0 => ?_)
        try simp only [Act.put, List.setIfInBounds_toArray, List.set_cons_zero, List.set_cons_succ]
        refine wpAnyH_ready (rs := [6]) (by kernel_rfl) (by simp) ?_
        refine AllReadyH.cons rfl (fun K' hK => ?_) AllReadyH.nil
        go_simp
        refine hK.out _ _ (KQ.out _ (nu3)) (fun hS0 => ?_)
        try simp only [Act.put, List.setIfInBounds_toArray, List.set_cons_zero, List.set_cons_succ]
        refine wpAnyH_done (by kernel_rfl) ?_ _
        try go_wp2_with fail
        go_meet
        refine ⟨?_, ownsRow_base o8 (by have := N2.out.size; omega), KQ.out _ nu3, fun g hg => ?_, N2.out.tr nu3⟩
        · intro e
          cases e
        · have := (o8.lt g hg).1
          have := heap_lt BTB.out
          omega
    case rest =>
      obtain ⟨hp, o8, btb, hg8, nx⟩ := hcut
      obtain ⟨xa, xc, rfl⟩ := ownsRow_form o8
      have O8 : Hid (wc.ownsRow w.heap.size 38 34 (.slice xa 1 xc) 1 t0.c.toList) := o8
      have B8 : Hid (wc.heap[tb]? = some (.cells t0.c 38)) := btb
      have G8 : Hid (∀ g, (Value.slice xa 1 xc).ownBlock = some g → tb < g) := hg8
      have N8 : Hid (Nw w wc) := nx
      have R8 := HB.out.nw nx
      have c2 := R8.cs.2.2
      have lb := heap_lt R8.blk
      clear hp o8 btb hg8 nx R8 EC KQ
      have HWT : Hid (t0 = ⟨0, n, x⟩) := HT0.out
      go_wp2_with fail
      go_loopw [8, 31] (fun r i wr => ∃ (k : Nat) (ya : Option Addr) (yc : Nat), k ≤ j ∧ r = .slice ya (k + 1) yc ∧ i = .int .i64 (k : Int) ∧ wr.ownsRow w.heap.size 38 34 (.slice ya (k + 1) yc) (k + 1) (tsc (nds n L x (k + 1))) ∧ wr.heap[tb]? = some (.cells (Tre.mk k (n / 2 ^ k) (nhs L x k)).c 38) ∧ (∀ g, (Value.slice ya (k + 1) yc).ownBlock = some g → tb < g) ∧ Nw w wr) (fun _ i _ => j - (intOf i).toNat)
      case atStart =>
        refine ⟨0, xa, xc, by omega, rfl, rfl, ?_, ?_, G8.out, N8.out⟩
        · have : tsc (nds n L x (0 + 1)) = t0.c.toList := by rw [HWT.out]; simp [nds, tsc, nhs]
          rw [this]; exact O8.out
        · have := B8.out
          rw [HWT.out] at this
          simpa [nhs] using this
      case round =>
        obtain ⟨k, ya, yc, hk, rfl, rfl, ho, hb1, hg1, hw1⟩ := hrel
        have PO : Hid (wr.ownsRow w.heap.size 38 34 (.slice ya (k + 1) yc) (k + 1) (tsc (nds n L x (k + 1)))) := ho
        have PB : Hid (wr.heap[tb]? = some (.cells (Tre.mk k (n / 2 ^ k) (nhs L x k)).c 38)) := hb1
        have PG : Hid (∀ g, (Value.slice ya (k + 1) yc).ownBlock = some g → tb < g) := hg1
        have PN : Hid (Nw w wr) := hw1
        clear ho hb1 hg1 hw1 c2 lb
        by_cases hlt : k < j
        · obtain ⟨hmay, h63⟩ := HM.out k hlt
          obtain ⟨y, hy⟩ : ∃ y, L[m - 1 - k]? = some y := ⟨_, List.getElem?_eq_getElem (by have := HLm.out; omega)⟩
          have hy32 : y.length = 32 := HB.out.ok y (List.mem_of_getElem? hy)
          obtain ⟨g, hva, hgb, _⟩ := Bd.at (HB.out.nw PN.out) hy
          subst hva
          obtain ⟨kk, hkk⟩ : ∃ z, z = k + 1 := ⟨_, rfl⟩
          obtain ⟨I0, hI0⟩ : ∃ z, z = n / 2 ^ k := ⟨_, rfl⟩
          obtain ⟨I1, hI1⟩ : ∃ z, z = n / 2 ^ (k + 1) := ⟨_, rfl⟩
          obtain ⟨H0, hH0⟩ : ∃ z, z = nhs L x k := ⟨_, rfl⟩
          obtain ⟨H1, hH1⟩ : ∃ z, z = nhs L x (k + 1) := ⟨_, rfl⟩
          have hH01 : H1 = ndh y H0 := by
            rw [hH1, hH0, nhs, HLm.out, List.getD_eq_getElem?_getD, hy]; rfl
          have hI01 : I0 / 2 = I1 := by rw [hI0, hI1, Nat.div_div_eq_div_mul, Nat.pow_succ]
          have L0 : Hid (H0.length = 32) := by rw [hH0]; exact nhs_len L x HX.out k
          have L1 : Hid (H1.length = 32) := by rw [hH1]; exact nhs_len L x HX.out (k + 1)
          have LY : Hid (y.length = 32) := hy32
          have s0 : (hbs H0).size = 32 := by rw [hbs_size, L0.out]
          have s1 : (hbs H1).size = 32 := by rw [hbs_size, L1.out]
          have sy : (hbs y).size = 32 := by rw [hbs_size, LY.out]
          have q1 := parent_yes k (n / 2 ^ k) hmay h63 wr
          rw [← hI0] at q1 PB
          rw [hI01] at q1
          rw [← hkk] at q1
          rw [← hH0] at PB
          have HDS : Hid (tsc (nds n L x (kk + 1)) = tsc (nds n L x (k + 1)) ++ (Tre.mk kk I1 H1).c.toList) := by
            show _ = _
            rw [hkk, nds_succ n L x (k + 1), tsc_app, tsc_one, ← hI1, ← hH1]
          have HKK : Hid (kk = k + 1 ∧ I1 = n / 2 ^ (k + 1) ∧ H1 = nhs L x (k + 1)) := ⟨hkk, hI1, hH1⟩
          have KS : Hid (∀ V, Nw w V → V.cell? ⟨b, 2, none⟩ = some (.slice (some ⟨g, 0, none⟩) m vc) ∧ ∀ z, z < 32 → V.cell? ⟨g, (m - 1 - k) * 32 + z, none⟩ = (hbs y)[z]?) := fun V nV => by
            have BV := HB.out.nw nV
            obtain ⟨g', e1, _, e2⟩ := Bd.at BV hy
            cases e1
            exact ⟨BV.cs.2.2, e2⟩
          have QN : Hid (∀ V, Nw w V → Calls Tryd.prog 12 #[.agg (hbs y), .agg (hbs H0)] V fun e w' => e = .returned (.agg (hbs H1)) ∧ Nw V w') := fun V nV => by rw [hH01]; exact node_any y H0 LY.out L0.out V (HL.out.nw nV)
          obtain ⟨d1, d2, _⟩ := Tre.cells PB.out
          have lt1 := heap_lt PB.out
          obtain ⟨mi, hmi⟩ : ∃ z, z = m - 1 - k := ⟨_, rfl⟩
          have HMI : Hid (mi = m - 1 - k) := hmi
          rw [← hmi] at KS
          have EMI : Hid (IntKind.i64.wrap ((m : Int) - 1 - (k : Int)) = (mi : Int) ∧ (m : Int) - 1 - (k : Int) = (mi : Int) ∧ (mi : Int) < (m : Int) ∧ IntKind.i64.wrap (mi : Int) = (mi : Int)) := ⟨by rw [IntKind.wrap_i64]; omega, by omega, by omega, by rw [IntKind.wrap_i64]; omega⟩
          have hki : (k : Int) < (j : Int) := by omega
          simp only at d1 d2
          clear hmay h63 hy hy32 hgb hkk hI0 hI1 hH0 hH1 hH01 hI01 hmi
          go_wp2_with fail
          refine q1.mono ?_
          rintro e w3 ⟨rfl, n3⟩
          have P3 : Hid (w3.heap[tb]? = some (.cells (Tre.mk k I0 H0).c 38)) := (n3.block _ (heap_lt PB.out) (fun f => f)).trans PB.out
          have N3 : Hid (Nw wr w3) := n3
          have z34 : (Tre.mk k I0 H0).c.size = 34 := Tre.size L0.out
          clear n3 q1 d1 d2 lt1
          go_wp2_with (refine wp_store_agg rfl (.tmp 40) (.tmp 38) 36 2 rfl Tryd.sizeOf36 tb 0 rfl (Tre.mk k I0 H0).c 38 P3.out #[.int .u8 (kk : Int), .int .u64 (I1 : Int)] rfl rfl (by simp [Value.oneCell']) (by rw [z34]; omega) (Tre.mk kk I1 H0).c (by simp [Tre.c]) ?_; intro w4 j4 f4 z4; clear z4)
          have B4 : Hid (w4.heap[tb]? = some (.cells (Tre.mk kk I1 H0).c 38)) := j4
          have F4 : Hid (Fr (fun k => k = tb) wr w4) := (N3.out.mono (fun _ _ f => f.elim)).trans f4 (fun _ _ e => e)
          have N4 : Hid (Nw w w4) := PN.out.trans F4.out (fun z hz e => by have := HTB.out; omega)
          have y34 : (Tre.mk kk I1 H0).c.size = 34 := Tre.size L0.out
          have x34 : (Tre.mk kk I1 H1).c.size = 34 := Tre.size L1.out
          clear j4 f4
          go_upto_region 8 with fail
          have nb : Nw w4 w4.drew := (Fr.refl _ _).drew
          have lb8 := heap_lt (HB.out.nw N4.out).blk
          have BD : Hid (w4.drew.heap[tb]? = some (.cells (Tre.mk kk I1 H0).c 38)) := hp_dr B4.out
          refine wp_region_held_drew (S := fun V => V.cell? ⟨b, 2, none⟩ = some (.slice (some ⟨g, 0, none⟩) m vc) ∧ ∀ z, z < 32 → V.cell? ⟨g, mi * 32 + z, none⟩ = (hbs y)[z]?) (by kernel_rfl) (KS.out _ (N4.out.tr nb)) ?_
          intro hS0
          refine wpAnyH_take (i := 0) (oi := Oper.mk (some 41) _ _ _ _ _) (v := .pointer (some ⟨b, 0, none⟩)) rfl (by kernel_rfl) (by kernel_rfl) (by kernel_rfl) (fun _ _ _ h => h) (Or.inl ⟨by kernel_rfl, by intro w hw; go_simp⟩) hS0 ?_
          try simp only [Act.put, List.setIfInBounds_toArray, List.set_cons_zero, List.set_cons_succ]
          refine wpAnyH_take (i := 1) (oi := Oper.mk (some 42) _ _ _ _ _) (v := .pointer (some ⟨b, 0, none⟩)) rfl (by kernel_rfl) (by kernel_rfl) (by kernel_rfl) (fun _ _ _ h => h) (Or.inl ⟨by kernel_rfl, by intro w hw; go_simp⟩) hS0 ?_
          try simp only [Act.put, List.setIfInBounds_toArray, List.set_cons_zero, List.set_cons_succ]
          refine wpAnyH_take (i := 2) (oi := Oper.mk (some 43) _ _ _ _ _) (v := .pointer (some ⟨b, 2, none⟩)) rfl (by kernel_rfl) (by kernel_rfl) (by kernel_rfl) (fun _ _ _ h => h) (Or.inl ⟨by kernel_rfl, by intro w hw; go_simp⟩) hS0 ?_
          try simp only [Act.put, List.setIfInBounds_toArray, List.set_cons_zero, List.set_cons_succ]
          refine wpAnyH_take (i := 3) (oi := Oper.mk (some 44) _ _ _ _ _) (v := .slice (some ⟨g, 0, none⟩) m vc) rfl (by kernel_rfl) (by kernel_rfl) (by kernel_rfl) (fun _ _ _ h => h) (Or.inl ⟨by kernel_rfl, by intro w hw; have hc := hw.1; go_simp⟩) hS0 ?_
          try simp only [Act.put, List.setIfInBounds_toArray, List.set_cons_zero, List.set_cons_succ]
          refine wpAnyH_take (i := 4) (oi := Oper.mk (some 45) _ _ _ _ _) (v := .int .i64 ((m : Int) - 1)) rfl (by kernel_rfl) (by kernel_rfl) (by kernel_rfl) (fun _ _ _ h => h) (Or.inl ⟨by kernel_rfl, by intro w hw; go_simp⟩) hS0 ?_
          try simp only [Act.put, List.setIfInBounds_toArray, List.set_cons_zero, List.set_cons_succ]
          refine wpAnyH_take (i := 5) (oi := Oper.mk (some 46) _ _ _ _ _) (v := .int .i64 (k : Int)) rfl (by kernel_rfl) (by kernel_rfl) (by kernel_rfl) (fun _ _ _ h => h) (Or.inl ⟨by kernel_rfl, by intro w hw; go_simp⟩) hS0 ?_
          try simp only [Act.put, List.setIfInBounds_toArray, List.set_cons_zero, List.set_cons_succ]
          refine wpAnyH_take (i := 6) (oi := Oper.mk (some 47) _ _ _ _ _) (v := .int .i64 (mi : Int)) rfl (by kernel_rfl) (by kernel_rfl) (by kernel_rfl) (fun _ _ _ h => h) (Or.inl ⟨by kernel_rfl, by intro w hw; have em := EMI.out.1; have em2 := EMI.out.2.1; have em3 := EMI.out.2.2.2; go_simp⟩) hS0 ?_
          try simp only [Act.put, List.setIfInBounds_toArray, List.set_cons_zero, List.set_cons_succ]
          refine wpAnyH_take (i := 7) (oi := Oper.mk (some 48) _ _ _ _ _) (v := .pointer (some ⟨g, mi * 32, none⟩)) rfl (by kernel_rfl) (by kernel_rfl) (by kernel_rfl) (fun _ _ _ h => h) (Or.inl ⟨by kernel_rfl, by intro w hw; have em := EMI.out.2.2.1; go_simp⟩) hS0 ?_
          try simp only [Act.put, List.setIfInBounds_toArray, List.set_cons_zero, List.set_cons_succ]
          refine wpAnyH_take (i := 8) (oi := Oper.mk (some 49) _ _ _ _ _) (v := .agg (hbs y)) rfl (by kernel_rfl) (by kernel_rfl) (by kernel_rfl) (fun _ _ _ h => h) (yields_load_at rfl (.tmp 48) 32 32 rfl Tryd.isAgg32 Tryd.sizeOf32 g (mi * 32) (by kernel_rfl) (hbs y) sy (fun V hV => hV.2)) hS0 ?_
          try simp only [Act.put, List.setIfInBounds_toArray, List.set_cons_zero, List.set_cons_succ]
          refine wpAnyH_take (i := 9) (oi := Oper.mk (some 50) _ _ _ _ _) (v := .pointer (some ⟨tb, 2, none⟩)) rfl (by kernel_rfl) (by kernel_rfl) (by kernel_rfl) (fun _ _ _ h => h) (Or.inl ⟨by kernel_rfl, by intro w hw; go_simp⟩) hS0 ?_
          try simp only [Act.put, List.setIfInBounds_toArray, List.set_cons_zero, List.set_cons_succ]
          refine wpAnyH_ready (rs := [10]) (by kernel_rfl) (by simp) ?_
          refine AllReadyH.cons rfl (fun K' hK => ?_) AllReadyH.nil
          show if Region.wanted (Oper.mk _ _ _ _ _ _) _ = true then _ else _
          refine step_load_at rfl (.tmp 50) 32 32 rfl Tryd.isAgg32 Tryd.sizeOf32 tb 2 (by kernel_rfl) (hbs H0) s0 (Tre.cells BD.out).2.2 ?_
          refine hK.out _ _ (KS.out _ (N4.out.tr nb)) (fun hS0 => ?_)
          try simp only [Act.put, List.setIfInBounds_toArray, List.set_cons_zero, List.set_cons_succ]
          refine wpAnyH_ready (rs := [11]) (by kernel_rfl) (by simp) ?_
          refine AllReadyH.cons rfl (fun K' hK => ?_) AllReadyH.nil
          go_simp
          go_wp2_with (go_at_call 12; refine (QN.out _ (N4.out.tr nb)).mono ?_; rintro e5 w5 ⟨rfl, n5⟩)
          have m5 : Nw w4 w5 := nb.tr n5
          have b5 : w5.heap[tb]? = some (.cells (Tre.mk kk I1 H0).c 38) := (m5.block _ (heap_lt B4.out) (fun f => f)).trans B4.out
          refine hK.out _ _ (KS.out _ (N4.out.tr m5)) (fun hS0 => ?_)
          try simp only [Act.put, List.setIfInBounds_toArray, List.set_cons_zero, List.set_cons_succ]
          refine wpAnyH_take (i := 12) (oi := Oper.mk (some 53) _ _ _ _ _) (v := .pointer (some ⟨tb, 2, none⟩)) rfl (by kernel_rfl) (by kernel_rfl) (by kernel_rfl) (fun _ _ _ h => h) (Or.inl ⟨by kernel_rfl, by intro w hw; go_simp⟩) hS0 ?_
          try simp only [Act.put, List.setIfInBounds_toArray, List.set_cons_zero, List.set_cons_succ]
          refine wpAnyH_ready (rs := [13]) (by kernel_rfl) (by simp) ?_
          refine AllReadyH.cons rfl (fun K' hK => ?_) AllReadyH.nil
          show if Region.wanted (Oper.mk _ _ _ _ _ _) _ = true then _ else _
          refine step_store_agg rfl (.tmp 53) (.tmp 52) 32 32 rfl Tryd.sizeOf32 tb 2 (by kernel_rfl) (Tre.mk kk I1 H0).c 38 b5 (hbs H1) (by kernel_rfl) s1 (hbs_one _) (by rw [y34]; omega) (Tre.mk kk I1 H1).c (by rw [List.drop_eq_nil_of_le (by rw [Array.length_toList, y34]; omega)]; simp [Tre.c]) ?_
          intro w6 j6 f6 z6
          have F6 : Fr (fun k => k = tb) wr w6 := (F4.out.trans (m5.mono (fun _ _ f => f.elim)) (fun _ _ e => e)).trans f6 (fun _ _ e => e)
          have N6 : Nw w w6 := PN.out.trans F6 (fun z hz e => by have := HTB.out; omega)
          refine hK.out _ _ (KS.out _ (N6)) (fun hS0 => ?_)
          try simp only [Act.put, List.setIfInBounds_toArray, List.set_cons_zero, List.set_cons_succ]
          refine wpAnyH_done (by kernel_rfl) ?_ _
          have B6 : Hid (w6.heap[tb]? = some (.cells (Tre.mk kk I1 H1).c 38)) := j6
          have F6' : Hid (Fr (fun k => k = tb) wr w6) := F6
          have N6' : Hid (Nw w w6) := N6
          have O6 : Hid (w6.ownsRow w.heap.size 38 34 (.slice ya (k + 1) yc) (k + 1) (tsc (nds n L x (k + 1)))) := ownsRow_keep PO.out (fun g hg => F6.block g (PO.out.lt g hg).2 (fun e => by have := PG.out g hg; omega))
          have O6a : Hid ((w6.alloc (.cells (Tre.mk kk I1 H1).c 38)).ownsRow w.heap.size 38 34 (.slice ya (k + 1) yc) (k + 1) (tsc (nds n L x (k + 1)))) := O6.out.alloc _
          have GEN : Hid (∀ v7 w7, Two (w6.alloc (.cells (Tre.mk kk I1 H1).c 38)) w7 38 34 (.slice ya (k + 1) yc) v7 (k + 1) 1 (tsc (nds n L x (k + 1)) ++ (Tre.mk kk I1 H1).c.toList) → w7.heap[tb]? = some (.cells (Tre.mk kk I1 H1).c 38) ∧ Nw w w7 ∧ ∀ g, v7.ownBlock = some g → tb < g) := fun v7 w7 t7 => by
            have l6 := heap_lt B6.out
            have s6 := N6'.out.size
            refine ⟨(t7.fr.block tb (by simp; omega) (fun e => by have := PG.out tb e; omega)).trans (((nwa w6 _).block _ l6 (fun f => f)).trans B6.out), (N6'.out.alloc _).trans t7.fr (fun z hz e => by have := (O6.out.lt z e).1; omega), fun g hg => ?_⟩
            rcases t7.stays (by omega) with e | ⟨g0, e, hg0⟩
            · exact PG.out g (by rw [← e]; exact hg)
            · rw [e] at hg
              cases hg
              simp at hg0
              omega
          clear j6 F6 N6 f6 z6 b5 m5 n5 hS0 KS QN EMI lb8 BD nb
          go_wp2_with first
            | refine wple_load_at rfl (.tmp 7) 38 34 rfl Tryd.isAgg38 Tryd.sizeOf38 tb 0 rfl (Tre.mk kk I1 H1).c x34 (fun z _ => by rw [Nat.zero_add]; exact cell_of B6.out z) ?_
            | refine wple_build1 rfl (.tmp 55) rfl (Tre.mk kk I1 H1).c rfl x34 ?_
            | (at_builtin; refine wpList_two _ rfl (.tmp 54) (.tmp 56) 26 rfl w.heap.size 38 i0 (.agg zt.c) 34 48 Tryd.underlying26 hi0 hz0 hz1 hz2 zt34 (by decide) (.slice ya (k + 1) yc) (k + 1) (tsc (nds n L x (k + 1))) rfl O6a.out ⟨w6.heap.size, 0, none⟩ 1 1 (Tre.mk kk I1 H1).c.toList rfl (by rw [Array.length_toList, x34]) (tre_newn w6 (Tre.mk kk I1 H1) 38) (Tre.one _) (by unfold maxLen; omega) (by omega) (by have := N6'.out.size; simp; omega) ?_; intro v7 w7 o7 t7; have Z7 := show Hid _ from GEN.out v7 w7 t7; rw [← HDS.out] at o7; obtain ⟨za, zc, rfl⟩ := ownsRow_form o7; have O7 : Hid (w7.ownsRow w.heap.size 38 34 (.slice za (k + 1 + 1) zc) (k + 1 + 1) (tsc (nds n L x (kk + 1)))) := o7; clear o7 t7)
          obtain ⟨B7, N7, G7⟩ := Z7.out
          have hkk := HKK.out.1
          subst hkk
          have B7' := B7
          rw [HKK.out.2.1, HKK.out.2.2] at B7'
          exact ⟨⟨k + 1, za, zc, by omega, rfl, by go_num, O7.out, B7', G7, N7⟩, by simp [intOf]; omega⟩
        · obtain rfl : k = j := by omega
          have hkn : ¬ (k : Int) < (k : Int) := by omega
          go_wp2
          go_ret
          exact ⟨_, rfl, PO.out, PN.out⟩
end Go.Proofs.YtkjonddlmiedcaaDoor
