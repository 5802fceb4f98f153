/- compact: what the document says of three leaves. -/
import Derived.Test.YthbimomhbeoieaaDoorX15
namespace Go.Proofs.YthbimomhbeoieaaDoor
open Go.RowKit Go.Shelf
set_option linter.unusedVariables false
set_option linter.unusedSimpArgs false
theorem rappend_k {w : World} {b base : Nat} {v : Value} {B E : Nat} {T : List Tre} (K : Nat) (hK : ∀ g, v.ownBlock = some g → K ≤ g) (hKs : K ≤ w.heap.size) (h : Rg w b base v B E T) (hE : E < 9223372036854775808) (x : List UInt8) (hx : x.length = 32) (hl : T.length ≤ 1000000) (hL : Laid w) :
    Calls Tryd.prog 9 #[.pointer (some ⟨b, 0, none⟩), .agg (hbs x)] w fun e w' => e = .returned .nilIface ∧ ∃ v', Rg w' b base v' B (E + 1) (psh T ⟨0, E, x⟩) ∧ (∀ g, v'.ownBlock = some g → K ≤ g) ∧ Fr (fun k => k = b ∨ K ≤ k) w w' := by
  refine (rappend_yes h hE x hx hl hL).mono ?_
  rintro e w' ⟨rfl, v', R', S', F'⟩
  refine ⟨rfl, v', R', fun g hg => ?_, F'.mono (fun k _ q => ?_)⟩
  · rcases S' with q | ⟨g', q, q2⟩
    · exact hK g (by rw [← q]; exact hg)
    · rw [q] at hg; cases hg; omega
  · rcases q with q | q
    · exact .inl q
    · exact .inr (hK k q)
/-- A hash of one byte and noughts. -/
def h1 (x : UInt8) : List UInt8 := x :: List.replicate 31 0
theorem h1_len (x : UInt8) : (h1 x).length = 32 := by simp [h1]
theorem hbs_h1 (x : UInt8) : hbs (h1 x) = #[.int .u8 (x.toNat : Int), .int .u8 0, .int .u8 0, .int .u8 0, .int .u8 0, .int .u8 0, .int .u8 0, .int .u8 0, .int .u8 0, .int .u8 0, .int .u8 0, .int .u8 0, .int .u8 0, .int .u8 0, .int .u8 0, .int .u8 0, .int .u8 0, .int .u8 0, .int .u8 0, .int .u8 0, .int .u8 0, .int .u8 0, .int .u8 0, .int .u8 0, .int .u8 0, .int .u8 0, .int .u8 0, .int .u8 0, .int .u8 0, .int .u8 0, .int .u8 0, .int .u8 0] := by
  rw [hbs, bc, h1, List.map_cons, List.map_replicate]; rfl
theorem build_l1 (n : Int) (W : World) : (Instr.build 24 #[(0, .int .u8 n)]).run Tryd.prog W = .ok (.agg #[.int .u8 n, .int .u8 0, .int .u8 0, .int .u8 0, .int .u8 0, .int .u8 0, .int .u8 0, .int .u8 0, .int .u8 0, .int .u8 0, .int .u8 0, .int .u8 0, .int .u8 0, .int .u8 0, .int .u8 0, .int .u8 0, .int .u8 0, .int .u8 0, .int .u8 0, .int .u8 0, .int .u8 0, .int .u8 0, .int .u8 0, .int .u8 0, .int .u8 0, .int .u8 0, .int .u8 0, .int .u8 0, .int .u8 0, .int .u8 0, .int .u8 0, .int .u8 0]) W := by kernel_rfl
theorem build_h1 (x : UInt8) (n : Int) (hn : n = (x.toNat : Int)) (W : World) : (Instr.build 24 #[(0, .int .u8 n)]).run Tryd.prog W = .ok (.agg (hbs (h1 x))) W := by
  subst hn
  rw [hbs_h1, build_l1]
section
variable {w : World} {ops : Array Oper} {rest : List Oper} {o : Oper} {a : Act} {Q : Exit → Act → World → Prop}
theorem wpl_build (hgd : o.guard = none) (tt : TypeId) (x : Operand) (ho : o.op = .build tt #[(0, x)]) (v : Value) (hv : a.eval x = v) (V : Array Value) (hb : ∀ W : World, (Instr.build tt #[(0, v)]).run Tryd.prog W = .ok (.agg V) W)
    (h : wpList Tryd.prog ops Q rest (a.put o.dst (.agg V)) w) : wpList Tryd.prog ops Q (o :: rest) a w := by
  refine wpList_plain hgd fun K hK => ?_
  unfold Oper.wp execOp
  simp only [ho, List.map_toArray, List.map_cons, List.map_nil, hv, hb, Sem.run_bind, Sem.run_pure, Result.andThen_ok]
  exact hK _ _ h
end
theorem yields_load_g {P : Program} {ops : Array Oper} {S : World → Prop} {o : Oper} {a : Act} (hw0 : Region.wanted o (yielded ops a.tmps) = true) (x : Operand) (t : TypeId) (n : Nat) (ho : o.op = .load t x) (hagg : ∀ W : World, (isAgg t).run P W = .ok true W) (hsz : ∀ W : World, (sizeOf t).run P W = .ok n W) (g off : Nat) (hx : a.eval x = .pointer (some ⟨g, off, none⟩)) (V : Array Value) (hV : V.size = n)
    (hc : ∀ W, S W → ∀ j, j < n → W.cell? ⟨g, off + j, none⟩ = V[j]?) : YieldsIf P ops S o (.agg V) a := by
  refine .inl ⟨hw0, fun w hw => ?_⟩
  have hl : (loadCells ⟨g, off, none⟩ n).run P w = .ok V w := by
    have := run_loadCells_list (P := P) w ⟨g, off, none⟩ V.toList (fun j v hv => by
      have hj : j < n := by
        have := (List.getElem?_eq_some_iff.1 hv).1
        simpa [hV] using this
      rw [addO, hc w hw j hj]
      simpa using hv)
    simpa [hV] using this
  unfold execOp
  simp only [ho, hx, Instr.loadAt, sure, loadVar, Sem.run_bind, Sem.run_pure, hagg, hsz, hl, Result.andThen_ok, if_true]
theorem yields_eqlh {ops : Array Oper} {S : World → Prop} {o : Oper} {a : Act} (hw0 : Region.wanted o (yielded ops a.tmps) = true) (x y : Operand) (ho : o.op = .binOp .eql 24 x y 24) (A : List UInt8) (hA : A.length = 32) (hx : a.eval x = .agg (hbs A)) (hy : a.eval y = .agg (hbs A)) : YieldsIf Tryd.prog ops S o (.bool true) a := by
  refine .inl ⟨hw0, fun w hw => ?_⟩
  unfold execOp
  simp only [ho, hx, hy, run_eqGuard, hbs_eql A hA w, Sem.run_bind, Sem.run_pure, Result.andThen_ok]
theorem step_build2 {P : Program} {ops : Array Oper} {o : Oper} {a : Act} {w : World} {K : Act → World → Prop} {Q : Exit → Act → World → Prop} {E : Prop} (hw : Region.wanted o (yielded ops a.tmps) = true) (x y : Operand) (ts te : TypeId) (ho : o.op = .buildSlice ts 2 #[(0, x), (1, y)]) (U V : Array Value) (hx : a.eval x = .agg U) (hy : a.eval y = .agg V)
    (hb : ∀ W : World, (Instr.buildSlice ts 2 #[(0, .agg U), (1, .agg V)]).run P W = .ok (.slice (some ⟨W.heap.size, 0, none⟩) 2 2) (W.alloc (.cells (U ++ V) te)))
    (h : K (a.put o.dst (.slice (some ⟨w.heap.size, 0, none⟩) 2 2)) (w.alloc (.cells (U ++ V) te))) : if Region.wanted o (yielded ops a.tmps) = true then Oper.wp P o a w K Q else E := by
  rw [if_pos hw]
  unfold Oper.wp execOp
  simp only [ho, Sem.run_bind, Sem.run_pure, Result.andThen_ok, List.map_toArray, List.map_cons, List.map_nil, hx, hy, hb]
  exact h
theorem psh3 (a b c : List UInt8) : psh (psh (psh [] ⟨0, 0, a⟩) ⟨0, 0 + 1, b⟩) ⟨0, 0 + 1 + 1, c⟩ = [⟨1, 0, nod a b⟩, ⟨0, 2, c⟩] := by
  rw [psh_nil, show ([⟨0, 0, a⟩] : List Tre) = [] ++ [⟨0, 0, a⟩] from rfl, psh_yes (show Sib ⟨0, 0, a⟩ ⟨0, 0 + 1, b⟩ from ⟨(by decide : (0 : Nat) < 63), rfl, (by decide : 0 + 1 = sib 0)⟩), psh_nil]
  rw [show ([both ⟨0, 0, a⟩ ⟨0, 0 + 1, b⟩] : List Tre) = [] ++ [⟨1, 0, nod a b⟩] by simp [both], psh_no (fun q => by have := q.2.1; simp at this)]
  rfl
theorem fill_at : ∀ (l : List Value) (o k : Nat) (Z : Array Value), o + k + l.length ≤ Z.size → (l.zipIdx k).foldl (fun (cs : Array Value) (x : Value × Nat) => cs.setIfInBounds (o + x.2) x.1) Z = (Z.toList.take (o + k) ++ l ++ Z.toList.drop (o + k + l.length)).toArray
  | [], o, k, Z, h => by simp
  | x :: l, o, k, Z, h => by
    simp only [List.length_cons] at h
    rw [List.zipIdx_cons, List.foldl_cons, fill_at l o (k + 1) _ (by simp; omega)]
    apply Array.ext'
    simp only [Array.toList_setIfInBounds]
    rw [← Nat.add_assoc, List.take_add_one, List.take_set_of_le (Nat.le_refl _), List.getElem?_set_self (by simp; omega), List.drop_set_of_lt (by omega)]
    simp [Nat.add_assoc, Nat.add_comm, Nat.add_left_comm]
theorem fill_cons (X : Array Value) (s i : Nat) (Z : Array Value) (hX : X.size = s) (hZ : i * s + s ≤ Z.size) (r : List (Nat × Value)) : Instr.fill (fun i => some (i * s, s)) Z ((i, .agg X) :: r) = Instr.fill (fun i => some (i * s, s)) ((Z.toList.take (i * s) ++ X.toList ++ Z.toList.drop (i * s + s)).toArray) r := by
  rw [Instr.fill]
  have c : ((Value.agg X).cells.size ≠ s || i * s + (Value.agg X).cells.size > Z.size) = false := by simp [Value.cells, hX]; omega
  simp only [c]
  have e1 : X.zipIdx.foldl (fun (cs : Array Value) (x : Value × Nat) => cs.setIfInBounds (i * s + x.2) x.1) Z = (Z.toList.take (i * s) ++ X.toList ++ Z.toList.drop (i * s + s)).toArray := by
    rw [← Array.foldl_toList, Array.toList_zipIdx, fill_at X.toList (i * s) 0 Z (by simp; omega)]
    simp [hX]
  rw [← e1]; rfl
theorem fill2 (X Y : Array Value) (s : Nat) (hX : X.size = s) (hY : Y.size = s) (Z : Array Value) (hZ : Z.size = 2 * s) : Instr.fill (fun i => some (i * s, s)) Z [(0, .agg X), (1, .agg Y)] = some (X ++ Y) := by
  rw [fill_cons X s 0 Z hX (by omega), fill_cons Y s 1 _ hY (by simp; omega), Instr.fill]
  congr 1
  apply Array.ext'
  simp only [Nat.zero_mul, List.take_zero, List.nil_append, Nat.zero_add, Nat.one_mul, Array.toList_append]
  rw [List.take_append_of_le_length (by simp [hX]), List.take_of_length_le (by simp [hX]), List.drop_eq_nil_of_le (by simp; omega)]
  simp
theorem fill1 (X : Array Value) (s : Nat) (hX : X.size = s) (Z : Array Value) (hZ : Z.size = s) : Instr.fill (fun i => some (i * s, s)) Z [(0, .agg X)] = some X := by
  rw [fill_cons X s 0 Z hX (by omega), Instr.fill]
  congr 1
  apply Array.ext'
  simp only [Nat.zero_mul, List.take_zero, List.nil_append, Nat.zero_add]
  rw [List.drop_eq_nil_of_le (by simp; omega)]
  simp
theorem hbs2 (W : World) (X Y : Array Value) (hX : X.size = 32) (hY : Y.size = 32) : (Instr.buildSlice 41 2 #[(0, .agg X), (1, .agg Y)]).run Tryd.prog W = .ok (.slice (some ⟨W.heap.size, 0, none⟩) 2 2) (W.alloc (.cells (X ++ Y) 24)) := by
  obtain ⟨i0, hi, hz0, hz1, hz2⟩ := info_parts infoHs
  have hf := fill2 X Y 32 hX hY
  simp only [Instr.buildSlice, Sem.run_bind, run_underlying Tryd.underlying41, Tryd.sizeOf24 W, Result.andThen_ok, Sem.run_pure]
  simp [zeroValue, hi, hz0, typeInfo, hf, newRow]
theorem hss2 (W : World) (X Y : List UInt8) (hX : X.length = 32) (hY : Y.length = 32) : Hss (W.alloc (.cells (hbs X ++ hbs Y) 24)) (.slice (some ⟨W.heap.size, 0, none⟩) 2 2) [X, Y] := by
  refine ⟨_, _, rfl, fun k h hk => ⟨W.heap.size, 0, rfl, fun j hj => ?_⟩⟩
  rw [cell_of (heap_new _ _)]
  match k, hk with
  | 0, hk =>
    simp at hk; subst hk
    rw [show 0 + 0 * 32 + j = j by omega, Array.getElem?_append_left (by rw [hbs_size, hX]; exact hj)]
  | 1, hk =>
    simp at hk; subst hk
    rw [show 0 + 1 * 32 + j = 32 + j by omega, Array.getElem?_append_right (by rw [hbs_size, hX]; omega), hbs_size, hX, show 32 + j - 32 = j by omega]
set_option maxRecDepth 100000 in
set_option maxHeartbeats 4000000 in
theorem alive9_any (w : World) (hL : Laid w) :
    Calls Tryd.prog 15 #[] w fun e w' => e = .returned (.bool true) ∧ Nw w w' := by
  have HL : Hid (Laid w) := hL
  have q0 := rnew_any 0 (by decide) w hL
  have QE : Hid (∀ V, Nw w V → Calls Tryd.prog 27 #[] V fun e w' => e = .returned (.agg (hbs (Sh []))) ∧ Nw V w') := fun V nV => empty_any V (HL.out.nw nV)
  obtain ⟨Z, hZ⟩ : ∃ Z, Z = Sh [] := ⟨_, rfl⟩
  rw [← hZ] at QE
  have Z32 : Hid (Z.length = 32) := by rw [hZ]; exact Sh_len _
  have hZs : (hbs Z).size = 32 := by rw [hbs_size, Z32.out]
  have HZ : Hid (Z = Sh []) := hZ
  obtain ⟨A, hA⟩ : ∃ A, A = h1 1 := ⟨_, rfl⟩
  obtain ⟨B, hB⟩ : ∃ B, B = h1 2 := ⟨_, rfl⟩
  obtain ⟨C, hC⟩ : ∃ C, C = h1 3 := ⟨_, rfl⟩
  have A32 : Hid (A.length = 32) := by rw [hA]; exact h1_len _
  have B32 : Hid (B.length = 32) := by rw [hB]; exact h1_len _
  have C32 : Hid (C.length = 32) := by rw [hC]; exact h1_len _
  have bA : Hid (∀ W : World, (Instr.build 24 #[(0, .int .u8 1)]).run Tryd.prog W = .ok (.agg (hbs A)) W) := by rw [hA]; exact build_h1 1 1 rfl
  have bB : Hid (∀ W : World, (Instr.build 24 #[(0, .int .u8 2)]).run Tryd.prog W = .ok (.agg (hbs B)) W) := by rw [hB]; exact build_h1 2 2 rfl
  have bC : Hid (∀ W : World, (Instr.build 24 #[(0, .int .u8 3)]).run Tryd.prog W = .ok (.agg (hbs C)) W) := by rw [hC]; exact build_h1 3 3 rfl
  have hAs : (hbs A).size = 32 := by rw [hbs_size, A32.out]
  have hBs : (hbs B).size = 32 := by rw [hbs_size, B32.out]
  have hCs : (hbs C).size = 32 := by rw [hbs_size, C32.out]
  clear hL hZ hA hB hC
  go_enter Tryd.func15, Tryd.ntmps15
  go_wp2_with fail
  refine q0.mono ?_
  rintro e w1 ⟨rfl, g1, s1, n1⟩
  clear q0
  obtain ⟨rb, hrb⟩ : ∃ rb, rb = w.heap.size := ⟨_, rfl⟩
  rw [← hrb] at g1 s1 ⊢
  have HRB : Hid (rb = w.heap.size) := hrb
  have S1 : Hid (w1.heap.size = rb + 1) := s1
  have G1 : Hid (Rg w1 rb (rb + 1) (.slice none 0 0) 0 0 []) := g1
  have N1 : Hid (Nw w w1) := n1
  clear hrb s1 g1 n1
  have q1 := rroot_empty G1.out (HL.out.nw N1.out)
  rw [← HZ.out] at q1
  go_wp2_with fail
  refine q1.mono ?_
  rintro e w2 ⟨rfl, n2⟩
  have N2 : Hid (Nw w1 w2) := n2
  clear n2 q1
  go_wp2_with (refine wp_store_agg rfl (.tmp 2) (.tmp 14) 24 32 rfl Tryd.sizeOf24 w2.heap.size 0 rfl _ 24 (heap_new _ _) (hbs Z) rfl hZs (hbs_one _) (by decide) (hbs Z) (by simp) ?_; intro w3 j3 f3 zz; clear zz; have N3 : Hid (Nw w1 w3) := (N2.out.alloc _).trans f3 (fun k hk q => by have := N2.out.size; omega); have J3 : Hid (w3.heap[w2.heap.size]? = some (.cells (hbs Z) 24 (0, 0))) := j3; clear j3 f3)
  obtain ⟨b2, hb2⟩ : ∃ b2, b2 = w2.heap.size := ⟨_, rfl⟩
  rw [← hb2] at J3 ⊢
  have HB2 : Hid (rb < b2) := by show rb < b2; have := N2.out.size; have := S1.out; omega
  clear hb2
  have N3w : Hid (Nw w w3) := N1.out.tr N3.out
  (refine wp_region_grown (by kernel_rfl) (by kernel_rfl) ?_; (repeat (first | go_big_quiet_skip | (go_big_quiet_want; first | (refine quiet_load (.tmp 2) rfl b2 0 rfl Z Z32.out (hash_cells J3.out) ?_; ((try simp only [Act.put, List.setIfInBounds_toArray, List.set_cons_zero, List.set_cons_succ]); go_big_quiet_on)) | (refine quiet_neq (.tmp 19) (.tmp 20) rfl Z Z32.out rfl rfl ?_; ((try simp only [Act.put, List.setIfInBounds_toArray, List.set_cons_zero, List.set_cons_succ]); go_big_quiet_on)) | (go_big_quiet_op; first | go_big_quiet_on | go_big_quiet_call (first | rfl | with_reducible exact grw_call QE.out N3w.out _))))); refine wpQuiet_nil ?_; rintro W ⟨⟨_, nW⟩, rfl⟩)
  have N4 : Hid (Nw w1 W) := N3.out.tr nW
  have J4 : Hid (W.heap[b2]? = some (.cells (hbs Z) 24)) := (nW.block _ (heap_lt J3.out) (fun f => f)).trans J3.out
  clear nW J3 N3 N3w N2
  go_wp2_with first
    | refine wpl_build rfl 24 (.const (.int .u8 1)) rfl (.int .u8 1) rfl (hbs A) bA.out ?_
    | refine wpl_build rfl 24 (.const (.int .u8 2)) rfl (.int .u8 2) rfl (hbs B) bB.out ?_
    | refine wpl_build rfl 24 (.const (.int .u8 3)) rfl (.int .u8 3) rfl (hbs C) bC.out ?_
    | (refine wp_store_agg rfl (.tmp 4) (.tmp 23) 24 32 rfl Tryd.sizeOf24 W.heap.size 0 rfl _ 24 (heap_new _ _) (hbs A) rfl hAs (hbs_one _) (by decide) (hbs A) (by simp) ?_; intro w4 j4 f4 zz; clear zz; have N5 : Hid (Nw w1 w4) := (N4.out.alloc _).trans f4 (fun k hk q => by have := N4.out.size; omega); have NA : Hid (Nw W w4) := (nwa W _).trans f4 (fun k hk q => by omega); have JA : Hid (w4.heap[W.heap.size]? = some (.cells (hbs A) 24 (0, 0))) := j4; clear j4 f4)
    | (refine wp_store_agg rfl (.tmp 5) (.tmp 24) 24 32 rfl Tryd.sizeOf24 w4.heap.size 0 rfl _ 24 (heap_new _ _) (hbs B) rfl hBs (hbs_one _) (by decide) (hbs B) (by simp) ?_; intro w5 j5 f5 zz; clear zz; have N6 : Hid (Nw w1 w5) := (N5.out.alloc _).trans f5 (fun k hk q => by have := N5.out.size; omega); have NB : Hid (Nw w4 w5) := (nwa w4 _).trans f5 (fun k hk q => by omega); have JB : Hid (w5.heap[w4.heap.size]? = some (.cells (hbs B) 24 (0, 0))) := j5; clear j5 f5)
    | (refine wp_store_agg rfl (.tmp 6) (.tmp 25) 24 32 rfl Tryd.sizeOf24 w5.heap.size 0 rfl _ 24 (heap_new _ _) (hbs C) rfl hCs (hbs_one _) (by decide) (hbs C) (by simp) ?_; intro w6 j6 f6 zz; clear zz; have N7 : Hid (Nw w1 w6) := (N6.out.alloc _).trans f6 (fun k hk q => by have := N6.out.size; omega); have NC : Hid (Nw w5 w6) := (nwa w5 _).trans f6 (fun k hk q => by omega); have JC : Hid (w6.heap[w5.heap.size]? = some (.cells (hbs C) 24 (0, 0))) := j6; clear j6 f6)
    | refine wpl_load_at rfl (.tmp 4) 24 32 rfl Tryd.isAgg24 Tryd.sizeOf24 W.heap.size 0 rfl (hbs A) hAs (hash_cells ((((NB.out.tr NC.out).block _ (heap_lt JA.out) (fun f => f)).trans JA.out))) ?_
  have JA6 : Hid (w6.heap[W.heap.size]? = some (.cells (hbs A) 24)) := ((NB.out.tr NC.out).block _ (heap_lt JA.out) (fun f => f)).trans JA.out
  have JB6 : Hid (w6.heap[w4.heap.size]? = some (.cells (hbs B) 24)) := (NC.out.block _ (heap_lt JB.out) (fun f => f)).trans JB.out
  have JZ6 : Hid (w6.heap[b2]? = some (.cells (hbs Z) 24)) := (((NA.out.tr NB.out).tr NC.out).block _ (heap_lt J4.out) (fun f => f)).trans J4.out
  obtain ⟨ba, hba⟩ : ∃ q, q = W.heap.size := ⟨_, rfl⟩
  obtain ⟨bb, hbb⟩ : ∃ q, q = w4.heap.size := ⟨_, rfl⟩
  obtain ⟨bc, hbc⟩ : ∃ q, q = w5.heap.size := ⟨_, rfl⟩
  rw [← hba] at JA6
  rw [← hbb] at JB6
  rw [← hbc] at JC
  rw [← hba, ← hbb, ← hbc]
  have HLT : Hid (rb < b2 ∧ b2 < ba ∧ ba < bb ∧ bb < bc ∧ bc < w6.heap.size) := by
    have := heap_lt J4.out; have := heap_lt JA.out; have := heap_lt JB.out; have := heap_lt JC.out; have := HB2.out
    exact ⟨by omega, by omega, by omega, by omega, by omega⟩
  have HNE : Hid (rb ≠ ba ∧ rb ≠ bb ∧ rb ≠ bc ∧ rb ≠ b2) := by
    have := HLT.out
    exact ⟨by omega, by omega, by omega, by omega⟩
  clear hba hbb hbc NA NB NC JA JB J4 N4 N5 N6
  have G6 := G1.out.nw N7.out
  have L6 := HL.out.nw (N1.out.tr N7.out)
  obtain ⟨K6, hK6⟩ : ∃ K, K = w6.heap.size := ⟨_, rfl⟩
  have q7 := rappend_k K6 (by simp [Value.ownBlock]) (by omega) G6 (by decide) A A32.out (by simp) L6
  have HL6 : Hid (Laid w6) := L6
  have HK6 : Hid (K6 = w6.heap.size) := hK6
  have KB : Hid (∀ {V : World} {b : Nat} {X : Array Value}, w6.heap[b]? = some (.cells X 24) → rb ≠ b → Fr (fun k => k = rb ∨ K6 ≤ k) w6 V → V.heap[b]? = some (.cells X 24)) := fun h1 h2 f => (f.block _ (heap_lt h1) (fun q => by have := HK6.out; have := heap_lt h1; rcases q with q | q <;> omega)).trans h1
  have KL : Hid (∀ {V : World}, Fr (fun k => k = rb ∨ K6 ≤ k) w6 V → Laid V) := fun f => HL6.out.frr f (fun j hj q => by have := HK6.out; have := HL6.out.lt; have := G1.out.nb.1; rcases q with q | q <;> omega)
  clear hK6 G6 L6
  refine q7.mono ?_
  rintro e w7 ⟨rfl, v7, R7, O7, F7⟩
  clear q7
  have JB7 : Hid (w7.heap[bb]? = some (.cells (hbs B) 24)) := KB.out JB6.out HNE.out.2.1 F7
  have q8 := rappend_k K6 O7 (by have := F7.size; have := HK6.out; omega) R7 (by decide) B B32.out (by rw [psh_nil]; simp) (KL.out F7)
  have F7' : Hid (Fr (fun k => k = rb ∨ K6 ≤ k) w6 w7) := F7
  clear R7 O7 F7
  go_wp2_with (refine wpl_load rfl (.tmp 5) rfl bb 0 rfl B B32.out (hash_cells JB7.out) ?_)
  refine q8.mono ?_
  rintro e w8 ⟨rfl, v8, R8, O8, F8⟩
  clear q8
  have F8' : Hid (Fr (fun k => k = rb ∨ K6 ≤ k) w6 w8) := F7'.out.trans F8 (fun _ _ e => e)
  have JC8 : Hid (w8.heap[bc]? = some (.cells (hbs C) 24)) := KB.out JC.out HNE.out.2.2.1 F8'.out
  have q9 := rappend_k K6 O8 (by have := F8'.out.size; have := HK6.out; omega) R8 (by decide) C C32.out (by rw [psh_nil]; exact Nat.le_trans (psh_len _ _) (by simp)) (KL.out F8'.out)
  clear R8 O8 F8
  go_wp2_with (refine wpl_load rfl (.tmp 6) rfl bc 0 rfl C C32.out (hash_cells JC8.out) ?_)
  refine q9.mono ?_
  rintro e w9 ⟨rfl, v9, R9, O9, F9⟩
  clear q9
  rw [psh3] at R9
  have F9' : Hid (Fr (fun k => k = rb ∨ K6 ≤ k) w6 w9) := F8'.out.trans F9 (fun _ _ e => e)
  have R9' : Hid (Rg w9 rb (rb + 1) v9 0 (0 + 1 + 1 + 1) [⟨1, 0, nod A B⟩, ⟨0, 2, C⟩]) := R9
  have q10 := rroot_some R9 (by simp) (by simp) (KL.out F9'.out)
  have O9' : Hid (∀ g, v9.ownBlock = some g → K6 ≤ g) := O9
  clear R9 O9 F9 F7' F8' JB7 JC8
  obtain ⟨X, hX⟩ : ∃ X, X = nod A B := ⟨_, rfl⟩
  obtain ⟨Y, hY⟩ : ∃ Y, Y = nod X C := ⟨_, rfl⟩
  rw [show hss [⟨1, 0, nod A B⟩, ⟨0, 2, C⟩] = [X, C] by rw [hX]; rfl, show fldr [X, C] = Y by rw [hY]; rfl] at q10
  rw [← hX] at R9'
  have X32 : Hid (X.length = 32) := by rw [hX]; exact nod32 _ _
  have Y32 : Hid (Y.length = 32) := by rw [hY]; exact nod32 _ _
  have hYs : (hbs Y).size = 32 := by rw [hbs_size, Y32.out]
  have hXs : (hbs X).size = 32 := by rw [hbs_size, X32.out]
  have JA9 : Hid (w9.heap[ba]? = some (.cells (hbs A) 24)) := KB.out JA6.out HNE.out.1 F9'.out
  have JB9 : Hid (w9.heap[bb]? = some (.cells (hbs B) 24)) := KB.out JB6.out HNE.out.2.1 F9'.out
  have JC9 : Hid (w9.heap[bc]? = some (.cells (hbs C) 24)) := KB.out JC.out HNE.out.2.2.1 F9'.out
  have JZ9 : Hid (w9.heap[b2]? = some (.cells (hbs Z) 24)) := KB.out JZ6.out HNE.out.2.2.2 F9'.out
  have N9 : Hid (Nw w w9) := (N1.out.tr N7.out).trans F9'.out (fun k hk q => by have := HRB.out; have := HK6.out; have := (N1.out.tr N7.out).size; rcases q with q | q <;> omega)
  have HX : Hid (X = nod A B) := hX
  have HY : Hid (Y = nod X C) := hY
  have P2 : Hid (∀ x ∈ [X, C], x.length = 32) := by intro x hx; simp only [List.mem_cons, List.not_mem_nil, or_false] at hx; rcases hx with rfl | rfl; exact X32.out; exact C32.out
  have hne0 : ∀ W : World, (binOp .eql 34 .nilIface .nilIface).run Tryd.prog W = .ok (.bool true) W := fun W => by kernel_rfl
  clear hX hY JA6 JB6 JC JZ6 N7 G1 HL6 S1 KB QE HZ
  go_wp2_with fail
  refine q10.mono ?_
  rintro e wa ⟨rfl, na⟩
  clear q10
  have JZa : Hid (wa.heap[b2]? = some (.cells (hbs Z) 24)) := (na.block _ (heap_lt JZ9.out) (fun f => f)).trans JZ9.out
  have NAa : Hid (Nw w9 wa) := na
  clear na
  go_wp2_with (refine wp_store_agg rfl (.tmp 2) (.tmp 45) 24 32 rfl Tryd.sizeOf24 b2 0 rfl (hbs Z) 24 JZa.out (hbs Y) rfl hYs (hbs_one _) (Nat.le_of_eq hZs.symm) (hbs Y) (by rw [dropAll hZs]; simp) ?_; intro wb jb fb zb; clear zb)
  have NWb : Hid (Nw w wb) := (N9.out.tr NAa.out).trans fb (fun k hk q => by have := HLT.out; have := HRB.out; omega)
  have Rb : Hid (Rg wb rb (rb + 1) v9 0 (0 + 1 + 1 + 1) [⟨1, 0, X⟩, ⟨0, 2, C⟩]) := (R9'.out.nw NAa.out).fr fb (fun q => by have := HLT.out; omega) (fun g hg q => by have := O9'.out g hg; have := HLT.out; have := HK6.out; omega)
  have kb : ∀ b U, b2 < b → w9.heap[b]? = some (.cells U 24) → wb.heap[b]? = some (.cells U 24) := fun b U hlt h => (fb.block b (Nat.lt_of_lt_of_le (heap_lt h) NAa.out.size) (fun q => by omega)).trans ((NAa.out.block _ (heap_lt h) (fun f => f)).trans h)
  have JAb : Hid (wb.heap[ba]? = some (.cells (hbs A) 24)) := kb _ _ (by have := HLT.out; omega) JA9.out
  have JBb : Hid (wb.heap[bb]? = some (.cells (hbs B) 24)) := kb _ _ (by have := HLT.out; omega) JB9.out
  have JCb : Hid (wb.heap[bc]? = some (.cells (hbs C) 24)) := kb _ _ (by have := HLT.out; omega) JC9.out
  have JYb : Hid (wb.heap[b2]? = some (.cells (hbs Y) 24)) := jb
  have LW : Hid (∀ V, Nw wb V → Laid V) := fun V nV => HL.out.nw (NWb.out.tr nV)
  have QN1 : Hid (∀ V, Nw wb V → Calls Tryd.prog 29 #[.agg (hbs A), .agg (hbs B)] V fun e w' => e = .returned (.agg (hbs X)) ∧ Nw V w') := fun V nV => by rw [HX.out]; exact node_any A B A32.out B32.out V (LW.out V nV)
  have QN2 : Hid (∀ V, Nw wb V → Calls Tryd.prog 29 #[.agg (hbs X), .agg (hbs C)] V fun e w' => e = .returned (.agg (hbs Y)) ∧ Nw V w') := fun V nV => by rw [HY.out]; exact node_any X C X32.out C32.out V (LW.out V nV)
  have QS : Hid (∀ V, Nw wb V → Calls Tryd.prog 13 #[.pointer (some ⟨rb, 0, none⟩)] V fun e w' => e = .returned (.agg #[.int .u64 0, .int .u64 3]) ∧ Nw V w') := fun V nV => rspan_any (Rb.out.nw nV)
  have q11 := rhashes_any Rb.out (by simp)
  clear JA9 JB9 JC9 JZ9 JZa NAa kb jb fb R9' O9' F9' KL HX HY
  refine q11.mono ?_
  rintro e wc ⟨hv, rfl, oc, nc⟩
  clear q11
  have HC : Hid (Hss wc hv [X, C]) := Hss.of (by intro x hx; simp only [List.mem_cons, List.not_mem_nil, or_false] at hx; rcases hx with rfl | rfl; exact X32.out; exact C32.out) oc
  obtain ⟨hva, hvc, rfl⟩ := HC.out.form
  have NC : Hid (Nw wb wc) := nc
  have KP : Hid (∀ V, Nw wc V → V.heap[b2]? = some (.cells (hbs Y) 24) ∧ V.heap[ba]? = some (.cells (hbs A) 24) ∧ V.heap[bb]? = some (.cells (hbs B) 24) ∧ V.heap[bc]? = some (.cells (hbs C) 24)) := fun V nV =>
    ⟨((NC.out.tr nV).block _ (heap_lt JYb.out) (fun f => f)).trans JYb.out, ((NC.out.tr nV).block _ (heap_lt JAb.out) (fun f => f)).trans JAb.out, ((NC.out.tr nV).block _ (heap_lt JBb.out) (fun f => f)).trans JBb.out, ((NC.out.tr nV).block _ (heap_lt JCb.out) (fun f => f)).trans JCb.out⟩
  clear oc nc
  rw [show [X, C].length = 2 from rfl] at *
  go_upto_region 14 with fail
  have nb : Nw wc wc.drew := (Fr.refl _ _).drew
  refine wp_region_held_drew (S := fun V => V.heap[b2]? = some (.cells (hbs Y) 24) ∧ V.heap[ba]? = some (.cells (hbs A) 24) ∧ V.heap[bb]? = some (.cells (hbs B) 24) ∧ V.heap[bc]? = some (.cells (hbs C) 24)) (by kernel_rfl) (KP.out _ nb) ?_
  intro hS0
  refine wpAnyH_take (i := 0) (v := .nilIface) rfl (by kernel_rfl) (by kernel_rfl) (by kernel_rfl) (fun _ _ _ h => h) (Or.inl ⟨by rfl, by intro w hw; go_simp⟩) hS0 ?_
  try simp only [Act.put, List.setIfInBounds_toArray, List.set_cons_zero, List.set_cons_succ]
  refine wpAnyH_take (i := 1) (v := .bool true) rfl (by kernel_rfl) (by kernel_rfl) (by kernel_rfl) (fun _ _ _ h => h) (Or.inl ⟨by rfl, by intro w hw; have he := hne0 w; go_simp⟩) hS0 ?_
  try simp only [Act.put, List.setIfInBounds_toArray, List.set_cons_zero, List.set_cons_succ]
  refine wpAnyH_take (i := 2) (v := .bool true) rfl (by kernel_rfl) (by kernel_rfl) (by kernel_rfl) (fun _ _ _ h => h) (Or.inl ⟨by rfl, by intro w hw; go_simp⟩) hS0 ?_
  try simp only [Act.put, List.setIfInBounds_toArray, List.set_cons_zero, List.set_cons_succ]
  refine wpAnyH_take (i := 3) (v := .pointer (some ⟨rb, 0, none⟩)) rfl (by kernel_rfl) (by kernel_rfl) (by kernel_rfl) (fun _ _ _ h => h) (Or.inl ⟨by rfl, by intro w hw; go_simp⟩) hS0 ?_
  try simp only [Act.put, List.setIfInBounds_toArray, List.set_cons_zero, List.set_cons_succ]
  refine wpAnyH_take (i := 5) (v := .agg #[.int .u64 0, .int .u64 3]) rfl (by kernel_rfl) (by kernel_rfl) (by kernel_rfl) (fun _ _ _ h => h) (Or.inl ⟨by rfl, by intro w hw; go_simp⟩) hS0 ?_
  try simp only [Act.put, List.setIfInBounds_toArray, List.set_cons_zero, List.set_cons_succ]
  refine wpAnyH_ready (rs := [4]) (by kernel_rfl) (by simp) ?_
  refine AllReadyH.cons rfl (fun K' hK => ?_) AllReadyH.nil
  go_simp
  go_wp2_with (go_at_call 13; refine (QS.out _ (NC.out.tr nb)).mono ?_; rintro ewd wd ⟨rfl, mwd⟩)
  have nwd : Nw wc wd := nb.tr mwd
  refine hK.out _ _ (KP.out _ (nwd)) (fun hS0 => ?_)
  try simp only [Act.put, List.setIfInBounds_toArray, List.set_cons_zero, List.set_cons_succ]
  refine wpAnyH_take (i := 6) (v := .bool true) rfl (by kernel_rfl) (by kernel_rfl) (by kernel_rfl) (fun _ _ _ h => h) (Or.inl ⟨by rfl, by intro w hw; go_simp⟩) hS0 ?_
  try simp only [Act.put, List.setIfInBounds_toArray, List.set_cons_zero, List.set_cons_succ]
  refine wpAnyH_take (i := 7) (v := .bool true) rfl (by kernel_rfl) (by kernel_rfl) (by kernel_rfl) (fun _ _ _ h => h) (Or.inl ⟨by rfl, by intro w hw; go_simp⟩) hS0 ?_
  try simp only [Act.put, List.setIfInBounds_toArray, List.set_cons_zero, List.set_cons_succ]
  refine wpAnyH_take (i := 8) (v := .bool true) rfl (by kernel_rfl) (by kernel_rfl) (by kernel_rfl) (fun _ _ _ h => h) (Or.inl ⟨by rfl, by intro w hw; go_simp⟩) hS0 ?_
  try simp only [Act.put, List.setIfInBounds_toArray, List.set_cons_zero, List.set_cons_succ]
  refine wpAnyH_take (i := 9) (v := .slice hva 2 hvc) rfl (by kernel_rfl) (by kernel_rfl) (by kernel_rfl) (fun _ _ _ h => h) (Or.inl ⟨by rfl, by intro w hw; go_simp⟩) hS0 ?_
  try simp only [Act.put, List.setIfInBounds_toArray, List.set_cons_zero, List.set_cons_succ]
  refine wpAnyH_take (i := 10) (v := .agg (hbs A)) rfl (by kernel_rfl) (by kernel_rfl) (by kernel_rfl) (fun _ _ _ h => h) (yields_load_g (by kernel_rfl) (.tmp 4) 24 32 rfl Tryd.isAgg24 Tryd.sizeOf24 ba 0 (by kernel_rfl) (hbs A) hAs (fun V hV => hash_cells hV.2.1)) hS0 ?_
  try simp only [Act.put, List.setIfInBounds_toArray, List.set_cons_zero, List.set_cons_succ]
  refine wpAnyH_take (i := 11) (v := .agg (hbs B)) rfl (by kernel_rfl) (by kernel_rfl) (by kernel_rfl) (fun _ _ _ h => h) (yields_load_g (by kernel_rfl) (.tmp 5) 24 32 rfl Tryd.isAgg24 Tryd.sizeOf24 bb 0 (by kernel_rfl) (hbs B) hBs (fun V hV => hash_cells hV.2.2.1)) hS0 ?_
  try simp only [Act.put, List.setIfInBounds_toArray, List.set_cons_zero, List.set_cons_succ]
  refine wpAnyH_take (i := 13) (v := .agg (hbs C)) rfl (by kernel_rfl) (by kernel_rfl) (by kernel_rfl) (fun _ _ _ h => h) (yields_load_g (by kernel_rfl) (.tmp 6) 24 32 rfl Tryd.isAgg24 Tryd.sizeOf24 bc 0 (by kernel_rfl) (hbs C) hCs (fun V hV => hash_cells hV.2.2.2)) hS0 ?_
  try simp only [Act.put, List.setIfInBounds_toArray, List.set_cons_zero, List.set_cons_succ]
  refine wpAnyH_ready (rs := [12]) (by kernel_rfl) (by simp) ?_
  refine AllReadyH.cons rfl (fun K' hK => ?_) AllReadyH.nil
  go_simp
  go_wp2_with (go_at_call 29; refine (QN1.out _ (NC.out.tr nwd)).mono ?_; rintro ewe we ⟨rfl, mwe⟩)
  have nwe : Nw wc we := nwd.tr mwe
  refine hK.out _ _ (KP.out _ (nwe)) (fun hS0 => ?_)
  try simp only [Act.put, List.setIfInBounds_toArray, List.set_cons_zero, List.set_cons_succ]
  refine wpAnyH_ready (rs := [14]) (by kernel_rfl) (by simp) ?_
  refine AllReadyH.cons rfl (fun K' hK => ?_) AllReadyH.nil
  show if Region.wanted (Oper.mk _ _ _ _ _ _) _ = true then _ else _
  refine step_build2 (by kernel_rfl) (.tmp 61) (.tmp 62) 41 24 rfl (hbs X) (hbs C) (by kernel_rfl) (by kernel_rfl) (fun W => hbs2 W (hbs X) (hbs C) hXs hCs) ?_
  have hwf := hss2 we X C X32.out C32.out
  obtain ⟨wf, hwfe⟩ : ∃ q, we.alloc (.cells (hbs X ++ hbs C) 24) = q := ⟨_, rfl⟩
  have nwf : Nw wc wf := by rw [← hwfe]; exact nwe.alloc _
  rw [hwfe] at hwf ⊢
  clear hwfe
  have QH : Calls Tryd.prog 22 #[.slice hva 2 hvc, .slice (some ⟨we.heap.size, 0, none⟩) 2 2] wf fun e w' => e = .returned (.bool true) ∧ Nw wf w' := (sameh_yes _ _ [X, C] P2.out wf (HC.out.nw P2.out nwf) hwf (by simp)).mono (fun e w' q => by first | exact ⟨q.1, by rw [q.2]; exact nwr _⟩ | exact q)
  refine hK.out _ _ (KP.out _ (nwf)) (fun hS0 => ?_)
  try simp only [Act.put, List.setIfInBounds_toArray, List.set_cons_zero, List.set_cons_succ]
  refine wpAnyH_ready (rs := [15]) (by kernel_rfl) (by simp) ?_
  refine AllReadyH.cons rfl (fun K' hK => ?_) AllReadyH.nil
  go_simp
  go_wp2_with (go_at_call 22; refine (QH).mono ?_; rintro ewg wg ⟨rfl, mwg⟩)
  have nwg : Nw wc wg := nwf.tr mwg
  refine hK.out _ _ (KP.out _ (nwg)) (fun hS0 => ?_)
  try simp only [Act.put, List.setIfInBounds_toArray, List.set_cons_zero, List.set_cons_succ]
  refine wpAnyH_take (i := 16) (v := .bool true) rfl (by kernel_rfl) (by kernel_rfl) (by kernel_rfl) (fun _ _ _ h => h) (Or.inl ⟨by rfl, by intro w hw; go_simp⟩) hS0 ?_
  try simp only [Act.put, List.setIfInBounds_toArray, List.set_cons_zero, List.set_cons_succ]
  refine wpAnyH_take (i := 17) (v := .bool true) rfl (by kernel_rfl) (by kernel_rfl) (by kernel_rfl) (fun _ _ _ h => h) (Or.inl ⟨by rfl, by intro w hw; go_simp⟩) hS0 ?_
  try simp only [Act.put, List.setIfInBounds_toArray, List.set_cons_zero, List.set_cons_succ]
  refine wpAnyH_take (i := 18) (v := .agg (hbs Y)) rfl (by kernel_rfl) (by kernel_rfl) (by kernel_rfl) (fun _ _ _ h => h) (yields_load_g (by kernel_rfl) (.tmp 2) 24 32 rfl Tryd.isAgg24 Tryd.sizeOf24 b2 0 (by kernel_rfl) (hbs Y) hYs (fun V hV => hash_cells hV.1)) hS0 ?_
  try simp only [Act.put, List.setIfInBounds_toArray, List.set_cons_zero, List.set_cons_succ]
  refine wpAnyH_take (i := 19) (v := .agg (hbs A)) rfl (by kernel_rfl) (by kernel_rfl) (by kernel_rfl) (fun _ _ _ h => h) (yields_load_g (by kernel_rfl) (.tmp 4) 24 32 rfl Tryd.isAgg24 Tryd.sizeOf24 ba 0 (by kernel_rfl) (hbs A) hAs (fun V hV => hash_cells hV.2.1)) hS0 ?_
  try simp only [Act.put, List.setIfInBounds_toArray, List.set_cons_zero, List.set_cons_succ]
  refine wpAnyH_take (i := 20) (v := .agg (hbs B)) rfl (by kernel_rfl) (by kernel_rfl) (by kernel_rfl) (fun _ _ _ h => h) (yields_load_g (by kernel_rfl) (.tmp 5) 24 32 rfl Tryd.isAgg24 Tryd.sizeOf24 bb 0 (by kernel_rfl) (hbs B) hBs (fun V hV => hash_cells hV.2.2.1)) hS0 ?_
  try simp only [Act.put, List.setIfInBounds_toArray, List.set_cons_zero, List.set_cons_succ]
  refine wpAnyH_take (i := 22) (v := .agg (hbs C)) rfl (by kernel_rfl) (by kernel_rfl) (by kernel_rfl) (fun _ _ _ h => h) (yields_load_g (by kernel_rfl) (.tmp 6) 24 32 rfl Tryd.isAgg24 Tryd.sizeOf24 bc 0 (by kernel_rfl) (hbs C) hCs (fun V hV => hash_cells hV.2.2.2)) hS0 ?_
  try simp only [Act.put, List.setIfInBounds_toArray, List.set_cons_zero, List.set_cons_succ]
  refine wpAnyH_ready (rs := [21]) (by kernel_rfl) (by simp) ?_
  refine AllReadyH.cons rfl (fun K' hK => ?_) AllReadyH.nil
  go_simp
  go_wp2_with (go_at_call 29; refine (QN1.out _ (NC.out.tr nwg)).mono ?_; rintro ewh wh ⟨rfl, mwh⟩)
  have nwh : Nw wc wh := nwg.tr mwh
  refine hK.out _ _ (KP.out _ (nwh)) (fun hS0 => ?_)
  try simp only [Act.put, List.setIfInBounds_toArray, List.set_cons_zero, List.set_cons_succ]
  refine wpAnyH_ready (rs := [23]) (by kernel_rfl) (by simp) ?_
  refine AllReadyH.cons rfl (fun K' hK => ?_) AllReadyH.nil
  go_simp
  go_wp2_with (go_at_call 29; refine (QN2.out _ (NC.out.tr nwh)).mono ?_; rintro ewi wi ⟨rfl, mwi⟩)
  have nwi : Nw wc wi := nwh.tr mwi
  refine hK.out _ _ (KP.out _ (nwi)) (fun hS0 => ?_)
  try simp only [Act.put, List.setIfInBounds_toArray, List.set_cons_zero, List.set_cons_succ]
  refine wpAnyH_take (i := 24) (v := .bool true) rfl (by kernel_rfl) (by kernel_rfl) (by kernel_rfl) (fun _ _ _ h => h) (yields_eqlh (by kernel_rfl) (.tmp 67) (.tmp 72) rfl Y Y32.out (by kernel_rfl) (by kernel_rfl)) hS0 ?_
  try simp only [Act.put, List.setIfInBounds_toArray, List.set_cons_zero, List.set_cons_succ]
  refine wpAnyH_take (i := 25) (v := .bool true) rfl (by kernel_rfl) (by kernel_rfl) (by kernel_rfl) (fun _ _ _ h => h) (Or.inl ⟨by rfl, by intro w hw; go_simp⟩) hS0 ?_
  try simp only [Act.put, List.setIfInBounds_toArray, List.set_cons_zero, List.set_cons_succ]
  refine wpAnyH_ready (rs := [26]) (by kernel_rfl) (by simp) ?_
  refine AllReadyH.cons rfl (fun K' hK => ?_) AllReadyH.nil
  go_simp
  refine hK.out _ _ (KP.out _ (nwi)) (fun hS0 => ?_)
  try simp only [Act.put, List.setIfInBounds_toArray, List.set_cons_zero, List.set_cons_succ]
  refine wpAnyH_done (by kernel_rfl) ?_ _
  go_wp2
  go_ret
  exact ⟨rfl, NWb.out.tr (NC.out.tr nwi)⟩
end Go.Proofs.YthbimomhbeoieaaDoor
