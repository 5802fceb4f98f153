/- Nodes built, rows of nodes written out. -/
import Derived.Test.YtkjonddlmiedcaaDoorY9
namespace Go.Proofs.YtkjonddlmiedcaaDoor
open Go.RowKit Go.Shelf
set_option linter.unusedVariables false
set_option linter.unusedSimpArgs false
theorem fill_at : ∀ (l : List Value) (o k : Nat) (Z : Array Value), o + k + l.length ≤ Z.size → (l.zipIdx k).foldl (fun (cs : Array Value) (x : Value × Nat) => cs.setIfInBounds (o + x.2) x.1) Z = (Z.toList.take (o + k) ++ l ++ Z.toList.drop (o + k + l.length)).toArray
  | [], o, k, Z, h => by simp
  | x :: l, o, k, Z, h => by
    simp only [List.length_cons] at h
    rw [List.zipIdx_cons, List.foldl_cons, fill_at l o (k + 1) _ (by simp; omega)]
    apply Array.ext'
    simp only [Array.toList_setIfInBounds]
    rw [← Nat.add_assoc, List.take_add_one, List.take_set_of_le (Nat.le_refl _), List.getElem?_set_self (by simp; omega), List.drop_set_of_lt (by omega)]
    simp [Nat.add_assoc, Nat.add_comm, Nat.add_left_comm]
theorem fill_cons (X : Array Value) (s i : Nat) (Z : Array Value) (hX : X.size = s) (hZ : i * s + s ≤ Z.size) (r : List (Nat × Value)) : Instr.fill (fun i => some (i * s, s)) Z ((i, .agg X) :: r) = Instr.fill (fun i => some (i * s, s)) ((Z.toList.take (i * s) ++ X.toList ++ Z.toList.drop (i * s + s)).toArray) r := by
  rw [Instr.fill]
  have c : ((Value.agg X).cells.size ≠ s || i * s + (Value.agg X).cells.size > Z.size) = false := by simp [Value.cells, hX]; omega
  simp only [c]
  have e1 : X.zipIdx.foldl (fun (cs : Array Value) (x : Value × Nat) => cs.setIfInBounds (i * s + x.2) x.1) Z = (Z.toList.take (i * s) ++ X.toList ++ Z.toList.drop (i * s + s)).toArray := by
    rw [← Array.foldl_toList, Array.toList_zipIdx, fill_at X.toList (i * s) 0 Z (by simp; omega)]
    simp [hX]
  rw [← e1]; rfl
theorem fill2 (X Y : Array Value) (s : Nat) (hX : X.size = s) (hY : Y.size = s) (Z : Array Value) (hZ : Z.size = 2 * s) : Instr.fill (fun i => some (i * s, s)) Z [(0, .agg X), (1, .agg Y)] = some (X ++ Y) := by
  rw [fill_cons X s 0 Z hX (by omega), fill_cons Y s 1 _ hY (by simp; omega), Instr.fill]
  congr 1
  apply Array.ext'
  simp only [Nat.zero_mul, List.take_zero, List.nil_append, Nat.zero_add, Nat.one_mul, Array.toList_append]
  rw [List.take_append_of_le_length (by simp [hX]), List.take_of_length_le (by simp [hX]), List.drop_eq_nil_of_le (by simp; omega)]
  simp
theorem nds2 (W : World) (X Y : Array Value) (hX : X.size = 34) (hY : Y.size = 34) : (Instr.buildSlice 26 2 #[(0, .agg X), (1, .agg Y)]).run Tryd.prog W = .ok (.slice (some ⟨W.heap.size, 0, none⟩) 2 2) (W.alloc (.cells (X ++ Y) 38)) := by
  obtain ⟨i0, hi, hz0, hz1, hz2⟩ := info_parts infoNd
  have hf := fill2 X Y 34 hX hY
  simp only [Instr.buildSlice, Sem.run_bind, run_underlying Tryd.underlying26, Tryd.sizeOf38 W, Result.andThen_ok, Sem.run_pure]
  simp [zeroValue, hi, hz0, typeInfo, hf, newRow]
theorem built_nz (H : List UInt8) (hH : H.length = 32) (W : World) : (Instr.build 38 #[(1, .agg (hbs H))]).run Tryd.prog W = .ok (.agg (Tre.mk 0 0 H).c) W := by
  refine run_build W _ _ _ ?_
  match H, hH with
  | [a0, a1, a2, a3, a4, a5, a6, a7, a8, a9, a10, a11, a12, a13, a14, a15, a16, a17, a18, a19, a20, a21, a22, a23, a24, a25, a26, a27, a28, a29, a30, a31], _ =>
    change _ = _
    kernel_rfl
theorem Nds.one (W : World) (t : Tre) (h : t.H.length = 32) : Nds (W.alloc (.cells t.c 38)) (.slice (some ⟨W.heap.size, 0, none⟩) 1 1) [t] := by
  refine ⟨_, _, rfl, fun k u hk => ⟨W.heap.size, 0, rfl, fun j hj => ?_⟩⟩
  rw [cell_of (heap_new _ _)]
  match k, hk with
  | 0, hk =>
    simp at hk; subst hk
    rw [show 0 + 0 * 34 + j = j by omega]
theorem Nds.two (W : World) (t u : Tre) (h : t.H.length = 32) (h' : u.H.length = 32) : Nds (W.alloc (.cells (t.c ++ u.c) 38)) (.slice (some ⟨W.heap.size, 0, none⟩) 2 2) [t, u] := by
  have s1 := Tre.size h
  refine ⟨_, _, rfl, fun k z hk => ⟨W.heap.size, 0, rfl, fun j hj => ?_⟩⟩
  rw [cell_of (heap_new _ _)]
  match k, hk with
  | 0, hk =>
    simp at hk; subst hk
    rw [show 0 + 0 * 34 + j = j by omega, Array.getElem?_append_left (by omega)]
  | 1, hk =>
    simp at hk; subst hk
    rw [show 0 + 1 * 34 + j = 34 + j by omega, Array.getElem?_append_right (by omega), s1, show 34 + j - 34 = j by omega]
theorem Nds.nw {w w' : World} {v : Value} {l : List Tre} (h : Nds w v l) (hl : ∀ x ∈ l, x.H.length = 32) (n : Nw w w') : Nds w' v l := by
  obtain ⟨ad, cap, rfl, h⟩ := h
  refine ⟨ad, cap, rfl, fun k t ht => ?_⟩
  obtain ⟨g, off, rfl, h1⟩ := h k t ht
  refine ⟨g, off, rfl, fun j hj => ?_⟩
  have h2 := h1 j hj
  obtain ⟨u, hu⟩ : ∃ u, t.c[j]? = some u := ⟨_, Array.getElem?_eq_getElem (by rw [Tre.size (hl t (List.mem_of_getElem? ht))]; exact hj)⟩
  rw [hu] at h2 ⊢
  exact n.cellOf h2
/-- One step where the order is the text's, whatever its guard. -/
theorem wpw_op {w w' : World} {ops : Array Oper} {rest : List Oper} {o : Oper} {a : Act} {Q : Exit → Act → World → Prop} (hwant : Region.wanted o (yielded ops a.tmps) = true) (v : Value) (hr : (execOp a.eval o).run Tryd.prog w = .ok (.value v) w') (h : wpList Tryd.prog ops Q rest (a.put o.dst v) w') : wpList Tryd.prog ops Q (o :: rest) a w := by
  refine wpList_step fun K hK => ?_
  rw [if_pos hwant]
  unfold Oper.wp
  rw [hr]
  exact hK _ _ h
section
variable {w : World} {ops : Array Oper} {rest : List Oper} {o : Oper} {a : Act} {Q : Exit → Act → World → Prop}
theorem wpw_node0 (hwant : Region.wanted o (yielded ops a.tmps) = true) (x : Operand) (ho : o.op = .build 38 #[(1, x)]) (H : List UInt8) (hH : H.length = 32) (hx : a.eval x = .agg (hbs H))
    (h : wpList Tryd.prog ops Q rest (a.put o.dst (.agg (Tre.mk 0 0 H).c)) w) : wpList Tryd.prog ops Q (o :: rest) a w := by
  refine wpw_op hwant _ ?_ h
  unfold execOp
  simp only [ho, List.map_toArray, List.map_cons, List.map_nil, hx, built_nz H hH, Sem.run_bind, Sem.run_pure, Result.andThen_ok]
theorem wpw_node (hwant : Region.wanted o (yielded ops a.tmps) = true) (c x : Operand) (ho : o.op = .build 38 #[(0, c), (1, x)]) (L I : Nat) (H : List UInt8) (hH : H.length = 32) (hc : a.eval c = .agg #[.int .u8 (L : Int), .int .u64 (I : Int)]) (hx : a.eval x = .agg (hbs H))
    (h : wpList Tryd.prog ops Q rest (a.put o.dst (.agg (Tre.mk L I H).c)) w) : wpList Tryd.prog ops Q (o :: rest) a w := by
  refine wpw_op hwant _ ?_ h
  unfold execOp
  simp only [ho, List.map_toArray, List.map_cons, List.map_nil, hc, hx, built_n (Tre.mk L I H) hH, Sem.run_bind, Sem.run_pure, Result.andThen_ok]
theorem wpw_row1 (hwant : Region.wanted o (yielded ops a.tmps) = true) (x : Operand) (ho : o.op = .buildSlice 26 1 #[(0, x)]) (V : Array Value) (hV : V.size = 34) (hx : a.eval x = .agg V)
    (h : wpList Tryd.prog ops Q rest (a.put o.dst (.slice (some ⟨w.heap.size, 0, none⟩) 1 1)) (w.alloc (.cells V 38))) : wpList Tryd.prog ops Q (o :: rest) a w := by
  refine wpw_op hwant _ ?_ h
  unfold execOp
  simp only [ho, List.map_toArray, List.map_cons, List.map_nil, hx, build1n V hV, Sem.run_bind, Sem.run_pure, Result.andThen_ok]
theorem wpw_row2 (hwant : Region.wanted o (yielded ops a.tmps) = true) (x y : Operand) (ho : o.op = .buildSlice 26 2 #[(0, x), (1, y)]) (V U : Array Value) (hV : V.size = 34) (hU : U.size = 34) (hx : a.eval x = .agg V) (hy : a.eval y = .agg U)
    (h : wpList Tryd.prog ops Q rest (a.put o.dst (.slice (some ⟨w.heap.size, 0, none⟩) 2 2)) (w.alloc (.cells (V ++ U) 38))) : wpList Tryd.prog ops Q (o :: rest) a w := by
  refine wpw_op hwant _ ?_ h
  unfold execOp
  simp only [ho, List.map_toArray, List.map_cons, List.map_nil, hx, hy, nds2 _ V U hV hU, Sem.run_bind, Sem.run_pure, Result.andThen_ok]
end
end Go.Proofs.YtkjonddlmiedcaaDoor
