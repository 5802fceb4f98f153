/- emit: Add. -/
import Derived.Test.YtkjonddlmiedcaaDoorY4
namespace Go.Proofs.YtkjonddlmiedcaaDoor
open Go.RowKit Go.Shelf
set_option linter.unusedVariables false
set_option linter.unusedSimpArgs false
theorem hsc_takee : ∀ (l : List (List UInt8)), (∀ x ∈ l, x.length = 32) → ∀ k, (hsc l).take (k * 32) = hsc (l.take k)
  | [], _, k => by simp [hsc]
  | t :: r, h, 0 => by simp [hsc]
  | t :: r, h, k + 1 => by
    have ht := h t (by simp)
    have ih := hsc_takee r (fun x hx => h x (by simp [hx])) k
    simp only [hsc, List.flatMap_cons, List.take_succ_cons] at ih ⊢
    rw [show (k + 1) * 32 = (bc t).length + k * 32 by rw [bc_len, ht]; omega, List.take_length_add_append, ih]
theorem z32_all : ∀ k : Fin 32, (z32[k.val]!).oneCell' = true := by decide +kernel
theorem zeroH (w : World) : (zeroValue 32).run Tryd.prog w = .ok (.agg z32) w := by
  obtain ⟨i0, hi, hz0, hz1, hz2⟩ := info_parts infoHs
  simp [zeroValue, hi, hz0, typeInfo]
theorem run_clearh (w : World) (g off n c ty : Nat) (cur : Array Value) (hg : w.heap[g]? = some (.cells cur 32 (0, 0))) (hfit : off + n * 32 ≤ cur.size) :
    ∃ w' cur', (Builtin.clear_ #[22] ty #[.slice (some ⟨g, off, none⟩) n c]).run Tryd.prog w = .ok (.tuple #[]) w' ∧ w'.heap[g]? = some (.cells cur' 32 (0, 0)) ∧ cur'.size = cur.size ∧ cur'.toList.take off = cur.toList.take off ∧ Fr (fun k => k = g) w w' := by
  cases n with
  | zero =>
    exact ⟨w, cur, by simp [Builtin.clear_, run_underlying Tryd.underlying22], hg, rfl, rfl, Fr.refl _ _⟩
  | succ n =>
    obtain ⟨Z, hZ⟩ : ∃ Z, Z = (Builtin.zeroCells (Value.agg z32).cells (n + 1)).toList := ⟨_, rfl⟩
    have hl : Z.length = (n + 1) * 32 := by rw [hZ]; simp [Builtin.zeroCells, Value.cells, z32_size]
    have h1 : ∀ u ∈ Z, u.oneCell' = true := fun u hu => by
      rw [hZ] at hu
      simp only [Builtin.zeroCells, Value.cells, Array.toList_map, List.mem_map] at hu
      obtain ⟨i, _, rfl⟩ := hu
      have := z32_all ⟨i % 32, Nat.mod_lt _ (by decide)⟩
      simp only [z32_size]
      exact this
    have hst := run_storeCells_at (P := Tryd.prog) g off 32 Z 0 cur w hg (by rw [hl]; omega) h1
    simp only [Nat.add_zero, hl] at hst
    refine ⟨w.setRow g (cur.toList.take off ++ Z ++ cur.toList.drop (off + (n + 1) * 32)).toArray, (cur.toList.take off ++ Z ++ cur.toList.drop (off + (n + 1) * 32)).toArray, ?_, setRow_heap w g cur _ 32 (0, 0) hg, ?_, ?_, ⟨rfl, rfl, rfl, by simp, fun k hk hne => setRow_other w g k _ hne⟩⟩
    · simp only [Builtin.clear_, Sem.run_bind, run_underlying Tryd.underlying22, zeroH, Result.andThen_ok, Sem.run_pure, List.getElem?_toArray, List.getElem?_cons_zero]
      rw [← hZ, hst]
      rfl
    · simp [hl]; omega
    · rw [List.toList_toArray, List.append_assoc, List.take_append_of_le_length (by simp; omega), List.take_take, Nat.min_self]
section
variable {w : World} {ops : Array Oper} {rest : List Oper} {o : Oper} {a : Act} {Q : Exit → Act → World → Prop}
theorem wple_cut (hgd : o.guard = none) (x y : Operand) (ho : o.op = .slice 22 x (some y) none none) (X Y V : Value) (hx : a.eval x = X) (hy : a.eval y = Y) (hr : (Instr.sliceAt 22 X (some Y) none none).run Tryd.prog w = .ok V w)
    (h : wpList Tryd.prog ops Q rest (a.put o.dst V) w) : wpList Tryd.prog ops Q (o :: rest) a w := by
  refine wpList_plain hgd fun K hK => ?_
  unfold Oper.wp execOp
  simp only [ho, Option.map_some, Option.map_none, hx, hy, hr, Sem.run_bind, Sem.run_pure, Result.andThen_ok]
  exact hK _ _ h
theorem wple_clear (hgd : o.guard = none) (x : Operand) (ho : o.op = Op.call { callee := Callee.builtin Builtin.clear, args := #[x], argTypes := #[22] }) (X : Value) (hx : a.eval x = X) (w' : World) (hr : ∀ ty, (Builtin.clear_ #[22] ty #[X]).run Tryd.prog w = .ok (.tuple #[]) w')
    (h : wpList Tryd.prog ops Q rest (a.put o.dst (.tuple #[])) w') : wpList Tryd.prog ops Q (o :: rest) a w := by
  refine wpList_plain hgd fun K hK => ?_
  unfold Oper.wp execOp
  simp only [ho, resolve, invoke, builtin, Sem.run_bind, Sem.run_pure, Result.andThen_ok, List.map_toArray, List.map_cons, List.map_nil, hx, hr]
  exact hK _ _ h
end
theorem elemHe : Tryd.prog.elem 22 = 32 := by kernel_rfl
theorem undHe : Tryd.prog.underlying 22 = some (.slice (Tryd.prog.elem 22)) := by rw [elemHe]; exact Tryd.underlying22
theorem run_clear_ty {w w' : World} {V : Value} {ty : Nat} (h : (Builtin.clear_ #[22] ty #[V]).run Tryd.prog w = .ok (.tuple #[]) w') (ty2 : Nat) : (Builtin.clear_ #[22] ty2 #[V]).run Tryd.prog w = .ok (.tuple #[]) w' := h
/-- The last hashes of a row are cleared; those ahead stay. -/
theorem clear_tail {w : World} {b base : Nat} {va : Option Addr} {vc m n : Nat} {L : List (List UInt8)} (h : Bd w b base (.slice va m vc) n L) (hm : L.length = m) (lf : Nat) (hl : lf ≤ m) :
    ∃ V w', (∀ W : World, (Instr.sliceAt 22 (.slice va m vc) (some (.int .i64 (lf : Int))) none none).run Tryd.prog W = .ok V W) ∧ (∀ ty, (Builtin.clear_ #[22] ty #[V]).run Tryd.prog w = .ok (.tuple #[]) w') ∧ w'.ownsRow base 32 32 (.slice va lf vc) lf (hsc (L.take lf)) ∧ Fr (fun k => (Value.slice va m vc).ownBlock = some k) w w' := by
  have ho := h.own
  rw [hm] at ho
  have hlen : (hsc (L.take lf)).length = lf * 32 := by
    rw [hsc_len (L.take lf) (fun x hx => h.ok x (List.mem_of_mem_take hx)), List.length_take]
    congr 1
    omega
  rcases ho.2 with ⟨hv, hm0⟩ | ⟨g, cap, cur, hv, hb, hcur, h1, h2, h3, h4⟩
  · simp only [Value.slice.injEq] at hv
    obtain ⟨rfl, e2, rfl⟩ := hv
    have hlf : lf = 0 := by omega
    refine ⟨.slice none 0 0, w, fun W => ?_, fun ty => by simp [Builtin.clear_, run_underlying Tryd.underlying22], ?_, Fr.refl _ _⟩
    · rw [run_sliceAt_slice W _ _ _ _ _ undHe, run_slice_l W _ none m 0 undHe .i64 lf (by omega) (by omega), elemHe, Tryd.sizeOf32 W]
      simp [sliced, e2, hlf]
    · rw [hlf, List.take_zero]; exact World.ownsRow_nil _ _ _ _
  · simp only [Value.slice.injEq] at hv
    obtain ⟨rfl, _, rfl⟩ := hv
    by_cases hlt : lf < m
    · obtain ⟨w', cur', r1, r2, r3, r4, r5⟩ := run_clearh w g (lf * 32) (m - lf) (vc - lf) 0 cur hcur (by rw [h3]; have := Nat.mul_le_mul_right 32 h1; omega)
      refine ⟨.slice (some ⟨g, lf * 32, none⟩) (m - lf) (vc - lf), w', fun W => ?_, fun ty => ?_, ?_, r5.mono (fun k _ e => by rw [e]; rfl)⟩
      · rw [run_sliceAt_slice W _ _ _ _ _ undHe, run_slice_l W _ (some ⟨g, 0, none⟩) m vc undHe .i64 lf (by omega) (by omega), elemHe, Tryd.sizeOf32 W]
        have : ¬ vc = lf := by omega
        have ea : (⟨g, 0, none⟩ : Addr).add (lf * 32) = ⟨g, lf * 32, none⟩ := by rw [addO, Nat.zero_add]
        simp [sliced, this, ea]
      · exact run_clear_ty r1 ty
      · refine ⟨hlen, .inr ⟨g, vc, cur', rfl, hb, r2, by omega, h2, by rw [r3, h3], ?_⟩⟩
        rw [r4, ← hsc_takee L h.ok lf, ← h4, List.take_take, Nat.min_eq_left (Nat.mul_le_mul_right _ hl)]
    · obtain rfl : lf = m := by omega
      refine ⟨.slice (if vc = lf then some ⟨g, 0, none⟩ else some ⟨g, lf * 32, none⟩) 0 (vc - lf), w, fun W => ?_, fun ty => ?_, ?_, Fr.refl _ _⟩
      · rw [run_sliceAt_slice W _ _ _ _ _ undHe, run_slice_l W _ (some ⟨g, 0, none⟩) lf vc undHe .i64 lf (by omega) (by omega), elemHe, Tryd.sizeOf32 W]
        have ea : (⟨g, 0, none⟩ : Addr).add (lf * 32) = ⟨g, lf * 32, none⟩ := by rw [addO, Nat.zero_add]
        by_cases e : vc = lf <;> simp [sliced, e, ea]
      · split <;> simp [Builtin.clear_, run_underlying Tryd.underlying22]
      · rw [List.take_of_length_le (by omega)]; exact ho
end Go.Proofs.YtkjonddlmiedcaaDoor
