/- The document's text with what comes behind it. -/
import Derived.Test.YtlaiomgebkeldaaDoorRa3
import Derived.Test.YtlaiomgebkeldaaDoorRh
import Derived.Deep.AppendSrc
import Derived.Laws.IdiomStrings
namespace Go.Proofs.YtlaiomgebkeldaaDoor.Rf
open Go.RowKit
set_option linter.unusedVariables false
set_option linter.unusedSimpArgs false

/-- A row of bytes of the call's own, its block marked or not. -/
def Om (B : Nat) (w : World) (v : Value) (l : List UInt8) : Prop :=
  ∃ g cap cur fz, v = .slice (some ⟨g, 0, none⟩) l.length cap ∧ B ≤ g ∧ w.heap[g]? = some (.cells cur 5 fz) ∧ (fz = (0, 0) ∨ cur.size ≤ fz.1) ∧ l.length ≤ cap ∧ cur.size = cap ∧ cur.toList.take l.length = bc l
theorem Om.form {B : Nat} {w : World} {v : Value} {l : List UInt8} (h : Om B w v l) : ∃ g cap, v = .slice (some ⟨g, 0, none⟩) l.length cap := by
  obtain ⟨g, cap, cur, fz, rfl, _⟩ := h
  exact ⟨g, cap, rfl⟩
theorem Om.bys {B : Nat} {w : World} {v : Value} {l : List UInt8} (h : Om B w v l) : ∃ g cap, v = .slice (some ⟨g, 0, none⟩) l.length cap ∧ B ≤ g ∧ l.length ≤ cap ∧ ∀ j, j < l.length → w.cell? ⟨g, j, none⟩ = some (.int .u8 ((l.getD j 0).toNat : Nat)) := by
  obtain ⟨g, cap, cur, fz, rfl, hB, hh, _, hc, _, ht⟩ := h
  refine ⟨g, cap, rfl, hB, hc, fun j hj => ?_⟩
  rw [cell_of hh]
  have h1 : (cur.toList.take l.length)[j]? = (bc l)[j]? := by rw [ht]
  rw [List.getElem?_take, if_pos hj, Array.getElem?_toList, bc, List.getElem?_map, List.getElem?_eq_getElem hj] at h1
  rw [h1, List.getD_eq_getElem?_getD, List.getElem?_eq_getElem hj]
  rfl
theorem Om.keep {B : Nat} {w w' : World} {v : Value} {l : List UInt8} (h : Om B w v l) (k : Nw w w') : Om B w' v l := by
  obtain ⟨g, cap, cur, fz, rfl, hB, hh, r⟩ := h
  exact ⟨g, cap, cur, fz, rfl, hB, (k.block g (heap_lt hh) (fun f => f)).trans hh, r⟩
theorem unfrozen {w : World} {g : Nat} {cur : Array Value} {fz : Nat × Nat} {t : TypeId} (hh : w.heap[g]? = some (.cells cur t fz)) (hf : fz = (0, 0) ∨ cur.size ≤ fz.1) (j : Nat) (hj : j < cur.size) : w.frozen? ⟨g, j, none⟩ = false := by
  simp only [World.frozen?, hh]
  rcases hf with rfl | hf
  · simp
  · have : ¬ fz.1 ≤ j := by omega
    simp [this]
theorem run_app1 (ty : TypeId) (B : Nat) (w : World) (v : Value) (l : List UInt8) (c : UInt8) (q : Nat) (hO : Om B w v l) (hq : w.cell? ⟨q, 0, none⟩ = some (.int .u8 (c.toNat : Nat))) (hl : l.length < 70368744177664) (hB : B ≤ w.heap.size) :
    ∃ v' w', (Builtin.append_ #[110, 110] ty #[v, .slice (some ⟨q, 0, none⟩) 1 1]).run Tryd.prog w = .ok v' w' ∧ Om B w' v' (l ++ [c]) ∧ Below B w w' := by
  obtain ⟨i0, hi, hz0, hz1, hz2⟩ := info_parts8
  obtain ⟨g, cap, cur, fz, rfl, hBg, hh, hfz, hn, hcs, ht⟩ := hO
  have hsrc : Src Tryd.prog i0.size 110 (.slice (some ⟨q, 0, none⟩) 1 1) 1 [.int .u8 (c.toNat : Nat)] w := Src.ofSlice w Tryd.underlying110 _ 1 1 _ (by rw [hz1]; rfl) (fun j u hj => by
    match j, hj with
    | 0, hj => simp at hj; subst hj; rw [addZ]; exact hq) (by simp [Value.oneCell'])
  by_cases hroom : l.length + 1 ≤ cap
  · have hr := run_append_room_src w 110 110 ty 5 i0 Tryd.underlying110 hi g 0 l.length cap _ 1 _ hsrc hroom
      (fun j hj => by
        have hj0 : j = 0 := by simpa using hj
        rw [hj0, hz1, Nat.mul_one, Nat.zero_add, Nat.add_zero, cell_of hh, Array.getElem?_eq_getElem (by omega)]
        rfl)
      (fun j hj => by
        have hj0 : j = 0 := by simpa using hj
        rw [hj0, hz1, Nat.mul_one, Nat.zero_add, Nat.add_zero]
        exact unfrozen hh hfz _ (by omega))
    refine ⟨_, _, hr, ?_, ?_⟩
    · rw [hz1, Nat.mul_one, Nat.zero_add]
      refine ⟨g, cap, cur.setIfInBounds l.length (.int .u8 (c.toNat : Nat)), fz, by simp, hBg, heap_set hh _, by simpa using hfz, by simp; omega, by simpa using hcs, ?_⟩
      rw [List.length_append, bc_app, ← ht]
      have hlc : l.length < cur.toList.length := by have := Array.length_toList (xs := cur); omega
      rw [Array.toList_setIfInBounds, List.length_singleton, List.take_add_one, List.take_set, List.getElem?_set_self hlc]
      rw [List.set_eq_of_length_le (List.length_take_le _ _)]
      rfl
    · rw [hz1, Nat.mul_one, Nat.zero_add]
      exact ⟨rfl, rfl, rfl, by simp [World.setCells, World.setCell], fun k hk => Below.heap_setCell _ _ _ _ (by show k ≠ g; omega)⟩
  · have hold : (Builtin.firstCells i0.size l.length (.slice (some ⟨g, 0, none⟩) l.length cap)).run Tryd.prog w.drew = .ok (bc l).toArray w.drew := by
      refine run_firstCells_some w.drew i0.size l.length ⟨g, 0, none⟩ l.length cap (bc l) (by rw [bc_len, hz1, Nat.mul_one]) (fun j u hj => ?_)
      rw [addZ]
      show w.cell? ⟨g, j, none⟩ = some u
      rw [cell_of hh]
      have hjl : j < l.length := by
        have := (List.getElem?_eq_some_iff.1 hj).1
        simpa [bc] using this
      rw [← ht, List.getElem?_take, if_pos hjl, Array.getElem?_toList] at hj
      exact hj
    have hr := run_append_grow_src w 110 110 ty 5 i0 (.int .u8 0) Tryd.underlying110 hi hz0 (some ⟨g, 0, none⟩) l.length cap (bc l) hold _ 1 _ hsrc (by omega) (by omega) (by rw [hz2]; exact growslice_fits (by omega) (by omega))
    refine ⟨_, _, hr, ?_, ?_⟩
    · have hge := grownCap_ge w (l.length + 1) cap 5
      refine ⟨w.heap.size, grownCap w (l.length + 1) cap 5, _, (0, 0), by simp, hB, heap_new w.drew _, .inl rfl, by simpa using hge, ?_, ?_⟩
      · rw [Array.size_append, List.size_toArray, List.length_append, bc_len]
        have : (Builtin.zeroCells (Value.int .u8 0).cells (grownCap w (l.length + 1) cap 5 - (l.length + 1))).size = grownCap w (l.length + 1) cap 5 - (l.length + 1) := by simp [Builtin.zeroCells, Value.cells]
        rw [this]
        simp
        omega
      · rw [Array.toList_append, List.toList_toArray, bc_app]
        rw [List.take_append_of_le_length (by simp [bc_len])]
        exact List.take_of_length_le (by simp [bc_len])
    · exact ⟨rfl, rfl, rfl, by simp, fun k hk => Below.heap_alloc _ _ _ (by show k < w.heap.size; omega)⟩
theorem wpList_app1 {w : World} {ops : Array Oper} {rest : List Oper} {o : Oper} {a : Act} {Q : Exit → Act → World → Prop} (hgd : o.guard = none) (s x : Operand)
    (ho : o.op = .call { callee := .builtin .append, args := #[s, x], argTypes := #[110, 110] })
    (B : Nat) (v : Value) (l : List UInt8) (c : UInt8) (q : Nat) (hs : a.eval s = v) (hO : Om B w v l) (hx : a.eval x = .slice (some ⟨q, 0, none⟩) 1 1) (hq : w.cell? ⟨q, 0, none⟩ = some (.int .u8 (c.toNat : Nat)))
    (hl : l.length < 70368744177664) (hB : B ≤ w.heap.size)
    (h : ∀ v' w', Om B w' v' (l ++ [c]) → Below B w w' → wpList Tryd.prog ops Q rest (a.put o.dst v') w') : wpList Tryd.prog ops Q (o :: rest) a w := by
  obtain ⟨v', w', hr, h1, h2⟩ := run_app1 o.type B w v l c q hO hq hl hB
  refine wpList_plain hgd fun K hK => ?_
  unfold Oper.wp execOp
  simp only [ho, resolve, invoke, builtin, Sem.run_bind, Sem.run_pure, Result.andThen_ok, List.map_toArray, List.map_cons, List.map_nil, hs, hx, hr]
  exact hK _ _ (h v' w' h1 h2)
end Go.Proofs.YtlaiomgebkeldaaDoor.Rf
