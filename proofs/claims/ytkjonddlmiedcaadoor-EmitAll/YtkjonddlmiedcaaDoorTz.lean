/- How great lists of texts are. -/
import Derived.Test.YtkjonddlmiedcaaDoorPg
namespace Go.Proofs.YtkjonddlmiedcaaDoor
open Go.RowKit
set_option linter.unusedVariables false
set_option linter.unusedSimpArgs false

/-- Numbers in memory. -/
def Ints (w : World) (p : Option Addr) (l : List Nat) : Prop := ∀ j, j < l.length → ∃ g o, p = some ⟨g, o, none⟩ ∧ w.cell? ⟨g, o + j, none⟩ = some (.int .i64 ((l.getD j 0 : Nat) : Int))
theorem sum_step (l : List Nat) (k : Nat) (h : k < l.length) : (l.take (k + 1)).sum = (l.take k).sum + l.getD k 0 := by
  have e : l.take (k + 1) = l.take k ++ [l[k]] := List.take_succ_eq_append_getElem h
  rw [e, List.sum_append, List.getD_eq_getElem?_getD, List.getElem?_eq_getElem h, Option.getD_some]
  simp
theorem sum_le (l : List Nat) (k : Nat) : (l.take k).sum ≤ l.sum := by
  have h : l.sum = (l.take k).sum + (l.drop k).sum := by rw [← List.sum_append, List.take_append_drop]
  omega
/-- How many bytes texts have, and one for each. -/
def tsz (ss : List ByteArray) : Nat := (ss.map fun x => 1 + x.size).sum
theorem tsz_step (ss : List ByteArray) (k : Nat) (x : ByteArray) (h : ss[k]? = some x) : tsz (ss.take (k + 1)) = tsz (ss.take k) + 1 + x.size := by
  unfold tsz
  rw [List.take_add_one, h]
  simp
  omega
theorem one_int (w : World) (n : Nat) : Ints (w.alloc (.cells #[.int .i64 (n : Int)] 3)) (some ⟨w.heap.size, 0, none⟩) [n] := fun j hj => by
  match j, hj with
  | 0, _ => exact ⟨_, _, rfl, by simp [cell_of (heap_new w _)]⟩
theorem getD_one (n : Nat) (h : n < 4611686018427387904) : ∀ j, [n].getD j 0 < 4611686018427387904 := fun j => by
  match j with
  | 0 => exact h
  | j + 1 => simp

theorem two_int (w : World) (m n : Nat) : Ints (w.alloc (.cells #[.int .i64 (m : Int), .int .i64 (n : Int)] 3)) (some ⟨w.heap.size, 0, none⟩) [m, n] := fun j hj => by
  match j, hj with
  | 0, _ => exact ⟨_, _, rfl, by simp [cell_of (heap_new w _)]⟩
  | 1, _ => exact ⟨_, _, rfl, by simp [cell_of (heap_new w _)]⟩
theorem four_int (w : World) (m n o q : Nat) : Ints (w.alloc (.cells #[.int .i64 (m : Int), .int .i64 (n : Int), .int .i64 (o : Int), .int .i64 (q : Int)] 3)) (some ⟨w.heap.size, 0, none⟩) [m, n, o, q] := fun j hj => by
  match j, hj with
  | 0, _ => exact ⟨_, _, rfl, by simp [cell_of (heap_new w _)]⟩
  | 1, _ => exact ⟨_, _, rfl, by simp [cell_of (heap_new w _)]⟩
  | 2, _ => exact ⟨_, _, rfl, by simp [cell_of (heap_new w _)]⟩
  | 3, _ => exact ⟨_, _, rfl, by simp [cell_of (heap_new w _)]⟩
theorem getD_all {l : List Nat} (h : ∀ n ∈ l, n < 4611686018427387904) : ∀ j, l.getD j 0 < 4611686018427387904 := fun j => by
  rw [List.getD_eq_getElem?_getD]
  cases e : l[j]? with
  | none => simp
  | some x => exact h x (List.mem_of_getElem? e)
end Go.Proofs.YtkjonddlmiedcaaDoor
