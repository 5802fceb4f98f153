/- How great lists of texts are. -/
import Derived.Test.YtlaiomgebkeldaaGreatDoorPg
namespace Go.Proofs.YtlaiomgebkeldaaGreatDoor
open Go.RowKit
set_option linter.unusedVariables false
set_option linter.unusedSimpArgs false

/-- Numbers in memory. -/
def Ints (w : World) (p : Option Addr) (l : List Nat) : Prop := ∀ j, j < l.length → ∃ g o, p = some ⟨g, o, none⟩ ∧ w.cell? ⟨g, o + j, none⟩ = some (.int .i64 ((l.getD j 0 : Nat) : Int))
theorem sum_step (l : List Nat) (k : Nat) (h : k < l.length) : (l.take (k + 1)).sum = (l.take k).sum + l.getD k 0 := by
  have e : l.take (k + 1) = l.take k ++ [l[k]] := List.take_succ_eq_append_getElem h
  rw [e, List.sum_append, List.getD_eq_getElem?_getD, List.getElem?_eq_getElem h, Option.getD_some]
  simp
theorem sum_le (l : List Nat) (k : Nat) : (l.take k).sum ≤ l.sum := by
  have h : l.sum = (l.take k).sum + (l.drop k).sum := by rw [← List.sum_append, List.take_append_drop]
  omega
set_option maxRecDepth 100000 in
set_option maxHeartbeats 1000000 in
theorem beyond_any (p : Option Addr) (c : Nat) (l : List Nat) (w : World) (hi : Ints w p l) (hx : ∀ j, l.getD j 0 < 4611686018427387904) (hl : l.length < 4611686018427387904) :
    Calls Tryz.prog 20 #[.slice p l.length c] w fun e w' => e = .returned (.bool (decide (1048576 < l.sum))) ∧ w' = w := by
  have HI : Hid (Ints w p l) := hi
  have HX : Hid (∀ j, l.getD j 0 < 4611686018427387904) := hx
  clear hi hx
  obtain ⟨n, hn⟩ : ∃ n, n = l.length := ⟨_, rfl⟩
  rw [← hn] at hl ⊢
  have Hn : Hid (n = l.length) := hn
  clear hn
  obtain ⟨R, hR⟩ : ∃ R, R = decide (1048576 < l.sum) := ⟨_, rfl⟩
  have HR : Hid (R = decide (1048576 < l.sum)) := hR
  rw [← hR]
  clear hR
  go_enter Tryz.func20, Tryz.ntmps20
  go_wp2
  go_loop [3, 4] (fun s i => ∃ k m : Nat, k ≤ n ∧ i = .int .i64 k ∧ s = .int .i64 m ∧ m = (l.take k).sum ∧ m ≤ 1048576) (fun _ i => n - (intOf i).toNat)
  case atStart => exact ⟨0, 0, by omega, rfl, rfl, rfl, by omega⟩
  case round =>
    obtain ⟨k, m, hk, rfl, rfl, hm, hm2⟩ := hrel
    have HM : Hid (m = (l.take k).sum) := hm
    clear hm
    by_cases hlt : k < n
    · obtain ⟨g, o, rfl, hc⟩ := HI.out k (by have := Hn.out; omega)
      have hx := HX.out k
      have hst : Hid ((l.take (k + 1)).sum = (l.take k).sum + l.getD k 0) := sum_step l k (by have := Hn.out; omega)
      generalize l.getD k 0 = x at hc hx hst
      have hki : (k : Int) < (n : Int) := by omega
      by_cases hbig : 1048576 < m + x
      · have hb : (1048576 : Int) < (m : Int) + (x : Int) := by omega
        go_wp2
        go_ret
        refine ⟨?_, rfl⟩
        have : R = true := by
          rw [HR.out]
          have h1 := sum_le l (k + 1)
          rw [hst.out, ← HM.out] at h1
          exact decide_eq_true (by omega)
        rw [this]; rfl
      · have hb : ¬ (1048576 : Int) < (m : Int) + (x : Int) := by omega
        go_wp2
        exact ⟨⟨k + 1, m + x, by omega, by go_num, by go_num, by rw [hst.out, ← HM.out], by omega⟩, by simp [intOf]; omega⟩
    · have hge : ¬ (k : Int) < (n : Int) := by omega
      have : R = false := by
        rw [HR.out]
        have h1 := HM.out
        rw [List.take_of_length_le (by have := Hn.out; omega)] at h1
        exact decide_eq_false (by omega)
      have HRF : Hid (R = false) := this
      clear this hlt
      go_wp2
      go_ret
      exact ⟨by rw [HRF.out]; rfl, rfl⟩
/-- How many bytes texts have, and one for each. -/
def tsz (ss : List ByteArray) : Nat := (ss.map fun x => 1 + x.size).sum
theorem tsz_step (ss : List ByteArray) (k : Nat) (x : ByteArray) (h : ss[k]? = some x) : tsz (ss.take (k + 1)) = tsz (ss.take k) + 1 + x.size := by
  unfold tsz
  rw [List.take_add_one, h]
  simp
  omega
theorem one_int (w : World) (n : Nat) : Ints (w.alloc (.cells #[.int .i64 (n : Int)] 3)) (some ⟨w.heap.size, 0, none⟩) [n] := fun j hj => by
  match j, hj with
  | 0, _ => exact ⟨_, _, rfl, by simp [cell_of (heap_new w _)]⟩
theorem getD_one (n : Nat) (h : n < 4611686018427387904) : ∀ j, [n].getD j 0 < 4611686018427387904 := fun j => by
  match j with
  | 0 => exact h
  | j + 1 => simp

theorem two_int (w : World) (m n : Nat) : Ints (w.alloc (.cells #[.int .i64 (m : Int), .int .i64 (n : Int)] 3)) (some ⟨w.heap.size, 0, none⟩) [m, n] := fun j hj => by
  match j, hj with
  | 0, _ => exact ⟨_, _, rfl, by simp [cell_of (heap_new w _)]⟩
  | 1, _ => exact ⟨_, _, rfl, by simp [cell_of (heap_new w _)]⟩
theorem four_int (w : World) (m n o q : Nat) : Ints (w.alloc (.cells #[.int .i64 (m : Int), .int .i64 (n : Int), .int .i64 (o : Int), .int .i64 (q : Int)] 3)) (some ⟨w.heap.size, 0, none⟩) [m, n, o, q] := fun j hj => by
  match j, hj with
  | 0, _ => exact ⟨_, _, rfl, by simp [cell_of (heap_new w _)]⟩
  | 1, _ => exact ⟨_, _, rfl, by simp [cell_of (heap_new w _)]⟩
  | 2, _ => exact ⟨_, _, rfl, by simp [cell_of (heap_new w _)]⟩
  | 3, _ => exact ⟨_, _, rfl, by simp [cell_of (heap_new w _)]⟩
theorem getD_all {l : List Nat} (h : ∀ n ∈ l, n < 4611686018427387904) : ∀ j, l.getD j 0 < 4611686018427387904 := fun j => by
  rw [List.getD_eq_getElem?_getD]
  cases e : l[j]? with
  | none => simp
  | some x => exact h x (List.mem_of_getElem? e)
end Go.Proofs.YtlaiomgebkeldaaGreatDoor
