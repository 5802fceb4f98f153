/- tile: In, Of, mayBe: which tiles there are. -/
import Derived.Test.YtbkhdnceblgljaaGreatDoorCg
import Derived.Deep.Cut
namespace Go.Proofs.YtbkhdnceblgljaaGreatDoor
open Go.RowKit
set_option linter.unusedVariables false
set_option linter.unusedSimpArgs false
/-- A tile as a value. -/
abbrev tl (L I W : Nat) : Value := .agg #[.int .u8 (L : Int), .int .u64 (I : Int), .int .i64 (W : Int)]
/-- The nodes of a level. -/
def nod8 (L S : Nat) : Nat := S / 2 ^ (8 * L)
/-- How wide a tile is in a log of S leaves; 0: there is none. -/
def wid (L I S : Nat) : Nat := if 7 < L ∨ 9223372036854775808 < S then 0 else min (nod8 L S - I * 256) 256
theorem cell3 {w : World} {b : Nat} {x y z : Value} {t : TypeId} {f : Nat × Nat} (h : w.heap[b]? = some (.cells #[x, y, z] t f)) : w.cell? ⟨b, 0, none⟩ = some x ∧ w.cell? ⟨b, 1, none⟩ = some y ∧ w.cell? ⟨b, 2, none⟩ = some z := ⟨(cell_of h 0).trans rfl, (cell_of h 1).trans rfl, (cell_of h 2).trans rfl⟩
theorem nod_lift (L S : Nat) (hS : S ≤ 9223372036854775808) : ∃ N, N = nod8 L S ∧ N ≤ 9223372036854775808 ∧ (S : Int) / 2 ^ (8 * L) = (N : Int) :=
  ⟨_, rfl, Nat.le_trans (Nat.div_le_self _ _) hS, castd S (8 * L)⟩
set_option maxHeartbeats 1000000 in
theorem in_no (L I S : Nat) (hL : L ≤ 255) (hI : I < 18446744073709551616) (hS : S < 18446744073709551616) (h : wid L I S = 0) (w : World) :
    Calls Tryz.prog 37 #[.int .u8 (L : Int), .int .u64 (I : Int), .int .u64 (S : Int)] w fun e w' => e = .returned (.tuple #[tl 0 0 0, .bool false]) ∧ Nw w w' := by
  by_cases h7 : 7 < L
  · have h7i : (7 : Int) < (L : Int) := by omega
    go_enter Tryz.func37, Tryz.ntmps37
    go_wp2
    (refine bodyPost_ret (results_cell_slot (V := #[.int .u8 0, .int .u64 0, .int .i64 0]) (ty := 60) (f := (0, 0)) Tryz.results37 Tryz.isAgg60 Tryz.sizeOf60 rfl _ rfl ?_ rfl) rfl ⟨rfl, (by repeat first | with_reducible exact nwr w | with_reducible refine Fr.alloc ?_ _ | with_reducible refine Fr.drew ?_ | (with_reducible refine Fr.setCell ?_ _ _ (fun h => ?_); rotate_left; focus (simp only at h; omega)))⟩; (repeat first | with_reducible exact heap_new _ _ | with_reducible exact heap_new _ _ | with_reducible exact heap_next _ _ _ | with_reducible exact heap_third _ _ _ _ | with_reducible refine hp_dr ?_ | (with_reducible refine hp_ne ?_ ?_; focus omega) | (with_reducible refine hp_al ?_ ?_; focus (first | omega | (simp <;> omega))) | with_reducible apply hp_set) <;> rfl)
  by_cases h63 : 9223372036854775808 < S
  · have h7i : ¬ (7 : Int) < (L : Int) := by omega
    have h63i : (9223372036854775808 : Int) < (S : Int) := by omega
    go_enter Tryz.func37, Tryz.ntmps37
    go_wp2
    (refine bodyPost_ret (results_cell_slot (V := #[.int .u8 0, .int .u64 0, .int .i64 0]) (ty := 60) (f := (0, 0)) Tryz.results37 Tryz.isAgg60 Tryz.sizeOf60 rfl _ rfl ?_ rfl) rfl ⟨rfl, (by repeat first | with_reducible exact nwr w | with_reducible refine Fr.alloc ?_ _ | with_reducible refine Fr.drew ?_ | (with_reducible refine Fr.setCell ?_ _ _ (fun h => ?_); rotate_left; focus (simp only at h; omega)))⟩; (repeat first | with_reducible exact heap_new _ _ | with_reducible exact heap_new _ _ | with_reducible exact heap_next _ _ _ | with_reducible exact heap_third _ _ _ _ | with_reducible refine hp_dr ?_ | (with_reducible refine hp_ne ?_ ?_; focus omega) | (with_reducible refine hp_al ?_ ?_; focus (first | omega | (simp <;> omega))) | with_reducible apply hp_set) <;> rfl)
  have hw : min (nod8 L S - I * 256) 256 = 0 := by unfold wid at h; rwa [if_neg (by omega)] at h
  have h7i : ¬ (7 : Int) < (L : Int) := by omega
  have h63i : ¬ (9223372036854775808 : Int) < (S : Int) := by omega
  obtain ⟨N, hN, hNb, ed⟩ := nod_lift L S (by omega)
  rw [← hN] at hw
  clear hN h
  by_cases hgt : N / 256 < I
  · have hgi : ((N : Int) / 256) < (I : Int) := by omega
    go_enter Tryz.func37, Tryz.ntmps37
    go_wp2
    (refine bodyPost_ret (results_cell_slot (V := #[.int .u8 0, .int .u64 0, .int .i64 0]) (ty := 60) (f := (0, 0)) Tryz.results37 Tryz.isAgg60 Tryz.sizeOf60 rfl _ rfl ?_ rfl) rfl ⟨rfl, (by repeat first | with_reducible exact nwr w | with_reducible refine Fr.alloc ?_ _ | with_reducible refine Fr.drew ?_ | (with_reducible refine Fr.setCell ?_ _ _ (fun h => ?_); rotate_left; focus (simp only at h; omega)))⟩; (repeat first | with_reducible exact heap_new _ _ | with_reducible exact heap_new _ _ | with_reducible exact heap_next _ _ _ | with_reducible exact heap_third _ _ _ _ | with_reducible refine hp_dr ?_ | (with_reducible refine hp_ne ?_ ?_; focus omega) | (with_reducible refine hp_al ?_ ?_; focus (first | omega | (simp <;> omega))) | with_reducible apply hp_set) <;> rfl)
  · have hgi : ¬ ((N : Int) / 256) < (I : Int) := by omega
    have hD : (N : Int) - (I : Int) * 256 = 0 := by omega
    go_enter Tryz.func37, Tryz.ntmps37
    go_wp2
    (refine bodyPost_ret (results_cell_slot (V := #[.int .u8 0, .int .u64 0, .int .i64 0]) (ty := 60) (f := (0, 0)) Tryz.results37 Tryz.isAgg60 Tryz.sizeOf60 rfl _ rfl ?_ rfl) rfl ⟨rfl, (by repeat first | with_reducible exact nwr w | with_reducible refine Fr.alloc ?_ _ | with_reducible refine Fr.drew ?_ | (with_reducible refine Fr.setCell ?_ _ _ (fun h => ?_); rotate_left; focus (simp only at h; omega)))⟩; (repeat first | with_reducible exact heap_new _ _ | with_reducible exact heap_new _ _ | with_reducible exact heap_next _ _ _ | with_reducible exact heap_third _ _ _ _ | with_reducible refine hp_dr ?_ | (with_reducible refine hp_ne ?_ ?_; focus omega) | (with_reducible refine hp_al ?_ ?_; focus (first | omega | (simp <;> omega))) | with_reducible apply hp_set) <;> rfl)
set_option maxHeartbeats 1000000 in
theorem in_yes (L I S W : Nat) (hI : I < 18446744073709551616) (h : wid L I S = W) (h0 : 0 < W) (w : World) :
    Calls Tryz.prog 37 #[.int .u8 (L : Int), .int .u64 (I : Int), .int .u64 (S : Int)] w fun e w' => e = .returned (.tuple #[tl L I W, .bool true]) ∧ Nw w w' := by
  have hc : ¬ (7 < L ∨ 9223372036854775808 < S) := fun q => by unfold wid at h; rw [if_pos q] at h; omega
  have hw : min (nod8 L S - I * 256) 256 = W := by unfold wid at h; rwa [if_neg hc] at h
  have hL : L ≤ 7 := by omega
  have hS : S ≤ 9223372036854775808 := by omega
  have h7i : ¬ (7 : Int) < (L : Int) := by omega
  have h63i : ¬ (9223372036854775808 : Int) < (S : Int) := by omega
  obtain ⟨N, hN, hNb, ed⟩ := nod_lift L S hS
  rw [← hN] at hw
  clear hN h hc
  have hgi : ¬ ((N : Int) / 256) < (I : Int) := by omega
  obtain ⟨D, hD⟩ : ∃ D, D = N - I * 256 := ⟨_, rfl⟩
  have eD : (N : Int) - (I : Int) * 256 = (D : Int) := by omega
  rw [← hD] at hw
  have hmin : min (D : Int) 256 = (W : Int) := by omega
  have hne : ((W : Int) == 0) = false := by simp only [beq_eq_false_iff_ne, ne_eq]; omega
  have hI2 : I ≤ 72057594037927936 := by omega
  have hDb : D ≤ 9223372036854775808 := by omega
  have hW : W ≤ 256 := by omega
  clear hw hD
  go_enter Tryz.func37, Tryz.ntmps37
  go_wp2
  (refine bodyPost_ret (results_cell_slot (V := #[.int .u8 (L : Int), .int .u64 (I : Int), .int .i64 (W : Int)]) (ty := 60) (f := (0, 0)) Tryz.results37 Tryz.isAgg60 Tryz.sizeOf60 rfl _ rfl ?_ rfl) rfl ⟨rfl, (by repeat first | with_reducible exact nwr w | with_reducible refine Fr.alloc ?_ _ | with_reducible refine Fr.drew ?_ | (with_reducible refine Fr.setCell ?_ _ _ (fun h => ?_); rotate_left; focus (simp only at h; omega)))⟩; (repeat first | with_reducible exact heap_new _ _ | with_reducible exact heap_new _ _ | with_reducible exact heap_next _ _ _ | with_reducible exact heap_third _ _ _ _ | with_reducible refine hp_dr ?_ | (with_reducible refine hp_ne ?_ ?_; focus omega) | (with_reducible refine hp_al ?_ ?_; focus (first | omega | (simp <;> omega))) | with_reducible apply hp_set) <;> rfl)
end Go.Proofs.YtbkhdnceblgljaaGreatDoor
