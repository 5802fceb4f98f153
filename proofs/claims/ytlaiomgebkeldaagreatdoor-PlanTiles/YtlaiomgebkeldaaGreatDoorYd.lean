/- plan: a tree's tile in a log. -/
import Derived.Test.YtlaiomgebkeldaaGreatDoorYc
import Derived.Test.YtlaiomgebkeldaaGreatDoorS6
import Derived.Test.YtlaiomgebkeldaaGreatDoorTw
namespace Go.Proofs.YtlaiomgebkeldaaGreatDoor
open Go.RowKit
set_option linter.unusedVariables false
set_option linter.unusedSimpArgs false
/-- A tree that a log of S leaves has. -/
def gdT (S : Nat) (c : Nat × Nat) : Prop := may c.1 c.2 ∧ (c.2 + 1) * 2 ^ c.1 ≤ S
instance (S : Nat) (c : Nat × Nat) : Decidable (gdT S c) := by unfold gdT may; infer_instance
/-- Its tile. -/
def tlN (S : Nat) (c : Nat × Nat) : Nat × Nat × Nat := (c.1 / 8, ofA c.1 c.2 / 256, wid (c.1 / 8) (ofA c.1 c.2 / 256) S)
theorem gd_room {S L I : Nat} (h : gdT S (L, I)) (hS : S ≤ 9223372036854775808) : ofA L I + 2 ^ (L % 8) ≤ nod8 (L / 8) S := by
  have h2 : (I + 1) * 2 ^ L ≤ S := h.2
  unfold nod8 ofA
  rw [Nat.le_div_iff_mul_le (Nat.two_pow_pos _)]
  have e : 2 ^ L = 2 ^ (L % 8) * 2 ^ (8 * (L / 8)) := by rw [← Nat.pow_add]; congr 1; omega
  rw [e, ← Nat.mul_assoc, Nat.add_mul, Nat.one_mul] at h2
  exact h2
theorem gd_place {L I : Nat} : ofA L I % 256 + 2 ^ (L % 8) ≤ 256 := by
  have hp := pow8 (L % 8) (by omega)
  have e : (256 : Nat) = 2 ^ (8 - L % 8) * 2 ^ (L % 8) := by rw [← Nat.pow_add, show 8 - L % 8 + L % 8 = 8 by omega]
  unfold ofA
  rw [e, Nat.mul_mod_mul_right]
  have h1 := Nat.mod_lt I (Nat.two_pow_pos (8 - L % 8))
  calc I % 2 ^ (8 - L % 8) * 2 ^ (L % 8) + 2 ^ (L % 8) = (I % 2 ^ (8 - L % 8) + 1) * 2 ^ (L % 8) := by rw [Nat.add_mul, Nat.one_mul]
    _ ≤ 2 ^ (8 - L % 8) * 2 ^ (L % 8) := Nat.mul_le_mul_right _ h1
theorem gd_wid {S L I : Nat} (h : gdT S (L, I)) (hS : S ≤ 9223372036854775808) : ofA L I % 256 + 2 ^ (L % 8) ≤ wid (L / 8) (ofA L I / 256) S := by
  have h1 := gd_room h hS
  have h2 := gd_place (L := L) (I := I)
  have h3 : L ≤ 63 := h.1.1
  unfold wid
  rw [if_neg (by omega)]
  omega
theorem wid_le (l i S : Nat) : wid l i S ≤ 256 := by unfold wid; split <;> omega
set_option maxHeartbeats 2000000 in
theorem ptile_yes (S L I : Nat) (h : gdT S (L, I)) (hS : S ≤ 9223372036854775808) (w : World) :
    Calls Tryz.prog 99 #[cd L I, .int .u64 (S : Int)] w fun e w' => e = .returned (.tuple #[tl (L / 8) (ofA L I / 256) (wid (L / 8) (ofA L I / 256) S), .nilIface]) ∧ Nw w w' := by
  have H : Hid (may L I) := h.1
  have hL := h.1.1
  have hb := ofA_bd h.1
  have hw := gd_wid h hS
  have hp := Nat.two_pow_pos (L % 8)
  obtain ⟨A, hA⟩ : ∃ A, A = ofA L I := ⟨_, rfl⟩
  obtain ⟨W, hW⟩ : ∃ W, W = wid (L / 8) (A / 256) S := ⟨_, rfl⟩
  obtain ⟨P, hP⟩ : ∃ P, P = 2 ^ (L % 8) := ⟨_, rfl⟩
  obtain ⟨Y, hY⟩ : ∃ Y, Y = (I + 1) * 2 ^ L := ⟨_, rfl⟩
  obtain ⟨V, hV⟩ : ∃ V, V = ofW L := ⟨_, rfl⟩
  have QS : Hid (∀ V, Calls Tryz.prog 147 #[cd L I] V fun e w' => e = .returned (.tuple #[sp (I * 2 ^ L) Y, .bool true]) ∧ Nw V w') := fun V => by rw [hY]; exact span_yes L I h.1 V
  have QT : Hid (∀ U, Calls Tryz.prog 148 #[cd L I] U fun e w' => e = .returned (.tuple #[tl (L / 8) (A / 256) V, .int .i64 ((A % 256 : Nat) : Int), .int .i64 (P : Int), .bool true]) ∧ Nw U w') := fun U => by rw [hA, hP, hV]; exact tof_yes L I h.1 U
  have hYS : Y ≤ S := by rw [hY]; exact h.2
  rw [← hA] at hb hw ⊢
  rw [← hW] at hw ⊢
  rw [← hP] at hp hw
  obtain ⟨X, hX⟩ : ∃ X, X = I * 2 ^ L := ⟨_, rfl⟩
  rw [← hX] at QS
  obtain ⟨l, hl⟩ : ∃ l, l = L / 8 := ⟨_, rfl⟩
  obtain ⟨i, hi⟩ : ∃ i, i = A / 256 := ⟨_, rfl⟩
  rw [← hl, ← hi] at QT hW ⊢
  have hi64 : i < 18446744073709551616 := by omega
  have QI : Hid (∀ V, Calls Tryz.prog 149 #[.int .u8 (l : Int), .int .u64 (i : Int), .int .u64 (S : Int)] V fun e w' => e = .returned (.tuple #[tl l i W, .bool true]) ∧ Nw V w') := fun V => in_yes l i S W hi64 hW.symm (by omega) V
  have hle : ¬ (S : Int) < (Y : Int) := by omega
  have hd1 : decide ((S : Int) < (Y : Int)) = false := by simp; omega
  have hd2 : decide (S < Y) = false := by simp; omega
  clear hA hP hV hY hX hW h hb hw hp hYS hl hi
  go_enter Tryz.func99, Tryz.ntmps99
  go_wp2_with fail
  refine (QS.out _).mono ?_
  rintro e w1 ⟨rfl, n1⟩
  obtain ⟨⟨l0, l1⟩, b0, b1, n2⟩ := two_made n1
  have c0 := cell2a b0
  have c1 := cell2b b0
  clear n1
  go_wp2_with fail
  refine (QT.out _).mono ?_
  rintro e w2 ⟨rfl, n3⟩
  have N12 : Nw w1 w2 := Nw.tr (nwa w1 _) n3
  have B1 : w2.heap[w.heap.size + 1]? = some (.cells #[.int .u8 0, .int .u64 0, .int .i64 0] 104) := (N12.block _ (heap_lt b1) (fun f => f)).trans b1
  have N2 : Hid (Nw w w2) := n2.tr N12
  have l2 : w.heap.size + 1 < w2.heap.size := heap_lt B1
  clear n3 n2 b0 b1 c0 c1 l0 l1 N12
  go_wp2_with fail
  refine (QI.out _).mono ?_
  rintro e w3 ⟨rfl, n4⟩
  obtain ⟨l3, b3, n5⟩ := one_made n4
  have B3 : Hid (w3.heap[w.heap.size + 1]? = some (.cells #[.int .u8 0, .int .u64 0, .int .i64 0] 104)) := (n5.block _ (heap_lt B1) (fun f => f)).trans B1
  obtain ⟨d0, d1, d2⟩ := cell3 b3
  have z0 := frozen_of b3 0
  have z1 := frozen_of b3 1
  have z2 := frozen_of b3 2
  obtain ⟨f0, f1, f2⟩ := cell3 B3.out
  have y0 := frozen_of B3.out 0
  have y1 := frozen_of B3.out 1
  have y2 := frozen_of B3.out 2
  have N3 : Hid (Nw w w3) := N2.out.tr n5
  have l4 := heap_lt B3.out
  clear n4 n5 B1
  go_wp2
  refine bodyPost_ret (results_cell_slot (V := #[.int .u8 (l : Int), .int .u64 (i : Int), .int .i64 (W : Int)]) (ty := 104) (f := (0, 0)) Tryz.results99 Tryz.isAgg104 Tryz.sizeOf104 rfl _ rfl ?_ rfl) rfl ⟨rfl, (by repeat first | with_reducible exact N3.out | with_reducible refine Fr.alloc ?_ _ | with_reducible refine Fr.drew ?_ | (with_reducible refine Fr.setCell ?_ _ _ (fun h => ?_); rotate_left; focus (simp only at h; omega)))⟩
  (repeat first | with_reducible exact B3.out | with_reducible exact heap_new _ _ | with_reducible exact heap_next _ _ _ | with_reducible exact heap_third _ _ _ _ | with_reducible refine hp_dr ?_ | (with_reducible refine hp_ne ?_ ?_; focus omega) | (with_reducible refine hp_al ?_ ?_; focus (first | omega | (simp <;> omega))) | with_reducible apply hp_set) <;> rfl
set_option maxHeartbeats 2000000 in
theorem ptile_no (S L I : Nat) (h : ¬ gdT S (L, I)) (hL : L ≤ 255) (hI : I < 18446744073709551616) (hS : S ≤ 9223372036854775808) (w : World) {B : Nat} {a : Nat → Addr} (hSe : Sent B w a) :
    Calls Tryz.prog 99 #[cd L I, .int .u64 (S : Int)] w fun e w' => e = .returned (.tuple #[tl 0 0 0, sen (a 4)]) ∧ Nw w w' := by
  by_cases hm : may L I
  · obtain ⟨Y, hY⟩ : ∃ Y, Y = (I + 1) * 2 ^ L := ⟨_, rfl⟩
    obtain ⟨X, hX⟩ : ∃ X, X = I * 2 ^ L := ⟨_, rfl⟩
    have QS : Hid (∀ V, Calls Tryz.prog 147 #[cd L I] V fun e w' => e = .returned (.tuple #[sp X Y, .bool true]) ∧ Nw V w') := fun V => by rw [hY, hX]; exact span_yes L I hm V
    have hYS : ¬ Y ≤ S := fun q => h ⟨hm, by rw [← hY]; exact q⟩
    have hle : (S : Int) < (Y : Int) := by omega
    have HS : Hid (Sent B w a) := hSe
    clear hY hX h hm hSe
    go_enter Tryz.func99, Tryz.ntmps99
    go_wp2_with fail
    refine (QS.out _).mono ?_
    rintro e w1 ⟨rfl, n1⟩
    obtain ⟨⟨l0, l1⟩, b0, b1, n2⟩ := two_made n1
    obtain ⟨f0, f1, f2⟩ := cell3 b1
    have y0 := frozen_of b1 0
    have y1 := frozen_of b1 1
    have y2 := frozen_of b1 2
    have hc := (HS.out.fr n2 (fun _ _ f => f)).c4
    have hc0 : 0 < w1.heap.size := World.block_lt_of_cell? _ _ hc
    have hc9 : 0 < w.heap.size := World.block_lt_of_cell? _ _ HS.out.c4
    have hne : ¬ 0 = w.heap.size + 1 := by omega
    have hne2 : ¬ w.heap.size + 1 = 0 := by omega
    clear n1
    go_wp2
    go_region
    all_goals
      go_wp2
      (refine bodyPost_ret (results_cell_slot (V := #[.int .u8 0, .int .u64 0, .int .i64 0]) (ty := 104) (f := (0, 0)) Tryz.results99 Tryz.isAgg104 Tryz.sizeOf104 rfl _ rfl ?_ rfl) rfl ⟨rfl, (by repeat first | with_reducible exact n2 | with_reducible refine Fr.alloc ?_ _ | with_reducible refine Fr.drew ?_ | (with_reducible refine Fr.setCell ?_ _ _ (fun h => ?_); rotate_left; focus (simp only at h; omega)))⟩; (repeat first | with_reducible exact b1 | with_reducible exact heap_new _ _ | with_reducible exact heap_next _ _ _ | with_reducible exact heap_third _ _ _ _ | with_reducible refine hp_dr ?_ | (with_reducible refine hp_ne ?_ ?_; focus omega) | (with_reducible refine hp_al ?_ ?_; focus (first | omega | (simp <;> omega))) | with_reducible apply hp_set) <;> rfl)
  · have QS : Hid (∀ V, Calls Tryz.prog 147 #[cd L I] V fun e w' => e = .returned (.tuple #[sp 0 0, .bool false]) ∧ Nw V w') := fun V => span_no L I hm hL hI V
    have HS : Hid (Sent B w a) := hSe
    clear h hm hSe
    go_enter Tryz.func99, Tryz.ntmps99
    go_wp2_with fail
    refine (QS.out _).mono ?_
    rintro e w1 ⟨rfl, n1⟩
    obtain ⟨⟨l0, l1⟩, b0, b1, n2⟩ := two_made n1
    obtain ⟨f0, f1, f2⟩ := cell3 b1
    have y0 := frozen_of b1 0
    have y1 := frozen_of b1 1
    have y2 := frozen_of b1 2
    have hc := (HS.out.fr n2 (fun _ _ f => f)).c4
    have hc0 : 0 < w1.heap.size := World.block_lt_of_cell? _ _ hc
    have hc9 : 0 < w.heap.size := World.block_lt_of_cell? _ _ HS.out.c4
    have hne : ¬ 0 = w.heap.size + 1 := by omega
    have hne2 : ¬ w.heap.size + 1 = 0 := by omega
    clear n1
    go_wp2
    go_region
    all_goals
      go_wp2
      (refine bodyPost_ret (results_cell_slot (V := #[.int .u8 0, .int .u64 0, .int .i64 0]) (ty := 104) (f := (0, 0)) Tryz.results99 Tryz.isAgg104 Tryz.sizeOf104 rfl _ rfl ?_ rfl) rfl ⟨rfl, (by repeat first | with_reducible exact n2 | with_reducible refine Fr.alloc ?_ _ | with_reducible refine Fr.drew ?_ | (with_reducible refine Fr.setCell ?_ _ _ (fun h => ?_); rotate_left; focus (simp only at h; omega)))⟩; (repeat first | with_reducible exact b1 | with_reducible exact heap_new _ _ | with_reducible exact heap_next _ _ _ | with_reducible exact heap_third _ _ _ _ | with_reducible refine hp_dr ?_ | (with_reducible refine hp_ne ?_ ?_; focus omega) | (with_reducible refine hp_al ?_ ?_; focus (first | omega | (simp <;> omega))) | with_reducible apply hp_set) <;> rfl)
end Go.Proofs.YtlaiomgebkeldaaGreatDoor
