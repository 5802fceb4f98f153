/- What the document answers: Parent, Sibling, Children. -/
import Derived.Test.YtibkmcmgolbhhaaDoorD1
namespace Go.Proofs.YtibkmcmgolbhhaaDoor
open Go.RowKit
set_option linter.unusedVariables false
set_option linter.unusedSimpArgs false

/-- Parent's answer, whatever the tree. -/
def ParIs (L I p q : Nat) (ok : Bool) : Prop := ((L < 63 ∧ may L I) ∧ p = L + 1 ∧ q = I / 2 ∧ ok = true) ∨ (¬ (L < 63 ∧ may L I) ∧ p = 0 ∧ q = 0 ∧ ok = false)
theorem parIs_ex (L I : Nat) : ∃ p q ok, ParIs L I p q ok ∧ p ≤ 255 ∧ (I < 18446744073709551616 → q < 18446744073709551616) := by
  by_cases h : L < 63 ∧ may L I
  · exact ⟨_, _, _, .inl ⟨h, rfl, rfl, rfl⟩, by omega, fun _ => by omega⟩
  · exact ⟨_, _, _, .inr ⟨h, rfl, rfl, rfl⟩, by omega, fun _ => by omega⟩
theorem parent_any {L I p q : Nat} {ok : Bool} (h : ParIs L I p q ok) (hL : L ≤ 255) (hI : I < 18446744073709551616) (w : World) :
    Calls Tryd.prog 12 #[cd L I] w fun x w' => x = .returned (.tuple #[cd p q, .bool ok]) ∧ Nw w w' := by
  rcases h with ⟨h, rfl, rfl, rfl⟩ | ⟨h, rfl, rfl, rfl⟩
  · exact parent_yes L I h.2 h.1 w
  · exact parent_no L I h hL hI w

set_option maxHeartbeats 1000000 in
theorem rparent_yes (L I : Nat) (h : may L I) (h63 : L < 63) (w : World) :
    Calls Tryd.prog 13 #[cd L I] w fun e w' => e = .returned (.tuple #[cd (L + 1) (I / 2), .bool true]) ∧ Nw w w' := by
  have H : Hid (may L I) := h
  have H2 : Hid (may (L + 1) (I / 2)) := may_up h h63
  have hI := may_bd h
  rw [p63] at hI
  clear h
  have hne : ((L : Int) == 63) = false := by simp; omega
  go_enter Tryd.func13, Tryd.ntmps13
  go_wp2_with fail
  refine (rmay L I true (by simp [H.out]) (by omega) (by omega) _).mono ?_
  rintro e w1 ⟨rfl, n1⟩
  obtain ⟨⟨l0, l1, l2⟩, b0, b1, b2, n2⟩ := three_made n1
  have c0 := cell2a b0
  have c1 := cell2b b0
  have d0 := cell2a b2
  have d1 := cell2b b2
  clear n1
  go_wp2_with fail
  refine (rmay (L + 1) (I / 2) true (by simp [H2.out]) (by omega) (by omega) _).mono ?_
  rintro e w2 ⟨rfl, n3⟩
  have k1 := (n3.block _ l1 (fun f => f)).trans b1
  have k2 := (n3.block _ l2 (fun f => f)).trans b2
  have n4 : Nw w w2 := n2.tr n3
  have l1' := heap_lt k1
  have l2' := heap_lt k2
  clear n3 n2 b0 b1 b2 c0 c1 d0 d1 l0 l1 l2
  have c0 := cell2a k1
  have c1 := cell2b k1
  have z0 := frozen_of k1 0
  have z1 := frozen_of k1 1
  have d0 := cell2a k2
  have d1 := cell2b k2
  go_wp2
  (refine bodyPost_ret (results_cell_slot (V := #[.int .u8 ((L : Int) + 1), .int .u64 ((I : Int) / 2)]) (ty := 24) (f := (0, 0)) Tryd.results13 Tryd.isAgg24 Tryd.sizeOf24 rfl _ rfl ?_ rfl) rfl ⟨rfl, (by repeat first | with_reducible exact n4 | with_reducible refine Fr.alloc ?_ _ | with_reducible refine Fr.drew ?_ | (with_reducible refine Fr.setCell ?_ _ _ (fun h => ?_); rotate_left; focus (simp only at h; omega)))⟩; (repeat first | with_reducible exact k1 | with_reducible exact heap_new _ _ | with_reducible exact heap_next _ _ _ | with_reducible exact heap_third _ _ _ _ | with_reducible refine hp_dr ?_ | (with_reducible refine hp_ne ?_ ?_; focus omega) | (with_reducible refine hp_al ?_ ?_; focus (first | omega | (simp <;> omega))) | with_reducible apply hp_set) <;> rfl)
set_option maxHeartbeats 1000000 in
theorem rparent_no (L I : Nat) (h : ¬ (L < 63 ∧ may L I)) (hL : L ≤ 255) (hI : I < 18446744073709551616) (w : World) :
    Calls Tryd.prog 13 #[cd L I] w fun e w' => e = .returned (.tuple #[cd 0 0, .bool false]) ∧ Nw w w' := by
  by_cases hm : may L I
  · have h63 : L = 63 := by
      have := hm.1
      rcases Nat.lt_or_ge L 63 with k | k
      · exact absurd ⟨k, hm⟩ h
      · omega
    subst h63
    have H : Hid (may 63 I) := hm
    clear h hm
    go_enter Tryd.func13, Tryd.ntmps13
    go_wp2_with fail
    refine (rmay 63 I true (by simp [H.out]) (by omega) (by omega) _).mono ?_
    rintro e w1 ⟨rfl, n1⟩
    obtain ⟨⟨l0, l1, l2⟩, b0, b1, b2, n2⟩ := three_made n1
    have c0 := cell2a b0
    have c1 := cell2b b0
    have d0 := cell2a b1
    have d1 := cell2b b1
    have z0 := frozen_of b1 0
    have z1 := frozen_of b1 1
    clear n1
    go_wp2
    (refine bodyPost_ret (results_cell_slot (V := #[.int .u8 0, .int .u64 0]) (ty := 24) (f := (0, 0)) Tryd.results13 Tryd.isAgg24 Tryd.sizeOf24 rfl _ rfl ?_ rfl) rfl ⟨rfl, (by repeat first | with_reducible exact n2 | with_reducible refine Fr.alloc ?_ _ | with_reducible refine Fr.drew ?_ | (with_reducible refine Fr.setCell ?_ _ _ (fun h => ?_); rotate_left; focus (simp only at h; omega)))⟩; (repeat first | with_reducible exact b1 | with_reducible exact heap_new _ _ | with_reducible exact heap_next _ _ _ | with_reducible exact heap_third _ _ _ _ | with_reducible refine hp_dr ?_ | (with_reducible refine hp_ne ?_ ?_; focus omega) | (with_reducible refine hp_al ?_ ?_; focus (first | omega | (simp <;> omega))) | with_reducible apply hp_set) <;> rfl)
  · have H : Hid (¬ may L I) := hm
    clear h hm
    go_enter Tryd.func13, Tryd.ntmps13
    go_wp2_with fail
    refine (rmay L I false (by simp [H.out]) (by omega) (by omega) _).mono ?_
    rintro e w1 ⟨rfl, n1⟩
    obtain ⟨⟨l0, l1, l2⟩, b0, b1, b2, n2⟩ := three_made n1
    have d0 := cell2a b1
    have d1 := cell2b b1
    have z0 := frozen_of b1 0
    have z1 := frozen_of b1 1
    clear n1
    go_wp2
    (refine bodyPost_ret (results_cell_slot (V := #[.int .u8 0, .int .u64 0]) (ty := 24) (f := (0, 0)) Tryd.results13 Tryd.isAgg24 Tryd.sizeOf24 rfl _ rfl ?_ rfl) rfl ⟨rfl, (by repeat first | with_reducible exact n2 | with_reducible refine Fr.alloc ?_ _ | with_reducible refine Fr.drew ?_ | (with_reducible refine Fr.setCell ?_ _ _ (fun h => ?_); rotate_left; focus (simp only at h; omega)))⟩; (repeat first | with_reducible exact b1 | with_reducible exact heap_new _ _ | with_reducible exact heap_next _ _ _ | with_reducible exact heap_third _ _ _ _ | with_reducible refine hp_dr ?_ | (with_reducible refine hp_ne ?_ ?_; focus omega) | (with_reducible refine hp_al ?_ ?_; focus (first | omega | (simp <;> omega))) | with_reducible apply hp_set) <;> rfl)
theorem rparent_any {L I p q : Nat} {ok : Bool} (h : ParIs L I p q ok) (hL : L ≤ 255) (hI : I < 18446744073709551616) (w : World) :
    Calls Tryd.prog 13 #[cd L I] w fun x w' => x = .returned (.tuple #[cd p q, .bool ok]) ∧ Nw w w' := by
  rcases h with ⟨h, rfl, rfl, rfl⟩ | ⟨h, rfl, rfl, rfl⟩
  · exact rparent_yes L I h.2 h.1 w
  · exact rparent_no L I h hL hI w

/-- Sibling's answer, whatever the tree. -/
def SibIs (L I p q : Nat) (ok : Bool) : Prop := ((L < 63 ∧ may L I) ∧ p = L ∧ q = sib I ∧ ok = true) ∨ (¬ (L < 63 ∧ may L I) ∧ p = 0 ∧ q = 0 ∧ ok = false)
theorem sibIs_ex (L I : Nat) (hI : I < 18446744073709551616) : ∃ p q ok, SibIs L I p q ok ∧ p ≤ 255 ∧ q < 18446744073709551616 := by
  by_cases h : L < 63 ∧ may L I
  · have hb := may_bd h.2
    rw [p63] at hb
    exact ⟨_, _, _, .inl ⟨h, rfl, rfl, rfl⟩, by omega, by unfold sib; split <;> omega⟩
  · exact ⟨_, _, _, .inr ⟨h, rfl, rfl, rfl⟩, by omega, by omega⟩
theorem sibling_any {L I p q : Nat} {ok : Bool} (h : SibIs L I p q ok) (hL : L ≤ 255) (hI : I < 18446744073709551616) (w : World) :
    Calls Tryd.prog 14 #[cd L I] w fun x w' => x = .returned (.tuple #[cd p q, .bool ok]) ∧ Nw w w' := by
  rcases h with ⟨h, rfl, rfl, rfl⟩ | ⟨h, rfl, rfl, rfl⟩
  · exact sibling_yes _ _ h.2 h.1 w
  · exact sibling_no L I h hL hI w
set_option maxHeartbeats 1000000 in
theorem rsibling_yes (L I : Nat) (h : may L I) (h63 : L < 63) (w : World) :
    Calls Tryd.prog 15 #[cd L I] w fun e w' => e = .returned (.tuple #[cd L (sib I), .bool true]) ∧ Nw w w' := by
  have H : Hid (may L I) := h
  have hI := may_bd h
  rw [p63] at hI
  clear h
  have q1 := fun w => rparent_yes L I H.out h63 w
  by_cases hev : I % 2 = 0
  · have hsb : sib I = I + 1 := if_pos hev
    rw [hsb]
    have hm : (((I : Int) % 2) == 0) = true := by simp; omega
    have hm2 : (Int.tmod (I : Int) 2 == 0) = true := by rw [Int.tmod_eq_emod_of_nonneg (by omega)]; exact hm
    clear hev hsb
    go_enter Tryd.func15, Tryd.ntmps15
    go_wp2_with fail
    refine (q1 _).mono ?_
    rintro e w1 ⟨rfl, n1⟩
    obtain ⟨⟨l0, l1⟩, b0, b1, n2⟩ := two_made n1
    have c0 := cell2a b0
    have c1 := cell2b b0
    have d0 := cell2a b1
    have d1 := cell2b b1
    have z0 := frozen_of b1 0
    have z1 := frozen_of b1 1
    clear n1 q1
    go_wp2
    (refine bodyPost_ret (results_cell_slot (V := #[.int .u8 (L : Int), .int .u64 ((I : Int) + 1)]) (ty := 24) (f := (0, 0)) Tryd.results15 Tryd.isAgg24 Tryd.sizeOf24 rfl _ rfl ?_ rfl) rfl ⟨rfl, (by repeat first | with_reducible exact n2 | with_reducible refine Fr.alloc ?_ _ | with_reducible refine Fr.drew ?_ | (with_reducible refine Fr.setCell ?_ _ _ (fun h => ?_); rotate_left; focus (simp only at h; omega)))⟩; (repeat first | with_reducible exact b1 | with_reducible exact heap_new _ _ | with_reducible exact heap_next _ _ _ | with_reducible exact heap_third _ _ _ _ | with_reducible refine hp_dr ?_ | (with_reducible refine hp_ne ?_ ?_; focus omega) | (with_reducible refine hp_al ?_ ?_; focus (first | omega | (simp <;> omega))) | with_reducible apply hp_set) <;> rfl)
  · have hsb : sib I = I - 1 := if_neg hev
    rw [hsb]
    have hm : (((I : Int) % 2) == 0) = false := by simp; omega
    have hm2 : (Int.tmod (I : Int) 2 == 0) = false := by rw [Int.tmod_eq_emod_of_nonneg (by omega)]; exact hm
    have h0 : 0 < I := by omega
    have e1 : (I : Int) - 1 = ((I - 1 : Nat) : Int) := by omega
    clear hev hsb
    go_enter Tryd.func15, Tryd.ntmps15
    go_wp2_with fail
    refine (q1 _).mono ?_
    rintro e w1 ⟨rfl, n1⟩
    obtain ⟨⟨l0, l1⟩, b0, b1, n2⟩ := two_made n1
    have c0 := cell2a b0
    have c1 := cell2b b0
    have d0 := cell2a b1
    have d1 := cell2b b1
    have z0 := frozen_of b1 0
    have z1 := frozen_of b1 1
    clear n1 q1
    go_wp2
    (refine bodyPost_ret (results_cell_slot (V := #[.int .u8 (L : Int), .int .u64 ((I - 1 : Nat) : Int)]) (ty := 24) (f := (0, 0)) Tryd.results15 Tryd.isAgg24 Tryd.sizeOf24 rfl _ rfl ?_ rfl) rfl ⟨rfl, (by repeat first | with_reducible exact n2 | with_reducible refine Fr.alloc ?_ _ | with_reducible refine Fr.drew ?_ | (with_reducible refine Fr.setCell ?_ _ _ (fun h => ?_); rotate_left; focus (simp only at h; omega)))⟩; (repeat first | with_reducible exact b1 | with_reducible exact heap_new _ _ | with_reducible exact heap_next _ _ _ | with_reducible exact heap_third _ _ _ _ | with_reducible refine hp_dr ?_ | (with_reducible refine hp_ne ?_ ?_; focus omega) | (with_reducible refine hp_al ?_ ?_; focus (first | omega | (simp <;> omega))) | with_reducible apply hp_set) <;> rfl)
set_option maxHeartbeats 1000000 in
theorem rsibling_no (L I : Nat) (h : ¬ (L < 63 ∧ may L I)) (hL : L ≤ 255) (hI : I < 18446744073709551616) (w : World) :
    Calls Tryd.prog 15 #[cd L I] w fun e w' => e = .returned (.tuple #[cd 0 0, .bool false]) ∧ Nw w w' := by
  have q1 := fun w => rparent_no L I h hL hI w
  clear h
  go_enter Tryd.func15, Tryd.ntmps15
  go_wp2_with fail
  refine (q1 _).mono ?_
  rintro e w1 ⟨rfl, n1⟩
  obtain ⟨⟨l0, l1⟩, b0, b1, n2⟩ := two_made n1
  have d0 := cell2a b1
  have d1 := cell2b b1
  have z0 := frozen_of b1 0
  have z1 := frozen_of b1 1
  clear n1 q1
  go_wp2
  (refine bodyPost_ret (results_cell_slot (V := #[.int .u8 0, .int .u64 0]) (ty := 24) (f := (0, 0)) Tryd.results15 Tryd.isAgg24 Tryd.sizeOf24 rfl _ rfl ?_ rfl) rfl ⟨rfl, (by repeat first | with_reducible exact n2 | with_reducible refine Fr.alloc ?_ _ | with_reducible refine Fr.drew ?_ | (with_reducible refine Fr.setCell ?_ _ _ (fun h => ?_); rotate_left; focus (simp only at h; omega)))⟩; (repeat first | with_reducible exact b1 | with_reducible exact heap_new _ _ | with_reducible exact heap_next _ _ _ | with_reducible exact heap_third _ _ _ _ | with_reducible refine hp_dr ?_ | (with_reducible refine hp_ne ?_ ?_; focus omega) | (with_reducible refine hp_al ?_ ?_; focus (first | omega | (simp <;> omega))) | with_reducible apply hp_set) <;> rfl)
theorem rsibling_any {L I p q : Nat} {ok : Bool} (h : SibIs L I p q ok) (hL : L ≤ 255) (hI : I < 18446744073709551616) (w : World) :
    Calls Tryd.prog 15 #[cd L I] w fun x w' => x = .returned (.tuple #[cd p q, .bool ok]) ∧ Nw w w' := by
  rcases h with ⟨h, rfl, rfl, rfl⟩ | ⟨h, rfl, rfl, rfl⟩
  · exact rsibling_yes _ _ h.2 h.1 w
  · exact rsibling_no L I h hL hI w
end Go.Proofs.YtibkmcmgolbhhaaDoor
