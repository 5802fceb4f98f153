/- What the document answers: Children, Of. -/
import Derived.Test.YtibkmcmgolbhhaaDoorD2
import Derived.BigRegion
namespace Go.Proofs.YtibkmcmgolbhhaaDoor
open Go.RowKit
set_option linter.unusedVariables false
set_option linter.unusedSimpArgs false

/-- Children's answer, whatever the tree. -/
def ChiIs (L I a b c d : Nat) (ok : Bool) : Prop := ((0 < L ∧ may L I) ∧ a = L - 1 ∧ b = 2 * I ∧ c = L - 1 ∧ d = 2 * I + 1 ∧ ok = true) ∨ (¬ (0 < L ∧ may L I) ∧ a = 0 ∧ b = 0 ∧ c = 0 ∧ d = 0 ∧ ok = false)
theorem may_half {L I : Nat} (h : may L I) (h0 : 0 < L) : I < 4611686018427387904 := by
  have h1 := h.2
  have h2 : 2 ^ 1 ≤ 2 ^ L := pow_le2 h0
  have h3 : (I + 1) * 2 ^ 1 ≤ (I + 1) * 2 ^ L := Nat.mul_le_mul_left _ h2
  rw [p63] at h1
  omega
theorem chiIs_ex (L I : Nat) (hL : L ≤ 255) : ∃ a b c d ok, ChiIs L I a b c d ok ∧ a ≤ 255 ∧ b < 18446744073709551616 ∧ c ≤ 255 ∧ d < 18446744073709551616 := by
  by_cases h : 0 < L ∧ may L I
  · have := may_half h.2 h.1
    exact ⟨_, _, _, _, _, .inl ⟨h, rfl, rfl, rfl, rfl, rfl⟩, by omega, by omega, by omega, by omega⟩
  · exact ⟨_, _, _, _, _, .inr ⟨h, rfl, rfl, rfl, rfl, rfl⟩, by omega, by omega, by omega, by omega⟩
theorem children_any {L I a b c d : Nat} {ok : Bool} (h : ChiIs L I a b c d ok) (hL : L ≤ 255) (hI : I < 18446744073709551616) (w : World) :
    Calls Tryd.prog 16 #[cd L I] w fun x w' => x = .returned (.tuple #[cd a b, cd c d, .bool ok]) ∧ Nw w w' := by
  rcases h with ⟨h, rfl, rfl, rfl, rfl, rfl⟩ | ⟨h, rfl, rfl, rfl, rfl, rfl⟩
  · exact children_yes L I h.2 h.1 w
  · exact children_no L I h hL hI w
set_option maxHeartbeats 2000000 in
theorem rchildren_yes (L I : Nat) (h : may L I) (h0 : 0 < L) (w : World) :
    Calls Tryd.prog 17 #[cd L I] w fun e w' => e = .returned (.tuple #[cd (L - 1) (2 * I), cd (L - 1) (2 * I + 1), .bool true]) ∧ Nw w w' := by
  have H : Hid (may L I) := h
  have hL := h.1
  have hI := may_half h h0
  have e1 : (L : Int) - 1 = ((L - 1 : Nat) : Int) := by omega
  have hz : ((L : Int) == 0) = false := by simp; omega
  clear h
  go_enter Tryd.func17, Tryd.ntmps17
  go_wp2_with fail
  refine (rmay L I true (by simp [H.out]) (by omega) (by omega) _).mono ?_
  rintro e w1 ⟨rfl, n1⟩
  obtain ⟨⟨l0, l1, l2⟩, b0, b1, b2, n2⟩ := three_made n1
  have c0 := cell2a b0
  have c1 := cell2b b0
  have d0 := cell2a b1
  have d1 := cell2b b1
  have z0 := frozen_of b1 0
  have z1 := frozen_of b1 1
  have g0 := cell2a b2
  have g1 := cell2b b2
  have x0 := frozen_of b2 0
  have x1 := frozen_of b2 1
  clear n1
  go_wp2
  go_region
  go_wp2
  (refine bodyPost_ret (results_cells_slot (V := #[.int .u8 ((L - 1 : Nat) : Int), .int .u64 (2 * (I : Int))]) (ty := 24) (f := (0, 0)) (U := #[.int .u8 ((L - 1 : Nat) : Int), .int .u64 (2 * (I : Int) + 1)]) (tz := 24) (f2 := (0, 0)) Tryd.results17 Tryd.isAgg24 Tryd.sizeOf24 rfl rfl _ rfl ?hg rfl ?hk rfl) rfl ⟨rfl, (by repeat first | with_reducible exact n2 | with_reducible refine Fr.alloc ?_ _ | with_reducible refine Fr.drew ?_ | (with_reducible refine Fr.setCell ?_ _ _ (fun h => ?_); rotate_left; focus (simp only at h; omega)))⟩; (case hg => ((repeat first | with_reducible exact b1 | with_reducible exact heap_new _ _ | with_reducible exact heap_next _ _ _ | with_reducible exact heap_third _ _ _ _ | with_reducible refine hp_dr ?_ | (with_reducible refine hp_ne ?_ ?_; focus omega) | (with_reducible refine hp_al ?_ ?_; focus (first | omega | (simp <;> omega))) | with_reducible apply hp_set) <;> rfl)); (case hk => ((repeat first | with_reducible exact b2 | with_reducible exact heap_new _ _ | with_reducible exact heap_next _ _ _ | with_reducible exact heap_third _ _ _ _ | with_reducible refine hp_dr ?_ | (with_reducible refine hp_ne ?_ ?_; focus omega) | (with_reducible refine hp_al ?_ ?_; focus (first | omega | (simp <;> omega))) | with_reducible apply hp_set) <;> rfl)))
set_option maxHeartbeats 1000000 in
theorem rchildren_no (L I : Nat) (h : ¬ (0 < L ∧ may L I)) (hL : L ≤ 255) (hI : I < 18446744073709551616) (w : World) :
    Calls Tryd.prog 17 #[cd L I] w fun e w' => e = .returned (.tuple #[cd 0 0, cd 0 0, .bool false]) ∧ Nw w w' := by
  by_cases hm : may L I
  · have h0 : L = 0 := by
      rcases Nat.eq_zero_or_pos L with k | k
      · exact k
      · exact absurd ⟨k, hm⟩ h
    subst h0
    have H : Hid (may 0 I) := hm
    clear h hm
    go_enter Tryd.func17, Tryd.ntmps17
    go_wp2_with fail
    refine (rmay 0 I true (by simp [H.out]) (by omega) (by omega) _).mono ?_
    rintro e w1 ⟨rfl, n1⟩
    obtain ⟨⟨l0, l1, l2⟩, b0, b1, b2, n2⟩ := three_made n1
    have c0 := cell2a b0
    have c1 := cell2b b0
    have d0 := cell2a b1
    have d1 := cell2b b1
    have z0 := frozen_of b1 0
    have z1 := frozen_of b1 1
    have g0 := cell2a b2
    have g1 := cell2b b2
    have x0 := frozen_of b2 0
    have x1 := frozen_of b2 1
    clear n1
    go_wp2
    (refine bodyPost_ret (results_cells_slot (V := #[.int .u8 0, .int .u64 0]) (ty := 24) (f := (0, 0)) (U := #[.int .u8 0, .int .u64 0]) (tz := 24) (f2 := (0, 0)) Tryd.results17 Tryd.isAgg24 Tryd.sizeOf24 rfl rfl _ rfl ?hg rfl ?hk rfl) rfl ⟨rfl, (by repeat first | with_reducible exact n2 | with_reducible refine Fr.alloc ?_ _ | with_reducible refine Fr.drew ?_ | (with_reducible refine Fr.setCell ?_ _ _ (fun h => ?_); rotate_left; focus (simp only at h; omega)))⟩; (case hg => ((repeat first | with_reducible exact b1 | with_reducible exact heap_new _ _ | with_reducible exact heap_next _ _ _ | with_reducible exact heap_third _ _ _ _ | with_reducible refine hp_dr ?_ | (with_reducible refine hp_ne ?_ ?_; focus omega) | (with_reducible refine hp_al ?_ ?_; focus (first | omega | (simp <;> omega))) | with_reducible apply hp_set) <;> rfl)); (case hk => ((repeat first | with_reducible exact b2 | with_reducible exact heap_new _ _ | with_reducible exact heap_next _ _ _ | with_reducible exact heap_third _ _ _ _ | with_reducible refine hp_dr ?_ | (with_reducible refine hp_ne ?_ ?_; focus omega) | (with_reducible refine hp_al ?_ ?_; focus (first | omega | (simp <;> omega))) | with_reducible apply hp_set) <;> rfl)))
  · have H : Hid (¬ may L I) := hm
    clear h hm
    go_enter Tryd.func17, Tryd.ntmps17
    go_wp2_with fail
    refine (rmay L I false (by simp [H.out]) (by omega) (by omega) _).mono ?_
    rintro e w1 ⟨rfl, n1⟩
    obtain ⟨⟨l0, l1, l2⟩, b0, b1, b2, n2⟩ := three_made n1
    have d0 := cell2a b1
    have d1 := cell2b b1
    have z0 := frozen_of b1 0
    have z1 := frozen_of b1 1
    have g0 := cell2a b2
    have g1 := cell2b b2
    have x0 := frozen_of b2 0
    have x1 := frozen_of b2 1
    clear n1
    go_wp2
    (refine bodyPost_ret (results_cells_slot (V := #[.int .u8 0, .int .u64 0]) (ty := 24) (f := (0, 0)) (U := #[.int .u8 0, .int .u64 0]) (tz := 24) (f2 := (0, 0)) Tryd.results17 Tryd.isAgg24 Tryd.sizeOf24 rfl rfl _ rfl ?hg rfl ?hk rfl) rfl ⟨rfl, (by repeat first | with_reducible exact n2 | with_reducible refine Fr.alloc ?_ _ | with_reducible refine Fr.drew ?_ | (with_reducible refine Fr.setCell ?_ _ _ (fun h => ?_); rotate_left; focus (simp only at h; omega)))⟩; (case hg => ((repeat first | with_reducible exact b1 | with_reducible exact heap_new _ _ | with_reducible exact heap_next _ _ _ | with_reducible exact heap_third _ _ _ _ | with_reducible refine hp_dr ?_ | (with_reducible refine hp_ne ?_ ?_; focus omega) | (with_reducible refine hp_al ?_ ?_; focus (first | omega | (simp <;> omega))) | with_reducible apply hp_set) <;> rfl)); (case hk => ((repeat first | with_reducible exact b2 | with_reducible exact heap_new _ _ | with_reducible exact heap_next _ _ _ | with_reducible exact heap_third _ _ _ _ | with_reducible refine hp_dr ?_ | (with_reducible refine hp_ne ?_ ?_; focus omega) | (with_reducible refine hp_al ?_ ?_; focus (first | omega | (simp <;> omega))) | with_reducible apply hp_set) <;> rfl)))
theorem rchildren_any {L I a b c d : Nat} {ok : Bool} (h : ChiIs L I a b c d ok) (hL : L ≤ 255) (hI : I < 18446744073709551616) (w : World) :
    Calls Tryd.prog 17 #[cd L I] w fun x w' => x = .returned (.tuple #[cd a b, cd c d, .bool ok]) ∧ Nw w w' := by
  rcases h with ⟨h, rfl, rfl, rfl, rfl, rfl⟩ | ⟨h, rfl, rfl, rfl, rfl, rfl⟩
  · exact rchildren_yes L I h.2 h.1 w
  · exact rchildren_no L I h hL hI w

/-- Of's answer, whatever the stretch. -/
def OfIs (b e L I : Nat) (ok : Bool) : Prop := (may L I ∧ b = I * 2 ^ L ∧ e = (I + 1) * 2 ^ L ∧ ok = true) ∨ ((∀ L I, may L I → ¬ (b = I * 2 ^ L ∧ e = (I + 1) * 2 ^ L)) ∧ L = 0 ∧ I = 0 ∧ ok = false)
theorem ofIs_ex (b e : Nat) : ∃ L I ok, OfIs b e L I ok ∧ L ≤ 255 ∧ I < 18446744073709551616 := by
  by_cases h : ∃ L I, may L I ∧ b = I * 2 ^ L ∧ e = (I + 1) * 2 ^ L
  · obtain ⟨L, I, h, h1, h2⟩ := h
    have := h.1
    have hb := may_bd h
    rw [p63] at hb
    exact ⟨L, I, true, .inl ⟨h, h1, h2, rfl⟩, by omega, by omega⟩
  · exact ⟨0, 0, false, .inr ⟨fun L I k k2 => h ⟨L, I, k, k2⟩, rfl, rfl, rfl⟩, by omega, by omega⟩
theorem of_any {b e L I : Nat} {ok : Bool} (h : OfIs b e L I ok) (hb : b < 18446744073709551616) (he : e < 18446744073709551616) (w : World) (hT : TabAt w) :
    Calls Tryd.prog 10 #[sp b e] w fun x w' => x = .returned (.tuple #[cd L I, .bool ok]) ∧ Nw w w' := by
  rcases h with ⟨h, rfl, rfl, rfl⟩ | ⟨h, rfl, rfl, rfl⟩
  · exact of_yes L I h w hT
  · exact of_no b e h hb he w hT
end Go.Proofs.YtibkmcmgolbhhaaDoor
