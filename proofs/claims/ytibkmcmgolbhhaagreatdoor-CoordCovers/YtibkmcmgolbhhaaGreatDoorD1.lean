/- What the document answers of a tree and of a stretch. -/
import Derived.Test.YtibkmcmgolbhhaaGreatDoorC9
namespace Go.Proofs.YtibkmcmgolbhhaaGreatDoor
open Go.RowKit
set_option linter.unusedVariables false
set_option linter.unusedSimpArgs false

theorem end_div (L : Nat) (h : L ≤ 63) : (9223372036854775808 : Int) / 2 ^ L = ((2 ^ (63 - L) : Nat) : Int) := by
  have e : (9223372036854775808 : Int) = ((9223372036854775808 : Nat) : Int) := rfl
  rw [e, castd, ← p63]
  congr 1
  exact Nat.pow_div h (by decide)
set_option maxHeartbeats 1000000 in
theorem rmay (L I : Nat) (b : Bool) (hb : b = true ↔ may L I) (hL : L ≤ 255) (hI : I < 18446744073709551616) (w : World) :
    Calls Tryz.prog 70 #[cd L I] w fun e w' => e = .returned (.bool b) ∧ Nw w w' := by
  have HB : Hid (b = true ↔ may L I) := hb
  clear hb
  by_cases h : L ≤ 63
  · have hi : ¬ (L : Int) > 63 := by omega
    have hd := end_div L h
    have HL := may_lt (I := I) h
    have HM : Hid (may L I ↔ I < 2 ^ (63 - L)) := HL
    clear HL
    obtain ⟨q, hq⟩ : ∃ q, q = 2 ^ (63 - L) := ⟨_, rfl⟩
    rw [← hq] at hd HM
    clear hq
    go_enter Tryz.func70, Tryz.ntmps70
    go_wp2
    go_ret
    refine ⟨ret_b ?_, nwa w _⟩
    rw [Bool.eq_iff_iff, HB.out, HM.out]
    simp
  · have hi : (L : Int) > 63 := by omega
    have hn : ¬ may L I := fun k => h k.1
    obtain rfl : b = false := by rcases b with _ | _; rfl; exact absurd (HB.out.1 rfl) hn
    go_enter Tryz.func70, Tryz.ntmps70
    go_wp2
    go_ret
    exact ⟨rfl, nwa w _⟩

set_option maxHeartbeats 1000000 in
theorem rspan_yes (L I : Nat) (h : may L I) (w : World) :
    Calls Tryz.prog 12 #[cd L I] w fun e w' => e = .returned (.tuple #[sp (I * 2 ^ L) ((I + 1) * 2 ^ L), .bool true]) ∧ Nw w w' := by
  have H : Hid (may L I) := h
  have hL := h.1
  have hI := may_bd h
  rw [p63] at hI
  have hb := h.2
  rw [p63] at hb
  have h2L := two_le hL
  have hp := Nat.two_pow_pos L
  have e0 : IntKind.u64.wrap (2 ^ L) = ((2 ^ L : Nat) : Int) := by rw [← pow_cast, w64]; omega
  obtain ⟨q, hq⟩ : ∃ q, q = 2 ^ L := ⟨_, rfl⟩
  rw [← hq] at hb h2L hp e0 ⊢
  have hle : I * q + q ≤ 9223372036854775808 := by rw [Nat.add_mul, Nat.one_mul] at hb; exact hb
  have e1 : IntKind.u64.wrap ((I : Int) * (q : Int)) = ((I * q : Nat) : Int) := by rw [w64, ← Int.natCast_mul]; omega
  have e2 : (I + 1) * q = I * q + q := by rw [Nat.add_mul, Nat.one_mul]
  rw [e2]
  obtain ⟨x, hx⟩ : ∃ x, x = I * q := ⟨_, rfl⟩
  rw [← hx] at e1 hle ⊢
  clear h hb hq hx e2
  go_enter Tryz.func12, Tryz.ntmps12
  go_wp2_with fail
  refine (rmay L I true (by simp [H.out]) (by omega) (by omega) _).mono ?_
  rintro e w1 ⟨rfl, n1⟩
  obtain ⟨⟨l0, l1⟩, b0, b1, n2⟩ := two_made n1
  have c0 := cell2a b0
  have c1 := cell2b b0
  have d0 := cell2a b1
  have d1 := cell2b b1
  have z0 := frozen_of b1 0
  have z1 := frozen_of b1 1
  clear n1
  go_wp2
  (refine bodyPost_ret (results_cell_slot (V := #[.int .u64 (x : Int), .int .u64 ((x : Int) + (q : Int))]) (ty := 24) (f := (0, 0)) Tryz.results12 Tryz.isAgg24 Tryz.sizeOf24 rfl _ rfl ?_ rfl) rfl ⟨rfl, (by repeat first | with_reducible exact n2 | with_reducible refine Fr.alloc ?_ _ | with_reducible refine Fr.drew ?_ | (with_reducible refine Fr.setCell ?_ _ _ (fun h => ?_); rotate_left; focus (simp only at h; omega)))⟩; (repeat first | with_reducible exact b1 | with_reducible exact heap_new _ _ | with_reducible exact heap_next _ _ _ | with_reducible exact heap_third _ _ _ _ | with_reducible refine hp_dr ?_ | (with_reducible refine hp_ne ?_ ?_; focus omega) | (with_reducible refine hp_al ?_ ?_; focus (first | omega | (simp <;> omega))) | with_reducible apply hp_set) <;> rfl)
set_option maxHeartbeats 1000000 in
theorem rspan_no (L I : Nat) (h : ¬ may L I) (hL : L ≤ 255) (hI : I < 18446744073709551616) (w : World) :
    Calls Tryz.prog 12 #[cd L I] w fun e w' => e = .returned (.tuple #[sp 0 0, .bool false]) ∧ Nw w w' := by
  go_enter Tryz.func12, Tryz.ntmps12
  go_wp2_with fail
  refine (rmay L I false (by simp [h]) (by omega) (by omega) _).mono ?_
  rintro e w1 ⟨rfl, n1⟩
  obtain ⟨⟨l0, l1⟩, b0, b1, n2⟩ := two_made n1
  have d0 := cell2a b1
  have d1 := cell2b b1
  have z0 := frozen_of b1 0
  have z1 := frozen_of b1 1
  clear n1
  go_wp2
  (refine bodyPost_ret (results_cell_slot (V := #[.int .u64 0, .int .u64 0]) (ty := 24) (f := (0, 0)) Tryz.results12 Tryz.isAgg24 Tryz.sizeOf24 rfl _ rfl ?_ rfl) rfl ⟨rfl, (by repeat first | with_reducible exact n2 | with_reducible refine Fr.alloc ?_ _ | with_reducible refine Fr.drew ?_ | (with_reducible refine Fr.setCell ?_ _ _ (fun h => ?_); rotate_left; focus (simp only at h; omega)))⟩; (repeat first | with_reducible exact b1 | with_reducible exact heap_new _ _ | with_reducible exact heap_next _ _ _ | with_reducible exact heap_third _ _ _ _ | with_reducible refine hp_dr ?_ | (with_reducible refine hp_ne ?_ ?_; focus omega) | (with_reducible refine hp_al ?_ ?_; focus (first | omega | (simp <;> omega))) | with_reducible apply hp_set) <;> rfl)

/-- Span's answer, whatever the tree. -/
def SpanIs (L I b e : Nat) (ok : Bool) : Prop := (may L I ∧ b = I * 2 ^ L ∧ e = (I + 1) * 2 ^ L ∧ ok = true) ∨ (¬ may L I ∧ b = 0 ∧ e = 0 ∧ ok = false)
theorem spanIs_ex (L I : Nat) : ∃ b e ok, SpanIs L I b e ok ∧ b ≤ 9223372036854775808 ∧ e ≤ 9223372036854775808 := by
  by_cases h : may L I
  · have := h.2
    rw [p63] at this
    have h2 : I * 2 ^ L ≤ (I + 1) * 2 ^ L := Nat.mul_le_mul_right _ (by omega)
    exact ⟨_, _, _, .inl ⟨h, rfl, rfl, rfl⟩, by omega, this⟩
  · exact ⟨_, _, _, .inr ⟨h, rfl, rfl, rfl⟩, by omega, by omega⟩
theorem span_any {L I b e : Nat} {ok : Bool} (h : SpanIs L I b e ok) (hL : L ≤ 255) (hI : I < 18446744073709551616) (w : World) :
    Calls Tryz.prog 66 #[cd L I] w fun x w' => x = .returned (.tuple #[sp b e, .bool ok]) ∧ Nw w w' := by
  rcases h with ⟨h, rfl, rfl, rfl⟩ | ⟨h, rfl, rfl, rfl⟩
  · exact span_yes L I h w
  · exact span_no L I h hL hI w
theorem rspan_any {L I b e : Nat} {ok : Bool} (h : SpanIs L I b e ok) (hL : L ≤ 255) (hI : I < 18446744073709551616) (w : World) :
    Calls Tryz.prog 12 #[cd L I] w fun x w' => x = .returned (.tuple #[sp b e, .bool ok]) ∧ Nw w w' := by
  rcases h with ⟨h, rfl, rfl, rfl⟩ | ⟨h, rfl, rfl, rfl⟩
  · exact rspan_yes L I h w
  · exact rspan_no L I h hL hI w
end Go.Proofs.YtibkmcmgolbhhaaGreatDoor
