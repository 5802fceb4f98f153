/- tile: In, Of, mayBe: which tiles there are. -/
import Derived.Test.YtjkhcplnedcmeaaGreatDoorCg
import Derived.Deep.Cut
namespace Go.Proofs.YtjkhcplnedcmeaaGreatDoor
open Go.RowKit
set_option linter.unusedVariables false
set_option linter.unusedSimpArgs false
/-- A tile as a value. -/
abbrev tl (L I W : Nat) : Value := .agg #[.int .u8 (L : Int), .int .u64 (I : Int), .int .i64 (W : Int)]
/-- The nodes of a level. -/
def nod8 (L S : Nat) : Nat := S / 2 ^ (8 * L)
/-- How wide a tile is in a log of S leaves; 0: there is none. -/
def wid (L I S : Nat) : Nat := if 7 < L ∨ 9223372036854775808 < S then 0 else min (nod8 L S - I * 256) 256
theorem cell3 {w : World} {b : Nat} {x y z : Value} {t : TypeId} {f : Nat × Nat} (h : w.heap[b]? = some (.cells #[x, y, z] t f)) : w.cell? ⟨b, 0, none⟩ = some x ∧ w.cell? ⟨b, 1, none⟩ = some y ∧ w.cell? ⟨b, 2, none⟩ = some z := ⟨(cell_of h 0).trans rfl, (cell_of h 1).trans rfl, (cell_of h 2).trans rfl⟩
theorem nod_lift (L S : Nat) (hS : S ≤ 9223372036854775808) : ∃ N, N = nod8 L S ∧ N ≤ 9223372036854775808 ∧ (S : Int) / 2 ^ (8 * L) = (N : Int) :=
  ⟨_, rfl, Nat.le_trans (Nat.div_le_self _ _) hS, castd S (8 * L)⟩
set_option maxHeartbeats 1000000 in
theorem in_no (L I S : Nat) (hL : L ≤ 255) (hI : I < 18446744073709551616) (hS : S < 18446744073709551616) (h : wid L I S = 0) (w : World) :
    Calls Tryz.prog 96 #[.int .u8 (L : Int), .int .u64 (I : Int), .int .u64 (S : Int)] w fun e w' => e = .returned (.tuple #[tl 0 0 0, .bool false]) ∧ Nw w w' := by
  by_cases h7 : 7 < L
  · have h7i : (7 : Int) < (L : Int) := by omega
    go_enter Tryz.func96, Tryz.ntmps96
    go_wp2
    (refine bodyPost_ret (results_cell_slot (V := #[.int .u8 0, .int .u64 0, .int .i64 0]) (ty := 120) (f := (0, 0)) Tryz.results96 Tryz.isAgg120 Tryz.sizeOf120 rfl _ rfl ?_ rfl) rfl ⟨rfl, (by repeat first | with_reducible exact nwr w | with_reducible refine Fr.alloc ?_ _ | with_reducible refine Fr.drew ?_ | (with_reducible refine Fr.setCell ?_ _ _ (fun h => ?_); rotate_left; focus (simp only at h; omega)))⟩; (repeat first | with_reducible exact heap_new _ _ | with_reducible exact heap_new _ _ | with_reducible exact heap_next _ _ _ | with_reducible exact heap_third _ _ _ _ | with_reducible refine hp_dr ?_ | (with_reducible refine hp_ne ?_ ?_; focus omega) | (with_reducible refine hp_al ?_ ?_; focus (first | omega | (simp <;> omega))) | with_reducible apply hp_set) <;> rfl)
  by_cases h63 : 9223372036854775808 < S
  · have h7i : ¬ (7 : Int) < (L : Int) := by omega
    have h63i : (9223372036854775808 : Int) < (S : Int) := by omega
    go_enter Tryz.func96, Tryz.ntmps96
    go_wp2
    (refine bodyPost_ret (results_cell_slot (V := #[.int .u8 0, .int .u64 0, .int .i64 0]) (ty := 120) (f := (0, 0)) Tryz.results96 Tryz.isAgg120 Tryz.sizeOf120 rfl _ rfl ?_ rfl) rfl ⟨rfl, (by repeat first | with_reducible exact nwr w | with_reducible refine Fr.alloc ?_ _ | with_reducible refine Fr.drew ?_ | (with_reducible refine Fr.setCell ?_ _ _ (fun h => ?_); rotate_left; focus (simp only at h; omega)))⟩; (repeat first | with_reducible exact heap_new _ _ | with_reducible exact heap_new _ _ | with_reducible exact heap_next _ _ _ | with_reducible exact heap_third _ _ _ _ | with_reducible refine hp_dr ?_ | (with_reducible refine hp_ne ?_ ?_; focus omega) | (with_reducible refine hp_al ?_ ?_; focus (first | omega | (simp <;> omega))) | with_reducible apply hp_set) <;> rfl)
  have hw : min (nod8 L S - I * 256) 256 = 0 := by unfold wid at h; rwa [if_neg (by omega)] at h
  have h7i : ¬ (7 : Int) < (L : Int) := by omega
  have h63i : ¬ (9223372036854775808 : Int) < (S : Int) := by omega
  obtain ⟨N, hN, hNb, ed⟩ := nod_lift L S (by omega)
  rw [← hN] at hw
  clear hN h
  by_cases hgt : N / 256 < I
  · have hgi : ((N : Int) / 256) < (I : Int) := by omega
    go_enter Tryz.func96, Tryz.ntmps96
    go_wp2
    (refine bodyPost_ret (results_cell_slot (V := #[.int .u8 0, .int .u64 0, .int .i64 0]) (ty := 120) (f := (0, 0)) Tryz.results96 Tryz.isAgg120 Tryz.sizeOf120 rfl _ rfl ?_ rfl) rfl ⟨rfl, (by repeat first | with_reducible exact nwr w | with_reducible refine Fr.alloc ?_ _ | with_reducible refine Fr.drew ?_ | (with_reducible refine Fr.setCell ?_ _ _ (fun h => ?_); rotate_left; focus (simp only at h; omega)))⟩; (repeat first | with_reducible exact heap_new _ _ | with_reducible exact heap_new _ _ | with_reducible exact heap_next _ _ _ | with_reducible exact heap_third _ _ _ _ | with_reducible refine hp_dr ?_ | (with_reducible refine hp_ne ?_ ?_; focus omega) | (with_reducible refine hp_al ?_ ?_; focus (first | omega | (simp <;> omega))) | with_reducible apply hp_set) <;> rfl)
  · have hgi : ¬ ((N : Int) / 256) < (I : Int) := by omega
    have hD : (N : Int) - (I : Int) * 256 = 0 := by omega
    go_enter Tryz.func96, Tryz.ntmps96
    go_wp2
    (refine bodyPost_ret (results_cell_slot (V := #[.int .u8 0, .int .u64 0, .int .i64 0]) (ty := 120) (f := (0, 0)) Tryz.results96 Tryz.isAgg120 Tryz.sizeOf120 rfl _ rfl ?_ rfl) rfl ⟨rfl, (by repeat first | with_reducible exact nwr w | with_reducible refine Fr.alloc ?_ _ | with_reducible refine Fr.drew ?_ | (with_reducible refine Fr.setCell ?_ _ _ (fun h => ?_); rotate_left; focus (simp only at h; omega)))⟩; (repeat first | with_reducible exact heap_new _ _ | with_reducible exact heap_new _ _ | with_reducible exact heap_next _ _ _ | with_reducible exact heap_third _ _ _ _ | with_reducible refine hp_dr ?_ | (with_reducible refine hp_ne ?_ ?_; focus omega) | (with_reducible refine hp_al ?_ ?_; focus (first | omega | (simp <;> omega))) | with_reducible apply hp_set) <;> rfl)
set_option maxHeartbeats 1000000 in
theorem in_yes (L I S W : Nat) (hI : I < 18446744073709551616) (h : wid L I S = W) (h0 : 0 < W) (w : World) :
    Calls Tryz.prog 96 #[.int .u8 (L : Int), .int .u64 (I : Int), .int .u64 (S : Int)] w fun e w' => e = .returned (.tuple #[tl L I W, .bool true]) ∧ Nw w w' := by
  have hc : ¬ (7 < L ∨ 9223372036854775808 < S) := fun q => by unfold wid at h; rw [if_pos q] at h; omega
  have hw : min (nod8 L S - I * 256) 256 = W := by unfold wid at h; rwa [if_neg hc] at h
  have hL : L ≤ 7 := by omega
  have hS : S ≤ 9223372036854775808 := by omega
  have h7i : ¬ (7 : Int) < (L : Int) := by omega
  have h63i : ¬ (9223372036854775808 : Int) < (S : Int) := by omega
  obtain ⟨N, hN, hNb, ed⟩ := nod_lift L S hS
  rw [← hN] at hw
  clear hN h hc
  have hgi : ¬ ((N : Int) / 256) < (I : Int) := by omega
  obtain ⟨D, hD⟩ : ∃ D, D = N - I * 256 := ⟨_, rfl⟩
  have eD : (N : Int) - (I : Int) * 256 = (D : Int) := by omega
  rw [← hD] at hw
  have hmin : min (D : Int) 256 = (W : Int) := by omega
  have hne : ((W : Int) == 0) = false := by simp only [beq_eq_false_iff_ne, ne_eq]; omega
  have hI2 : I ≤ 72057594037927936 := by omega
  have hDb : D ≤ 9223372036854775808 := by omega
  have hW : W ≤ 256 := by omega
  clear hw hD
  go_enter Tryz.func96, Tryz.ntmps96
  go_wp2
  (refine bodyPost_ret (results_cell_slot (V := #[.int .u8 (L : Int), .int .u64 (I : Int), .int .i64 (W : Int)]) (ty := 120) (f := (0, 0)) Tryz.results96 Tryz.isAgg120 Tryz.sizeOf120 rfl _ rfl ?_ rfl) rfl ⟨rfl, (by repeat first | with_reducible exact nwr w | with_reducible refine Fr.alloc ?_ _ | with_reducible refine Fr.drew ?_ | (with_reducible refine Fr.setCell ?_ _ _ (fun h => ?_); rotate_left; focus (simp only at h; omega)))⟩; (repeat first | with_reducible exact heap_new _ _ | with_reducible exact heap_new _ _ | with_reducible exact heap_next _ _ _ | with_reducible exact heap_third _ _ _ _ | with_reducible refine hp_dr ?_ | (with_reducible refine hp_ne ?_ ?_; focus omega) | (with_reducible refine hp_al ?_ ?_; focus (first | omega | (simp <;> omega))) | with_reducible apply hp_set) <;> rfl)
end Go.Proofs.YtjkhcplnedcmeaaGreatDoor
namespace Go.Proofs.YtjkhcplnedcmeaaGreatDoor
open Go.RowKit
set_option linter.unusedVariables false
set_option linter.unusedSimpArgs false
theorem results_cell_3 {P : Program} {w : World} {fn : Func} {i j k l : Nat} {t : TypeId} {n g : Nat} {tmps : Array Value} {V : Array Value} {ty : TypeId} {f : Nat × Nat} (hr : fn.results = #[.cell i t, .tmp j, .tmp k, .tmp l]) (hagg : ∀ W : World, (isAgg t).run P W = .ok true W) (hsz : ∀ W : World, (sizeOf t).run P W = .ok n W)
    (hx : tmps.getD i undef = .pointer (some ⟨g, 0, none⟩)) (v u z : Value) (hj : tmps.getD j undef = v) (hk : tmps.getD k undef = u) (hl : tmps.getD l undef = z) (hg : w.heap[g]? = some (.cells V ty f)) (hV : V.size = n) : (results fn tmps).run P w = .ok (.tuple #[.agg V, v, u, z]) w := by
  have hld : (loadCells ⟨g, 0, none⟩ n).run P w = .ok V w := by
    have := run_loadCells_list (P := P) w ⟨g, 0, none⟩ V.toList (fun j v hv => by
      rw [addZ, cell_of hg]
      simpa using hv)
    simpa [hV] using this
  have ha : ∀ W : World, (asAddr (.pointer (some ⟨g, 0, none⟩))).run P W = .ok ⟨g, 0, none⟩ W := fun W => by simp [asAddr]
  have hx2 : tmps[i]?.getD undef = .pointer (some ⟨g, 0, none⟩) := by rw [← hx]; simp [Array.getD]; split <;> simp_all
  have hj2 : tmps[j]?.getD undef = v := by rw [← hj]; simp [Array.getD]; split <;> simp_all
  have hk2 : tmps[k]?.getD undef = u := by rw [← hk]; simp [Array.getD]; split <;> simp_all
  have hl2 : tmps[l]?.getD undef = z := by rw [← hl]; simp [Array.getD]; split <;> simp_all
  simp [results, hr, hx2, hj2, hk2, hl2, ha, loadVar, hagg, hsz, hld]
/-- The place of a tree's hashes, counted through the level. -/
def ofA (L I : Nat) : Nat := I * 2 ^ (L % 8)
def ofW (L : Nat) : Nat := if L / 8 = 7 then 128 else 256
theorem nod8_top (l : Nat) (h : l ≤ 7) : nod8 l 9223372036854775808 = 2 ^ (63 - 8 * l) := by
  unfold nod8
  rw [show (9223372036854775808 : Nat) = 2 ^ (63 - 8 * l) * 2 ^ (8 * l) by rw [← Nat.pow_add, show 63 - 8 * l + 8 * l = 63 by omega], Nat.mul_div_cancel _ (Nat.pow_pos (by decide))]
theorem ofA_lt {L I : Nat} (h : may L I) : ofA L I + 2 ^ (L % 8) ≤ 2 ^ (63 - 8 * (L / 8)) := by
  have h1 := h.1
  have h2 := h.2
  unfold ofA
  have e1 : I * 2 ^ (L % 8) + 2 ^ (L % 8) = (I + 1) * 2 ^ (L % 8) := by rw [Nat.succ_mul]
  rw [e1]
  have e2 : L = L % 8 + 8 * (L / 8) := by omega
  rw [e2, Nat.pow_add, ← Nat.mul_assoc, show (63 : Nat) = (63 - 8 * (L / 8)) + 8 * (L / 8) by omega, Nat.pow_add] at h2
  have h3 := Nat.le_of_mul_le_mul_right h2 (Nat.pow_pos (by decide))
  have e3 : (L % 8 + 8 * (L / 8)) % 8 = L % 8 := by omega
  have e4 : (L % 8 + 8 * (L / 8)) / 8 = L / 8 := by omega
  simpa only [Nat.add_sub_cancel] using h3
theorem ofA_bd {L I : Nat} (h : may L I) : ofA L I < 9223372036854775808 := by
  have h1 := ofA_lt h
  have h2 : 2 ^ (63 - 8 * (L / 8)) ≤ 2 ^ 63 := Nat.pow_le_pow_right (by decide) (by omega)
  have h3 : 0 < 2 ^ (L % 8) := Nat.pow_pos (by decide)
  rw [p63] at h2
  omega
theorem pow8 (j : Nat) (h : j < 8) : 2 ^ j ≤ 128 ∧ 0 < 2 ^ j := by
  have : ∀ j : Fin 8, 2 ^ j.val ≤ 128 ∧ 0 < 2 ^ j.val := by decide
  exact this ⟨j, h⟩
theorem of_wid {L I : Nat} (h : may L I) : wid (L / 8) (ofA L I / 256) 9223372036854775808 = ofW L := by
  have h0 := h.1
  have h1 := ofA_lt h
  have hp := pow8 (L % 8) (by omega)
  unfold wid ofW
  rw [if_neg (by omega), nod8_top (L / 8) (by omega)]
  by_cases h7 : L / 8 = 7
  · rw [if_pos h7]
    rw [h7, show 63 - 8 * 7 = 7 from rfl] at h1 ⊢
    simp only [show (2 : Nat) ^ 7 = 128 from rfl] at h1 ⊢
    omega
  · rw [if_neg h7]
    have e : (2 : Nat) ^ (63 - 8 * (L / 8)) = 256 * 2 ^ (55 - 8 * (L / 8)) := by
      rw [show (256 : Nat) = 2 ^ 8 from rfl, ← Nat.pow_add, show 8 + (55 - 8 * (L / 8)) = 63 - 8 * (L / 8) by omega]
    rw [e] at h1 ⊢
    omega
set_option maxHeartbeats 2000000 in
theorem tof_yes (L I : Nat) (h : may L I) (w : World) :
    Calls Tryz.prog 186 #[cd L I] w fun e w' => e = .returned (.tuple #[tl (L / 8) (ofA L I / 256) (ofW L), .int .i64 ((ofA L I % 256 : Nat) : Int), .int .i64 ((2 ^ (L % 8) : Nat) : Int), .bool true]) ∧ Nw w w' := by
  have hL := h.1
  have hb := ofA_bd h
  have hw := of_wid h
  have hI := may_bd h
  rw [p63] at hI
  have H : Hid (may L I) := h
  obtain ⟨W, hW⟩ : ∃ W, W = ofW L := ⟨_, rfl⟩
  have hW0 : 0 < W := by rw [hW]; unfold ofW; split <;> omega
  rw [← hW] at hw ⊢
  obtain ⟨A, hA⟩ : ∃ A, A = ofA L I := ⟨_, rfl⟩
  rw [← hA] at hw hb ⊢
  have hp := pow8 (L % 8) (by omega)
  have e1 : IntKind.u64.wrap ((I : Int) * 2 ^ (L % 8)) = (A : Int) := by rw [castm, w64, hA]; unfold ofA; unfold ofA at hA; omega
  obtain ⟨C, hC⟩ : ∃ C, C = 2 ^ (L % 8) := ⟨_, rfl⟩
  have e2 : (2 : Int) ^ (L % 8) = (C : Int) := by rw [hC]; exact (pow_cast _).symm
  rw [← hC] at hp ⊢
  rw [e2] at e1
  clear hC
  have QI : Hid (∀ V, Calls Tryz.prog 96 #[.int .u8 ((L : Int) / 8), .int .u64 ((A : Int) / 256), .int .u64 9223372036854775808] V fun e w' => e = .returned (.tuple #[tl (L / 8) (A / 256) W, .bool true]) ∧ Nw V w') := fun V => in_yes (L / 8) (A / 256) 9223372036854775808 W (by omega) hw hW0 V
  clear hW hA h hw
  go_enter Tryz.func186, Tryz.ntmps186
  go_wp2_with fail
  refine (span_yes L I H.out _).mono ?_
  rintro e w1 ⟨rfl, n1⟩
  obtain ⟨⟨l0, l1⟩, b0, b1, n2⟩ := two_made n1
  have c0 := cell2a b0
  have c1 := cell2b b0
  clear n1
  go_wp2_with fail
  refine (QI.out _).mono ?_
  rintro e w2 ⟨rfl, n3⟩
  have b2 := (n3.block _ (heap_lt b1) (fun f => f)).trans b1
  have b02 := (n3.block _ (heap_lt b0) (fun f => f)).trans b0
  have N2 : Nw w w2 := n2.tr n3
  have d := cell3 b2
  obtain ⟨d0, d1, d2⟩ := d
  have z0 := frozen_of b2 0
  have z1 := frozen_of b2 1
  have z2 := frozen_of b2 2
  have l2 := heap_lt b2
  clear n3 n2 b1 c0 c1 b0 l0 l1
  go_wp2
  refine bodyPost_ret (results_cell_3 (V := #[.int .u8 ((L : Int) / 8), .int .u64 ((A : Int) / 256), .int .i64 (W : Int)]) (ty := 120) (f := (0, 0)) Tryz.results186 Tryz.isAgg120 Tryz.sizeOf120 rfl _ _ _ rfl rfl rfl ?_ rfl) rfl ⟨by rw [e2]; rfl, (by repeat first | with_reducible exact N2 | with_reducible refine Fr.alloc ?_ _ | with_reducible refine Fr.drew ?_ | (with_reducible refine Fr.setCell ?_ _ _ (fun h => ?_); rotate_left; focus (simp only at h; omega)))⟩
  (repeat first | with_reducible exact b2 | with_reducible exact heap_new _ _ | with_reducible exact heap_next _ _ _ | with_reducible exact heap_third _ _ _ _ | with_reducible refine hp_dr ?_ | (with_reducible refine hp_ne ?_ ?_; focus omega) | (with_reducible refine hp_al ?_ ?_; focus (first | omega | (simp <;> omega))) | with_reducible apply hp_set) <;> rfl
/-- May a tile be? -/
def mayT (L I : Nat) (W : Int) : Prop := 1 ≤ W ∧ W ≤ (wid L I 9223372036854775808 : Int)
instance (L I : Nat) (W : Int) : Decidable (mayT L I W) := by unfold mayT; infer_instance
set_option maxHeartbeats 2000000 in
theorem maybe_any (L I : Nat) (W : Int) (hL : L ≤ 255) (hI : I < 18446744073709551616) (b : Bool) (hb : b = true ↔ mayT L I W) (w : World) :
    Calls Tryz.prog 99 #[.agg #[.int .u8 (L : Int), .int .u64 (I : Int), .int .i64 W]] w fun e w' => e = .returned (.bool b) ∧ Nw w w' := by
  have HB : Hid (b = true ↔ mayT L I W) := hb
  obtain ⟨X, hX⟩ : ∃ X, X = wid L I 9223372036854775808 := ⟨_, rfl⟩
  have hX2 : X ≤ 256 := by rw [hX]; unfold wid; split <;> omega
  have HM : Hid (b = true ↔ (1 ≤ W ∧ W ≤ (X : Int))) := by unfold mayT at hb; rw [← hX] at hb; exact hb
  clear hb HB
  by_cases h0 : X = 0
  · have q := in_no L I 9223372036854775808 hL hI (by omega) (by rw [← hX]; exact h0)
    obtain rfl : b = false := by rcases b with _ | _; rfl; have := HM.out.1 rfl; omega
    go_enter Tryz.func99, Tryz.ntmps99
    go_wp2_with fail
    refine (q _).mono ?_
    rintro e w1 ⟨rfl, n1⟩
    have n2 : Nw w w1 := (nwa w _).tr n1
    clear q n1
    go_wp2
    go_ret
    exact ⟨rfl, (by repeat first | with_reducible exact n2 | with_reducible refine Fr.alloc ?_ _ | with_reducible refine Fr.drew ?_ | (with_reducible refine Fr.setCell ?_ _ _ (fun h => ?_); rotate_left; focus (simp only at h; omega)))⟩
  · have q := in_yes L I 9223372036854775808 X hI hX.symm (by omega)
    clear hX
    go_enter Tryz.func99, Tryz.ntmps99
    go_wp2_with fail
    refine (q _).mono ?_
    rintro e w1 ⟨rfl, n1⟩
    obtain ⟨l0, b0, n2⟩ := one_made n1
    obtain ⟨c0, c1, c2⟩ := cell3 b0
    clear q n1
    by_cases h1 : 1 ≤ W
    · by_cases h2 : W ≤ (X : Int)
      · obtain rfl : b = true := HM.out.2 ⟨h1, h2⟩
        go_wp2
        go_ret
        exact ⟨rfl, (by repeat first | with_reducible exact n2 | with_reducible refine Fr.alloc ?_ _ | with_reducible refine Fr.drew ?_ | (with_reducible refine Fr.setCell ?_ _ _ (fun h => ?_); rotate_left; focus (simp only at h; omega)))⟩
      · obtain rfl : b = false := by rcases b with _ | _; rfl; have := HM.out.1 rfl; omega
        go_wp2
        go_ret
        exact ⟨ret_b (decide_eq_false (by omega)), (by repeat first | with_reducible exact n2 | with_reducible refine Fr.alloc ?_ _ | with_reducible refine Fr.drew ?_ | (with_reducible refine Fr.setCell ?_ _ _ (fun h => ?_); rotate_left; focus (simp only at h; omega)))⟩
    · obtain rfl : b = false := by rcases b with _ | _; rfl; have := HM.out.1 rfl; omega
      go_wp2
      go_ret
      exact ⟨rfl, (by repeat first | with_reducible exact n2 | with_reducible refine Fr.alloc ?_ _ | with_reducible refine Fr.drew ?_ | (with_reducible refine Fr.setCell ?_ _ _ (fun h => ?_); rotate_left; focus (simp only at h; omega)))⟩
end Go.Proofs.YtjkhcplnedcmeaaGreatDoor
