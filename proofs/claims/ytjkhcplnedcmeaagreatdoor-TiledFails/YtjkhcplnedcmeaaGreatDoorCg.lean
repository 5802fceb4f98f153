/- What the parts of package coord answer: which trees and stretches may be. -/
import Derived.Test.YtjkhcplnedcmeaaGreatDoorBpl
import Derived.Test.YtjkhcplnedcmeaaGreatDoorM1
import Derived.Test.YtjkhcplnedcmeaaGreatDoorLb
import Derived.WalkSpells
import Derived.WalkLawsBesides
import Derived.Test.YtjkhcplnedcmeaaGreatDoorAg
import Derived.Deep.RegionHeld3
import Derived.Maps.AppendAt
namespace Go.Proofs.YtjkhcplnedcmeaaGreatDoor
open Go.RowKit
set_option linter.unusedVariables false
set_option linter.unusedSimpArgs false

/-- A tree, and a stretch, as values. -/
abbrev cd (L I : Nat) : Value := .agg #[.int .u8 (L : Int), .int .u64 (I : Int)]
abbrev sp (b e : Nat) : Value := .agg #[.int .u64 (b : Int), .int .u64 (e : Int)]

theorem nwa (w : World) (o : Obj) : Nw w (w.alloc o) := (Fr.refl _ _).alloc _
theorem nwr (w : World) : Nw w w := Fr.refl _ _
theorem ret_b {a b : Bool} (h : a = b) : Ending.returned (.bool a) = .returned (.bool b) := by rw [h]
theorem castd (I k : Nat) : (I : Int) / 2 ^ k = ((I / 2 ^ k : Nat) : Int) := by rw [← pow_cast]; exact (Int.natCast_ediv _ _).symm
theorem castm (I k : Nat) : (I : Int) * 2 ^ k = ((I * 2 ^ k : Nat) : Int) := by rw [← pow_cast]; exact (Int.natCast_mul _ _).symm
theorem p63 : (2 : Nat) ^ 63 = 9223372036854775808 := by decide
set_option maxHeartbeats 1000000 in
theorem tmb (L I : Nat) (b : Bool) (hb : b = true ↔ may L I) (hL : L ≤ 255) (hI : I < 18446744073709551616) (w : World) :
    Calls Tryz.prog 191 #[cd L I] w fun e w' => e = .returned (.bool b) ∧ Nw w w' := by
  have HB : Hid (b = true ↔ may L I) := hb
  clear hb
  by_cases h : L ≤ 63
  · go_enter Tryz.func191, Tryz.ntmps191
    go_wp2
    go_ret
    refine ⟨ret_b ?_, nwa w _⟩
    rw [Bool.eq_iff_iff, HB.out, may_div h, castd, beq_iff_eq]
    omega
  · have hn : ¬ may L I := fun k => h k.1
    obtain rfl : b = false := by rcases b with _ | _; rfl; exact absurd (HB.out.1 rfl) hn
    go_enter Tryz.func191, Tryz.ntmps191
    go_wp2
    go_ret
    exact ⟨rfl, nwa w _⟩

set_option maxHeartbeats 1000000 in
theorem smb (b e : Nat) (r : Bool) (hr : r = true ↔ b ≤ e ∧ e ≤ 9223372036854775808) (hb : b < 18446744073709551616) (he : e < 18446744073709551616) (w : World) :
    Calls Tryz.prog 189 #[sp b e] w fun x w' => x = .returned (.bool r) ∧ Nw w w' := by
  have HR : Hid (r = true ↔ b ≤ e ∧ e ≤ 9223372036854775808) := hr
  clear hr
  by_cases h : b ≤ e
  · go_enter Tryz.func189, Tryz.ntmps189
    go_wp2
    go_ret
    refine ⟨ret_b ?_, nwa w _⟩
    rw [Bool.eq_iff_iff, HR.out]
    simp only [decide_eq_true_eq]
    omega
  · obtain rfl : r = false := by rcases r with _ | _; rfl; exact absurd (HR.out.1 rfl).1 h
    go_enter Tryz.func189, Tryz.ntmps189
    go_wp2
    go_ret
    exact ⟨rfl, nwa w _⟩

end Go.Proofs.YtjkhcplnedcmeaaGreatDoor
namespace Go.Proofs.YtjkhcplnedcmeaaGreatDoor
open Go.RowKit
set_option linter.unusedVariables false
set_option linter.unusedSimpArgs false

theorem cell2a {w : World} {b : Nat} {x y : Value} {t : TypeId} {f : Nat × Nat} (h : w.heap[b]? = some (.cells #[x, y] t f)) : w.cell? ⟨b, 0, none⟩ = some x := (cell_of h 0).trans rfl
theorem cell2b {w : World} {b : Nat} {x y : Value} {t : TypeId} {f : Nat × Nat} (h : w.heap[b]? = some (.cells #[x, y] t f)) : w.cell? ⟨b, 1, none⟩ = some y := (cell_of h 1).trans rfl
/-- Two blocks that were made ahead of a call, behind it. -/
theorem two_made {w w1 : World} {o p : Obj} (n1 : Nw ((w.alloc o).alloc p) w1) : (w.heap.size < w1.heap.size ∧ w.heap.size + 1 < w1.heap.size) ∧ w1.heap[w.heap.size]? = some o ∧ w1.heap[w.heap.size + 1]? = some p ∧ Nw w w1 :=
  ⟨by have := n1.size; simp at this; omega, (n1.block _ (by simp; omega) (fun f => f)).trans ((Below.heap_alloc _ _ _ (by simp)).trans (heap_new w _)), (n1.block _ (by simp) (fun f => f)).trans (heap_next w _ _), Nw.tr ((nwa w _).alloc _) n1⟩
theorem one_made {w w1 : World} {o : Obj} (n1 : Nw (w.alloc o) w1) : w.heap.size < w1.heap.size ∧ w1.heap[w.heap.size]? = some o ∧ Nw w w1 :=
  ⟨by have := n1.size; simp at this; omega, (n1.block _ (by simp) (fun f => f)).trans (heap_new w _), Nw.tr (nwa w _) n1⟩
theorem hp_set {w : World} {b o : Nat} {c c' : Array Value} {t : TypeId} {f : Nat × Nat} {u : Value} (h : w.heap[b]? = some (.cells c t f)) (hc : c.setIfInBounds o u = c') : (w.setCell ⟨b, o, none⟩ u).heap[b]? = some (.cells c' t f) := by rw [← hc]; exact heap_set h u
theorem hp_ne {w : World} {b k o : Nat} {u : Value} {X : Option Obj} (hne : k ≠ b) (h : w.heap[k]? = X) : (w.setCell ⟨b, o, none⟩ u).heap[k]? = X := (heap_set_ne hne u).trans h
theorem hp_al {w : World} {k : Nat} {o : Obj} {X : Option Obj} (hk : k < w.heap.size) (h : w.heap[k]? = X) : (w.alloc o).heap[k]? = X := (Below.heap_alloc _ _ _ hk).trans h
theorem hp_dr {w : World} {k : Nat} {X : Option Obj} (h : w.heap[k]? = X) : w.drew.heap[k]? = X := h
theorem heap_third (w : World) (o p q : Obj) : (((w.alloc o).alloc p).alloc q).heap[w.heap.size + 1 + 1]? = some q := by
  have := heap_next (w.alloc o) p q
  rwa [World.size_alloc] at this
theorem gen_world {Q : World → Prop} (P : World → Prop) {W : World} (h : P W) (k : ∀ W, P W → Q W) : Q W := k W h
theorem results_cell_slot {P : Program} {w : World} {fn : Func} {i j : Nat} {t : TypeId} {n g : Nat} {tmps : Array Value} {V : Array Value} {ty : TypeId} {f : Nat × Nat} (hr : fn.results = #[.cell i t, .tmp j]) (hagg : ∀ W : World, (isAgg t).run P W = .ok true W) (hsz : ∀ W : World, (sizeOf t).run P W = .ok n W)
    (hx : tmps.getD i undef = .pointer (some ⟨g, 0, none⟩)) (v : Value) (hj : tmps.getD j undef = v) (hg : w.heap[g]? = some (.cells V ty f)) (hV : V.size = n) : (results fn tmps).run P w = .ok (.tuple #[.agg V, v]) w := by
  have hl : (loadCells ⟨g, 0, none⟩ n).run P w = .ok V w := by
    have := run_loadCells_list (P := P) w ⟨g, 0, none⟩ V.toList (fun j v hv => by
      rw [addZ, cell_of hg]
      simpa using hv)
    simpa [hV] using this
  have ha : ∀ W : World, (asAddr (.pointer (some ⟨g, 0, none⟩))).run P W = .ok ⟨g, 0, none⟩ W := fun W => by simp [asAddr]
  have hx2 : tmps[i]?.getD undef = .pointer (some ⟨g, 0, none⟩) := by rw [← hx]; simp [Array.getD]; split <;> simp_all
  have hj2 : tmps[j]?.getD undef = v := by rw [← hj]; simp [Array.getD]; split <;> simp_all
  simp [results, hr, hx2, hj2, ha, loadVar, hagg, hsz, hl]
set_option maxHeartbeats 1000000 in
theorem span_yes (L I : Nat) (h : may L I) (w : World) :
    Calls Tryz.prog 185 #[cd L I] w fun e w' => e = .returned (.tuple #[sp (I * 2 ^ L) ((I + 1) * 2 ^ L), .bool true]) ∧ Nw w w' := by
  have H : Hid (may L I) := h
  have hL := h.1
  have hI := may_bd h
  rw [p63] at hI
  have hb := h.2
  rw [p63] at hb
  have e1 : IntKind.u64.wrap ((I : Int) * 2 ^ L) = ((I * 2 ^ L : Nat) : Int) := by
    rw [castm, w64]
    have : I * 2 ^ L ≤ (I + 1) * 2 ^ L := Nat.mul_le_mul_right _ (by omega)
    omega
  have e2 : IntKind.u64.wrap (((I : Int) + 1) * 2 ^ L) = (((I + 1) * 2 ^ L : Nat) : Int) := by
    have : ((I : Int) + 1) = ((I + 1 : Nat) : Int) := by omega
    rw [this, castm, w64]
    omega
  clear h hb
  go_enter Tryz.func185, Tryz.ntmps185
  go_wp2_with fail
  refine (tmb L I true (by simp [H.out]) (by omega) (by omega) _).mono ?_
  rintro e w1 ⟨rfl, n1⟩
  obtain ⟨⟨l0, l1⟩, b0, b1, n2⟩ := two_made n1
  have c0 := cell2a b0
  have c1 := cell2b b0
  have d0 := cell2a b1
  have d1 := cell2b b1
  have z0 := frozen_of b1 0
  have z1 := frozen_of b1 1
  clear n1
  go_wp2
  (refine bodyPost_ret (results_cell_slot (V := #[.int .u64 ((I * 2 ^ L : Nat) : Int), .int .u64 (((I + 1) * 2 ^ L : Nat) : Int)]) (ty := 123) (f := (0, 0)) Tryz.results185 Tryz.isAgg123 Tryz.sizeOf123 rfl _ rfl ?_ rfl) rfl ⟨rfl, (by repeat first | with_reducible exact n2 | with_reducible refine Fr.alloc ?_ _ | with_reducible refine Fr.drew ?_ | (with_reducible refine Fr.setCell ?_ _ _ (fun h => ?_); rotate_left; focus (simp only at h; omega)))⟩; (repeat first | with_reducible exact b1 | with_reducible exact heap_new _ _ | with_reducible exact heap_next _ _ _ | with_reducible exact heap_third _ _ _ _ | with_reducible refine hp_dr ?_ | (with_reducible refine hp_ne ?_ ?_; focus omega) | (with_reducible refine hp_al ?_ ?_; focus (first | omega | (simp <;> omega))) | with_reducible apply hp_set) <;> rfl)

set_option maxHeartbeats 1000000 in
theorem span_no (L I : Nat) (h : ¬ may L I) (hL : L ≤ 255) (hI : I < 18446744073709551616) (w : World) :
    Calls Tryz.prog 185 #[cd L I] w fun e w' => e = .returned (.tuple #[sp 0 0, .bool false]) ∧ Nw w w' := by
  go_enter Tryz.func185, Tryz.ntmps185
  go_wp2_with fail
  refine (tmb L I false (by simp [h]) (by omega) (by omega) _).mono ?_
  rintro e w1 ⟨rfl, n1⟩
  obtain ⟨⟨l0, l1⟩, b0, b1, n2⟩ := two_made n1
  have d0 := cell2a b1
  have d1 := cell2b b1
  have z0 := frozen_of b1 0
  have z1 := frozen_of b1 1
  clear n1
  go_wp2
  (refine bodyPost_ret (results_cell_slot (V := #[.int .u64 0, .int .u64 0]) (ty := 123) (f := (0, 0)) Tryz.results185 Tryz.isAgg123 Tryz.sizeOf123 rfl _ rfl ?_ rfl) rfl ⟨rfl, (by repeat first | with_reducible exact n2 | with_reducible refine Fr.alloc ?_ _ | with_reducible refine Fr.drew ?_ | (with_reducible refine Fr.setCell ?_ _ _ (fun h => ?_); rotate_left; focus (simp only at h; omega)))⟩; (repeat first | with_reducible exact b1 | with_reducible exact heap_new _ _ | with_reducible exact heap_next _ _ _ | with_reducible exact heap_third _ _ _ _ | with_reducible refine hp_dr ?_ | (with_reducible refine hp_ne ?_ ?_; focus omega) | (with_reducible refine hp_al ?_ ?_; focus (first | omega | (simp <;> omega))) | with_reducible apply hp_set) <;> rfl)
end Go.Proofs.YtjkhcplnedcmeaaGreatDoor
namespace Go.Proofs.YtjkhcplnedcmeaaGreatDoor
open Go.RowKit
set_option linter.unusedVariables false
set_option linter.unusedSimpArgs false

set_option maxHeartbeats 1000000 in
theorem above_any (L I : Nat) (hL : L < 255) (hI : I < 18446744073709551616) (w : World) :
    Calls Tryz.prog 192 #[cd L I] w fun e w' => e = .returned (cd (L + 1) (I / 2)) ∧ Nw w w' := by
  go_enter Tryz.func192, Tryz.ntmps192
  go_wp2
  (refine bodyPost_ret (results_cell (V := #[.int .u8 ((L : Int) + 1), .int .u64 ((I : Int) / 2)]) (ty := 273) (f := (0, 0)) Tryz.results192 Tryz.isAgg273 Tryz.sizeOf273 rfl ?_ rfl) rfl ⟨rfl, (by repeat first | with_reducible exact nwr w | with_reducible refine Fr.alloc ?_ _ | with_reducible refine Fr.drew ?_ | (with_reducible refine Fr.setCell ?_ _ _ (fun h => ?_); rotate_left; focus (simp only at h; omega)))⟩; (repeat first | with_reducible exact heap_next w _ _ | with_reducible exact heap_new _ _ | with_reducible exact heap_next _ _ _ | with_reducible exact heap_third _ _ _ _ | with_reducible refine hp_dr ?_ | (with_reducible refine hp_ne ?_ ?_; focus omega) | (with_reducible refine hp_al ?_ ?_; focus (first | omega | (simp <;> omega))) | with_reducible apply hp_set) <;> rfl)

/-- Three blocks that were made ahead of a call, behind it. -/
theorem three_made {w w1 : World} {o p q : Obj} (n1 : Nw (((w.alloc o).alloc p).alloc q) w1) : (w.heap.size < w1.heap.size ∧ w.heap.size + 1 < w1.heap.size ∧ w.heap.size + 1 + 1 < w1.heap.size) ∧ w1.heap[w.heap.size]? = some o ∧ w1.heap[w.heap.size + 1]? = some p ∧ w1.heap[w.heap.size + 1 + 1]? = some q ∧ Nw w w1 := by
  have h := two_made (w := w.alloc o) n1
  simp only [World.size_alloc] at h
  obtain ⟨⟨l1, l2⟩, b1, b2, n2⟩ := h
  obtain ⟨l0, b0, n3⟩ := one_made n2
  exact ⟨⟨l0, l1, l2⟩, b0, b1, b2, n3⟩

end Go.Proofs.YtjkhcplnedcmeaaGreatDoor
namespace Go.Proofs.YtjkhcplnedcmeaaGreatDoor
open Go.RowKit
set_option linter.unusedVariables false
set_option linter.unusedSimpArgs false

theorem ones_pow : ∀ (f a : Nat), a < 2 ^ f → ∀ k, k ≤ ones f (2 ^ f - 1 - a) ↔ k ≤ f ∧ 2 ^ k ∣ a
  | 0, a, h, k => by
    have : a = 0 := by simpa using h
    subst this
    simp [ones]
  | f + 1, a, h, k => by
    have hs : 2 ^ (f + 1) = 2 * 2 ^ f := Nat.pow_succ'
    have hp := Nat.two_pow_pos f
    rw [hs] at h ⊢
    have ih := ones_pow f (a / 2) (by omega)
    have e : (2 * 2 ^ f - 1 - a) / 2 = 2 ^ f - 1 - a / 2 := by omega
    cases k with
    | zero => simp
    | succ k =>
      by_cases h1 : a % 2 = 0
      · have r : ones (f + 1) (2 * 2 ^ f - 1 - a) = 1 + ones f ((2 * 2 ^ f - 1 - a) / 2) := if_pos (by omega)
        rw [r, e]
        have := ih k
        have hd : 2 ^ (k + 1) ∣ a ↔ 2 ^ k ∣ a / 2 := by
          have ha : a = 2 * (a / 2) := by omega
          rw [Nat.pow_succ', ha, Nat.mul_div_cancel_left _ (by decide : 0 < 2)]
          exact Nat.mul_dvd_mul_iff_left (by decide)
        rw [hd]
        omega
      · have r : ones (f + 1) (2 * 2 ^ f - 1 - a) = 0 := if_neg (by omega)
        rw [r]
        constructor
        · intro hk; omega
        · rintro ⟨_, hk⟩
          exfalso
          have : 2 ^ 1 ∣ a := Nat.dvd_trans (Nat.pow_dvd_pow 2 (by omega)) hk
          omega
/-- The level, as the program reckons it. -/
theorem isW_min (b e k : Nat) (hb : b < e) (he : e ≤ 9223372036854775808) (h1 : 2 ^ k ≤ e - b) (h2 : e - b < 2 * 2 ^ k) : IsW b e (min (ones 64 (18446744073709551615 - b)) k) := by
  have hones := ones_pow 64 b (by have : (2 : Nat) ^ 64 = 18446744073709551616 := by decide
                                  omega)
  have e64 : 2 ^ 64 - 1 - b = 18446744073709551615 - b := rfl
  rw [e64] at hones
  have hk63 : k ≤ 63 := pow_le_inv (by rw [p63]; omega)
  have hs2 : 2 ^ (k + 1) = 2 * 2 ^ k := Nat.pow_succ'
  obtain ⟨o, ho⟩ : ∃ o, o = ones 64 (18446744073709551615 - b) := ⟨_, rfl⟩
  rw [← ho] at hones ⊢
  refine ⟨⟨((hones _).1 (Nat.min_le_left _ _)).2, ?_⟩, ?_⟩
  · have := pow_le2 (Nat.min_le_right o k)
    omega
  · rintro ⟨d1, d2⟩
    rcases Nat.le_total o k with h | h
    · rw [Nat.min_eq_left h] at d1 d2
      have := (hones (o + 1)).2 ⟨by omega, d1⟩
      omega
    · rw [Nat.min_eq_right h] at d2
      omega

theorem TabAt.nw {w w' : World} (h : TabAt w) (n : Nw w w') : TabAt w' := fun j hj => n.cellOf (h j hj)

set_option maxHeartbeats 2000000 in
theorem widest_any (b e L : Nat) (hL : IsW b e L) (he : e ≤ 9223372036854775808) (w : World) (hT : TabAt w) :
    Calls Tryz.prog 190 #[sp b e] w fun x w' => x = .returned (cd L (b / 2 ^ L)) ∧ Nw w w' := by
  have hlt : b < e := by have := hL.1.2; have := Nat.two_pow_pos L; omega
  obtain ⟨k, hk, k1, k2⟩ := top_of (e - b) (by omega) (by omega)
  have hmin := isW_uniq (isW_min b e k hlt he k1 k2) hL
  have hL63 := isW_le hL (by rw [p63]; exact he)
  have hno := not_u64 b (by omega) (by omega)
  obtain ⟨o, ho⟩ : ∃ o, o = ones 64 (18446744073709551615 - b) := ⟨_, rfl⟩
  rw [← ho] at hmin
  have ho64 : o ≤ 64 := by rw [ho]; exact ones_le _ _
  have HO : Hid (o = ones 64 (18446744073709551615 - b)) := ho
  have HL : Hid (IsW b e L) := hL
  have HM : Hid (min o k = L) := hmin
  have HK : Hid (2 ^ k ≤ e - b ∧ e - b < 2 * 2 ^ k) := ⟨k1, k2⟩
  have HT : Hid (TabAt w) := hT
  clear hL ho k1 k2 hmin hT
  go_enter Tryz.func190, Tryz.ntmps190
  go_wp2_with fail
  have q1 := ones_any (18446744073709551615 - (b : Int)) ((w.alloc (.cells #[.int .u64 (b : Int), .int .u64 (e : Int)] 123)).alloc (.cells #[.int .u8 0, .int .u64 0] 273)) (by omega) (by omega) (HT.out.nw ((nwa w _).alloc _))
  have t1 : (18446744073709551615 - (b : Int)).toNat = 18446744073709551615 - b := by omega
  rw [t1, ← HO.out] at q1
  refine q1.mono ?_
  rintro x w1 ⟨rfl, rfl⟩
  clear q1 t1
  go_wp2_with fail
  have q2 := log_of ((e : Int) - (b : Int) + 1) k ((w.alloc (.cells #[.int .u64 (b : Int), .int .u64 (e : Int)] 123)).alloc (.cells #[.int .u8 0, .int .u64 0] 273)) hk (by have := HK.out; have := pow_cast k; omega) (by have := HK.out; have := pow_cast k; omega)
  refine q2.mono ?_
  rintro x w1 ⟨rfl, rfl⟩
  clear q2
  go_wp2
  have hm : min (o : Int) (k : Int) = (L : Int) := by have := HM.out; omega
  (refine bodyPost_ret (results_cell (V := #[.int .u8 (min (o : Int) (k : Int)), .int .u64 ((b : Int) / 2 ^ (min (o : Int) (k : Int)).toNat)]) (ty := 273) (f := (0, 0)) Tryz.results190 Tryz.isAgg273 Tryz.sizeOf273 rfl ?_ rfl) rfl ⟨by rw [hm, Int.toNat_natCast, castd], (by repeat first | with_reducible exact nwr w | with_reducible refine Fr.alloc ?_ _ | with_reducible refine Fr.drew ?_ | (with_reducible refine Fr.setCell ?_ _ _ (fun h => ?_); rotate_left; focus (simp only at h; omega)))⟩; (repeat first | with_reducible exact heap_next w _ _ | with_reducible exact heap_new _ _ | with_reducible exact heap_next _ _ _ | with_reducible exact heap_third _ _ _ _ | with_reducible refine hp_dr ?_ | (with_reducible refine hp_ne ?_ ?_; focus omega) | (with_reducible refine hp_al ?_ ?_; focus (first | omega | (simp <;> omega))) | with_reducible apply hp_set) <;> rfl)

theorem isW_tree {L I : Nat} : IsW (I * 2 ^ L) ((I + 1) * 2 ^ L) L := by
  have e : (I + 1) * 2 ^ L = I * 2 ^ L + 2 ^ L := by rw [Nat.add_mul, Nat.one_mul]
  rw [e]
  have hp := Nat.two_pow_pos L
  refine ⟨⟨⟨I, Nat.mul_comm _ _⟩, Nat.le_refl _⟩, fun h => ?_⟩
  have := h.2
  have : 2 ^ (L + 1) = 2 * 2 ^ L := Nat.pow_succ'
  omega
theorem sp_ne {a b c d : Int} (h : ¬ (a = c ∧ b = d)) : (a == c && b == d) = false := by
  rw [Bool.and_eq_false_iff]
  simp only [beq_eq_false_iff_ne, ne_eq]
  omega

end Go.Proofs.YtjkhcplnedcmeaaGreatDoor
namespace Go.Proofs.YtjkhcplnedcmeaaGreatDoor
open Go.RowKit
set_option linter.unusedVariables false
set_option linter.unusedSimpArgs false

/-- The level that lies in a block. -/
def lvl (W : World) (b : Nat) : Nat := match W.cell? ⟨b, 0, none⟩ with
  | some v => (intOf v).toNat
  | none => 0
theorem lvl_of {W : World} {b L : Nat} {y : Value} {t : TypeId} {f : Nat × Nat} (h : W.heap[b]? = some (.cells #[.int .u8 (L : Int), y] t f)) : lvl W b = L := by
  unfold lvl
  rw [cell2a h]
  simp [intOf]

/-- Both on their way upward, either way round. -/
def Up (La Ia Lb Ib m x y X Y : Nat) : Prop := x ≤ m ∧ y ≤ m ∧ ((La ≤ x ∧ Lb ≤ y ∧ X = Ia / 2 ^ (x - La) ∧ Y = Ib / 2 ^ (y - Lb)) ∨ (Lb ≤ x ∧ La ≤ y ∧ X = Ib / 2 ^ (x - Lb) ∧ Y = Ia / 2 ^ (y - La)))
theorem Up.symm {La Ia Lb Ib m x y X Y : Nat} (h : Up La Ia Lb Ib m x y X Y) : Up La Ia Lb Ib m y x Y X := by
  obtain ⟨h1, h2, h3⟩ := h
  refine ⟨h2, h1, ?_⟩
  rcases h3 with ⟨a, b, c, d⟩ | ⟨a, b, c, d⟩
  · exact .inr ⟨b, a, d, c⟩
  · exact .inl ⟨b, a, d, c⟩
theorem Up.meet {La Ia Lb Ib m x y X Y : Nat} (hC : IsC La Ia Lb Ib m) (h : Up La Ia Lb Ib m x y X Y) (e : x = y) (e2 : X = Y) : x = m ∧ X = Ia / 2 ^ (m - La) := by
  obtain ⟨h1, h2, h3⟩ := h
  rcases h3 with ⟨a, b, c, d⟩ | ⟨a, b, c, d⟩
  · have := hC.meets a b h1 h2 e (by rw [← c, ← d]; exact e2)
    subst this
    exact ⟨rfl, c⟩
  · have := hC.meets b a h2 h1 e.symm (by rw [← c, ← d]; exact e2.symm)
    subst this
    exact ⟨e, by rw [e2]; exact d⟩
theorem Up.up {La Ia Lb Ib m x y X Y : Nat} (hC : IsC La Ia Lb Ib m) (h : Up La Ia Lb Ib m x y X Y) (hne : ¬ (x = y ∧ X = Y)) (hle : x ≤ y) : x < m ∧ Up La Ia Lb Ib m (x + 1) y (X / 2) Y := by
  have hlt : x < m := by
    rcases Nat.lt_or_ge x m with k | k
    · exact k
    · exfalso
      obtain ⟨h1, h2, h3⟩ := h
      have e1 : x = m := by omega
      have e2 : y = m := by omega
      subst e1 e2
      rcases h3 with ⟨a, b, c, d⟩ | ⟨a, b, c, d⟩
      · exact hne ⟨rfl, by rw [c, d]; exact hC.eq⟩
      · exact hne ⟨rfl, by rw [c, d]; exact hC.eq.symm⟩
  refine ⟨hlt, ?_⟩
  obtain ⟨h1, h2, h3⟩ := h
  refine ⟨hlt, h2, ?_⟩
  rcases h3 with ⟨a, b, c, d⟩ | ⟨a, b, c, d⟩
  · exact .inl ⟨by omega, b, by rw [c, anc_up a], d⟩
  · exact .inr ⟨by omega, b, by rw [c, anc_up a], d⟩
theorem Up.bd {La Ia Lb Ib m x y X Y : Nat} (ha : may La Ia) (hb : may Lb Ib) (hm : m ≤ 63) (h : Up La Ia Lb Ib m x y X Y) : X < 9223372036854775808 ∧ Y < 9223372036854775808 := by
  have h1 := may_bd ha
  have h2 := may_bd hb
  rw [p63] at h1 h2
  obtain ⟨_, _, h3⟩ := h
  have d1 : ∀ k, Ia / k ≤ Ia := fun k => Nat.div_le_self _ _
  have d2 : ∀ k, Ib / k ≤ Ib := fun k => Nat.div_le_self _ _
  rcases h3 with ⟨_, _, c, d⟩ | ⟨_, _, c, d⟩
  · have := d1 (2 ^ (x - La)); have := d2 (2 ^ (y - Lb)); omega
  · have := d2 (2 ^ (x - Lb)); have := d1 (2 ^ (y - La)); omega

set_option maxHeartbeats 2000000 in
theorem common_yes (La Ia Lb Ib m : Nat) (ha : may La Ia) (hb : may Lb Ib) (hC : IsC La Ia Lb Ib m) (w : World) :
    Calls Tryz.prog 169 #[cd La Ia, cd Lb Ib] w fun x w' => x = .returned (.tuple #[cd m (Ia / 2 ^ (m - La)), .bool true]) ∧ Nw w w' := by
  have HA : Hid (may La Ia) := ha
  have HB : Hid (may Lb Ib) := hb
  have HC : Hid (IsC La Ia Lb Ib m) := hC
  have hm := hC.le63 ha hb
  have hLa := ha.1
  have hLb := hb.1
  have hIa := may_bd ha
  have hIb := may_bd hb
  rw [p63] at hIa hIb
  clear ha hb hC
  go_enter Tryz.func169, Tryz.ntmps169
  go_wp2_with fail
  refine (tmb La Ia true (by simp [HA.out]) (by omega) (by omega) _).mono ?_
  rintro x w1 ⟨rfl, n1⟩
  obtain ⟨⟨l0, l1, l2⟩, b0, b1, b2, n2⟩ := three_made n1
  have c0 := cell2a b1
  have c1 := cell2b b1
  clear n1
  go_wp2_with fail
  refine (tmb Lb Ib true (by simp [HB.out]) (by omega) (by omega) _).mono ?_
  rintro x w2 ⟨rfl, n3⟩
  have b0' := (n3.block _ l0 (fun f => f)).trans b0
  have b1' := (n3.block _ l1 (fun f => f)).trans b1
  have b2' := (n3.block _ l2 (fun f => f)).trans b2
  have n4 : Nw w w2 := n2.tr n3
  clear c0 c1 b0 b1 b2 n3 n2
  go_wp2
  go_loopw [] (fun wr => ∃ x y X Y : Nat, Up La Ia Lb Ib m x y X Y ∧ Nw w wr ∧ wr.heap[w.heap.size]? = some (.cells #[.int .u8 (x : Int), .int .u64 (X : Int)] 273) ∧ wr.heap[w.heap.size + 1]? = some (.cells #[.int .u8 (y : Int), .int .u64 (Y : Int)] 273) ∧ wr.heap[w.heap.size + 1 + 1]? = some (.cells #[.int .u8 0, .int .u64 0] 273)) (fun wr => 2 * m - (lvl wr w.heap.size + lvl wr (w.heap.size + 1)))
  case atStart => exact ⟨La, Lb, Ia, Ib, ⟨HC.out.la, HC.out.lb, .inl ⟨Nat.le_refl _, Nat.le_refl _, by simp, by simp⟩⟩, n4, b0', b1', b2'⟩
  case round =>
    obtain ⟨x, y, X, Y, hU, hnw, j0, j1, j2⟩ := hrel
    clear b0' b1' b2' n4 l0 l1 l2
    have l0 := heap_lt j0
    have l1 := heap_lt j1
    have l2 := heap_lt j2
    have hbd := hU.bd HA.out HB.out hm
    have hxm := hU.1
    have hym := hU.2.1
    have hv0 := lvl_of j0
    have hv1 := lvl_of j1
    have HU : Hid (Up La Ia Lb Ib m x y X Y) := hU
    have HV : Hid (lvl wr w.heap.size = x ∧ lvl wr (w.heap.size + 1) = y) := ⟨hv0, hv1⟩
    clear hU hv0 hv1
    have c0 := cell2a j0
    have c1 := cell2b j0
    have d0 := cell2a j1
    have d1 := cell2b j1
    by_cases e1 : x = y ∧ X = Y
    · obtain ⟨e2, e3⟩ := HU.out.meet HC.out e1.1 e1.2
      have E2 : Hid (x = m) := e2
      have E3 : Hid (X = Ia / 2 ^ (m - La)) := e3
      obtain ⟨rfl, rfl⟩ := e1
      clear e2 e3
      have g0 := cell2a j2
      have g1 := cell2b j2
      have z0 := frozen_of j2 0
      have z1 := frozen_of j2 1
      go_wp2
      (refine bodyPost_ret (results_cell_slot (V := #[.int .u8 (x : Int), .int .u64 (X : Int)]) (ty := 273) (f := (0, 0)) Tryz.results169 Tryz.isAgg273 Tryz.sizeOf273 rfl _ rfl ?_ rfl) rfl ⟨by rw [← E3.out, ← E2.out]; rfl, (by repeat first | with_reducible exact hnw | with_reducible refine Fr.alloc ?_ _ | with_reducible refine Fr.drew ?_ | (with_reducible refine Fr.setCell ?_ _ _ (fun h => ?_); rotate_left; focus (simp only at h; omega)))⟩; (repeat first | with_reducible exact j2 | with_reducible exact heap_new _ _ | with_reducible exact heap_next _ _ _ | with_reducible exact heap_third _ _ _ _ | with_reducible refine hp_dr ?_ | (with_reducible refine hp_ne ?_ ?_; focus omega) | (with_reducible refine hp_al ?_ ?_; focus (first | omega | (simp <;> omega))) | with_reducible apply hp_set) <;> rfl)
    · have hne : ((x : Int) == (y : Int) && (X : Int) == (Y : Int)) = false := sp_ne (by omega)
      by_cases hgt : y < x
      · have hne2 : ((x : Int) == (y : Int)) = false := by simp; omega
        have hi : (x : Int) > (y : Int) := by omega
        have y0 := frozen_of j0 0
        have y1 := frozen_of j0 1
        have z0 := frozen_of j1 0
        have z1 := frozen_of j1 1
        go_wp2_with fail
        refine (above_any y Y (by omega) (by omega) _).mono ?_
        rintro v w5 ⟨rfl, n5⟩
        have k0 : w5.heap[w.heap.size]? = some (.cells #[.int .u8 (y : Int), .int .u64 (Y : Int)] 273) := (n5.block _ (by simpa using l0) (fun f => f)).trans (by (repeat first | with_reducible exact j0 | with_reducible exact heap_new _ _ | with_reducible exact heap_next _ _ _ | with_reducible exact heap_third _ _ _ _ | with_reducible refine hp_dr ?_ | (with_reducible refine hp_ne ?_ ?_; focus omega) | (with_reducible refine hp_al ?_ ?_; focus (first | omega | (simp <;> omega))) | with_reducible apply hp_set) <;> rfl)
        have k1 : w5.heap[w.heap.size + 1]? = some (.cells #[.int .u8 (x : Int), .int .u64 (X : Int)] 273) := (n5.block _ (by simpa using l1) (fun f => f)).trans (by (repeat first | with_reducible exact j1 | with_reducible exact heap_new _ _ | with_reducible exact heap_next _ _ _ | with_reducible exact heap_third _ _ _ _ | with_reducible refine hp_dr ?_ | (with_reducible refine hp_ne ?_ ?_; focus omega) | (with_reducible refine hp_al ?_ ?_; focus (first | omega | (simp <;> omega))) | with_reducible apply hp_set) <;> rfl)
        have k2 : w5.heap[w.heap.size + 1 + 1]? = some (.cells #[.int .u8 0, .int .u64 0] 273) := (n5.block _ (by simpa using l2) (fun f => f)).trans (by (repeat first | with_reducible exact j2 | with_reducible exact heap_new _ _ | with_reducible exact heap_next _ _ _ | with_reducible exact heap_third _ _ _ _ | with_reducible refine hp_dr ?_ | (with_reducible refine hp_ne ?_ ?_; focus omega) | (with_reducible refine hp_al ?_ ?_; focus (first | omega | (simp <;> omega))) | with_reducible apply hp_set) <;> rfl)
        have n6 : Nw w w5 := Nw.tr (by repeat first | with_reducible exact hnw | with_reducible refine Fr.alloc ?_ _ | with_reducible refine Fr.drew ?_ | (with_reducible refine Fr.setCell ?_ _ _ (fun h => ?_); rotate_left; focus (simp only at h; omega))) n5
        clear n5 c0 c1 d0 d1 hnw j0 j1 j2
        obtain ⟨u1, u2⟩ := HU.out.symm.up HC.out (by omega) (by omega)
        have HU2 : Hid (Up La Ia Lb Ib m (y + 1) x (Y / 2) X) := u2
        clear u2
        have c0 := cell2a k0
        have c1 := cell2b k0
        have y0 := frozen_of k0 0
        have y1 := frozen_of k0 1
        go_wp2
        refine ⟨⟨y + 1, x, Y / 2, X, HU2.out, (by repeat first | with_reducible exact n6 | with_reducible refine Fr.alloc ?_ _ | with_reducible refine Fr.drew ?_ | (with_reducible refine Fr.setCell ?_ _ _ (fun h => ?_); rotate_left; focus (simp only at h; omega))), by (repeat first | with_reducible exact k0 | with_reducible exact heap_new _ _ | with_reducible exact heap_next _ _ _ | with_reducible exact heap_third _ _ _ _ | with_reducible refine hp_dr ?_ | (with_reducible refine hp_ne ?_ ?_; focus omega) | (with_reducible refine hp_al ?_ ?_; focus (first | omega | (simp <;> omega))) | with_reducible apply hp_set) <;> rfl, by (repeat first | with_reducible exact k1 | with_reducible exact heap_new _ _ | with_reducible exact heap_next _ _ _ | with_reducible exact heap_third _ _ _ _ | with_reducible refine hp_dr ?_ | (with_reducible refine hp_ne ?_ ?_; focus omega) | (with_reducible refine hp_al ?_ ?_; focus (first | omega | (simp <;> omega))) | with_reducible apply hp_set) <;> rfl, by (repeat first | with_reducible exact k2 | with_reducible exact heap_new _ _ | with_reducible exact heap_next _ _ _ | with_reducible exact heap_third _ _ _ _ | with_reducible refine hp_dr ?_ | (with_reducible refine hp_ne ?_ ?_; focus omega) | (with_reducible refine hp_al ?_ ?_; focus (first | omega | (simp <;> omega))) | with_reducible apply hp_set) <;> rfl⟩, ?_⟩
        rw [HV.out.1, HV.out.2, lvl_of (L := y + 1) (y := .int .u64 ((Y / 2 : Nat) : Int)) (t := 273) (f := (0, 0)) (by (repeat first | with_reducible exact k0 | with_reducible exact heap_new _ _ | with_reducible exact heap_next _ _ _ | with_reducible exact heap_third _ _ _ _ | with_reducible refine hp_dr ?_ | (with_reducible refine hp_ne ?_ ?_; focus omega) | (with_reducible refine hp_al ?_ ?_; focus (first | omega | (simp <;> omega))) | with_reducible apply hp_set) <;> rfl), lvl_of (L := x) (y := .int .u64 (X : Int)) (t := 273) (f := (0, 0)) (by (repeat first | with_reducible exact k1 | with_reducible exact heap_new _ _ | with_reducible exact heap_next _ _ _ | with_reducible exact heap_third _ _ _ _ | with_reducible refine hp_dr ?_ | (with_reducible refine hp_ne ?_ ?_; focus omega) | (with_reducible refine hp_al ?_ ?_; focus (first | omega | (simp <;> omega))) | with_reducible apply hp_set) <;> rfl)]
        omega
      · have hi : ¬ (x : Int) > (y : Int) := by omega
        have y0 := frozen_of j0 0
        have y1 := frozen_of j0 1
        by_cases hxy : x = y
        · subst hxy
          have hXY : Hid (¬ X = Y) := fun k => e1 ⟨rfl, k⟩
          have hq2 : ((X : Int) == (Y : Int)) = false := by simp; omega
          go_wp2_with fail
          refine (above_any x X (by omega) (by omega) _).mono ?_
          rintro v w5 ⟨rfl, n5⟩
          have k0 : w5.heap[w.heap.size]? = some (.cells #[.int .u8 (x : Int), .int .u64 (X : Int)] 273) := (n5.block _ (by simpa using l0) (fun f => f)).trans (by (repeat first | with_reducible exact j0 | with_reducible exact heap_new _ _ | with_reducible exact heap_next _ _ _ | with_reducible exact heap_third _ _ _ _ | with_reducible refine hp_dr ?_ | (with_reducible refine hp_ne ?_ ?_; focus omega) | (with_reducible refine hp_al ?_ ?_; focus (first | omega | (simp <;> omega))) | with_reducible apply hp_set) <;> rfl)
          have k1 : w5.heap[w.heap.size + 1]? = some (.cells #[.int .u8 (x : Int), .int .u64 (Y : Int)] 273) := (n5.block _ (by simpa using l1) (fun f => f)).trans (by (repeat first | with_reducible exact j1 | with_reducible exact heap_new _ _ | with_reducible exact heap_next _ _ _ | with_reducible exact heap_third _ _ _ _ | with_reducible refine hp_dr ?_ | (with_reducible refine hp_ne ?_ ?_; focus omega) | (with_reducible refine hp_al ?_ ?_; focus (first | omega | (simp <;> omega))) | with_reducible apply hp_set) <;> rfl)
          have k2 : w5.heap[w.heap.size + 1 + 1]? = some (.cells #[.int .u8 0, .int .u64 0] 273) := (n5.block _ (by simpa using l2) (fun f => f)).trans (by (repeat first | with_reducible exact j2 | with_reducible exact heap_new _ _ | with_reducible exact heap_next _ _ _ | with_reducible exact heap_third _ _ _ _ | with_reducible refine hp_dr ?_ | (with_reducible refine hp_ne ?_ ?_; focus omega) | (with_reducible refine hp_al ?_ ?_; focus (first | omega | (simp <;> omega))) | with_reducible apply hp_set) <;> rfl)
          have n6 : Nw w w5 := Nw.tr (by repeat first | with_reducible exact hnw | with_reducible refine Fr.alloc ?_ _ | with_reducible refine Fr.drew ?_ | (with_reducible refine Fr.setCell ?_ _ _ (fun h => ?_); rotate_left; focus (simp only at h; omega))) n5
          clear n5 c0 c1 d0 d1 hnw j0 j1 j2
          obtain ⟨u1, u2⟩ := HU.out.up HC.out (fun k => hXY.out k.2) (Nat.le_refl _)
          have HU2 : Hid (Up La Ia Lb Ib m (x + 1) x (X / 2) Y) := u2
          clear u2
          have c0 := cell2a k0
          have c1 := cell2b k0
          have y0 := frozen_of k0 0
          have y1 := frozen_of k0 1
          go_wp2
          refine ⟨⟨x + 1, x, X / 2, Y, HU2.out, (by repeat first | with_reducible exact n6 | with_reducible refine Fr.alloc ?_ _ | with_reducible refine Fr.drew ?_ | (with_reducible refine Fr.setCell ?_ _ _ (fun h => ?_); rotate_left; focus (simp only at h; omega))), by (repeat first | with_reducible exact k0 | with_reducible exact heap_new _ _ | with_reducible exact heap_next _ _ _ | with_reducible exact heap_third _ _ _ _ | with_reducible refine hp_dr ?_ | (with_reducible refine hp_ne ?_ ?_; focus omega) | (with_reducible refine hp_al ?_ ?_; focus (first | omega | (simp <;> omega))) | with_reducible apply hp_set) <;> rfl, by (repeat first | with_reducible exact k1 | with_reducible exact heap_new _ _ | with_reducible exact heap_next _ _ _ | with_reducible exact heap_third _ _ _ _ | with_reducible refine hp_dr ?_ | (with_reducible refine hp_ne ?_ ?_; focus omega) | (with_reducible refine hp_al ?_ ?_; focus (first | omega | (simp <;> omega))) | with_reducible apply hp_set) <;> rfl, by (repeat first | with_reducible exact k2 | with_reducible exact heap_new _ _ | with_reducible exact heap_next _ _ _ | with_reducible exact heap_third _ _ _ _ | with_reducible refine hp_dr ?_ | (with_reducible refine hp_ne ?_ ?_; focus omega) | (with_reducible refine hp_al ?_ ?_; focus (first | omega | (simp <;> omega))) | with_reducible apply hp_set) <;> rfl⟩, ?_⟩
          rw [HV.out.1, HV.out.2, lvl_of (L := x + 1) (y := .int .u64 ((X / 2 : Nat) : Int)) (t := 273) (f := (0, 0)) (by (repeat first | with_reducible exact k0 | with_reducible exact heap_new _ _ | with_reducible exact heap_next _ _ _ | with_reducible exact heap_third _ _ _ _ | with_reducible refine hp_dr ?_ | (with_reducible refine hp_ne ?_ ?_; focus omega) | (with_reducible refine hp_al ?_ ?_; focus (first | omega | (simp <;> omega))) | with_reducible apply hp_set) <;> rfl), lvl_of (L := x) (y := .int .u64 (Y : Int)) (t := 273) (f := (0, 0)) (by (repeat first | with_reducible exact k1 | with_reducible exact heap_new _ _ | with_reducible exact heap_next _ _ _ | with_reducible exact heap_third _ _ _ _ | with_reducible refine hp_dr ?_ | (with_reducible refine hp_ne ?_ ?_; focus omega) | (with_reducible refine hp_al ?_ ?_; focus (first | omega | (simp <;> omega))) | with_reducible apply hp_set) <;> rfl)]
          omega
        · have hq : ((x : Int) == (y : Int)) = false := by simp; omega
          go_wp2_with fail
          refine (above_any x X (by omega) (by omega) _).mono ?_
          rintro v w5 ⟨rfl, n5⟩
          have k0 : w5.heap[w.heap.size]? = some (.cells #[.int .u8 (x : Int), .int .u64 (X : Int)] 273) := (n5.block _ (by simpa using l0) (fun f => f)).trans (by (repeat first | with_reducible exact j0 | with_reducible exact heap_new _ _ | with_reducible exact heap_next _ _ _ | with_reducible exact heap_third _ _ _ _ | with_reducible refine hp_dr ?_ | (with_reducible refine hp_ne ?_ ?_; focus omega) | (with_reducible refine hp_al ?_ ?_; focus (first | omega | (simp <;> omega))) | with_reducible apply hp_set) <;> rfl)
          have k1 : w5.heap[w.heap.size + 1]? = some (.cells #[.int .u8 (y : Int), .int .u64 (Y : Int)] 273) := (n5.block _ (by simpa using l1) (fun f => f)).trans (by (repeat first | with_reducible exact j1 | with_reducible exact heap_new _ _ | with_reducible exact heap_next _ _ _ | with_reducible exact heap_third _ _ _ _ | with_reducible refine hp_dr ?_ | (with_reducible refine hp_ne ?_ ?_; focus omega) | (with_reducible refine hp_al ?_ ?_; focus (first | omega | (simp <;> omega))) | with_reducible apply hp_set) <;> rfl)
          have k2 : w5.heap[w.heap.size + 1 + 1]? = some (.cells #[.int .u8 0, .int .u64 0] 273) := (n5.block _ (by simpa using l2) (fun f => f)).trans (by (repeat first | with_reducible exact j2 | with_reducible exact heap_new _ _ | with_reducible exact heap_next _ _ _ | with_reducible exact heap_third _ _ _ _ | with_reducible refine hp_dr ?_ | (with_reducible refine hp_ne ?_ ?_; focus omega) | (with_reducible refine hp_al ?_ ?_; focus (first | omega | (simp <;> omega))) | with_reducible apply hp_set) <;> rfl)
          have n6 : Nw w w5 := Nw.tr (by repeat first | with_reducible exact hnw | with_reducible refine Fr.alloc ?_ _ | with_reducible refine Fr.drew ?_ | (with_reducible refine Fr.setCell ?_ _ _ (fun h => ?_); rotate_left; focus (simp only at h; omega))) n5
          clear n5 c0 c1 d0 d1 hnw j0 j1 j2
          obtain ⟨u1, u2⟩ := HU.out.up HC.out (by omega) (by omega)
          have HU2 : Hid (Up La Ia Lb Ib m (x + 1) y (X / 2) Y) := u2
          clear u2
          have c0 := cell2a k0
          have c1 := cell2b k0
          have y0 := frozen_of k0 0
          have y1 := frozen_of k0 1
          go_wp2
          refine ⟨⟨x + 1, y, X / 2, Y, HU2.out, (by repeat first | with_reducible exact n6 | with_reducible refine Fr.alloc ?_ _ | with_reducible refine Fr.drew ?_ | (with_reducible refine Fr.setCell ?_ _ _ (fun h => ?_); rotate_left; focus (simp only at h; omega))), by (repeat first | with_reducible exact k0 | with_reducible exact heap_new _ _ | with_reducible exact heap_next _ _ _ | with_reducible exact heap_third _ _ _ _ | with_reducible refine hp_dr ?_ | (with_reducible refine hp_ne ?_ ?_; focus omega) | (with_reducible refine hp_al ?_ ?_; focus (first | omega | (simp <;> omega))) | with_reducible apply hp_set) <;> rfl, by (repeat first | with_reducible exact k1 | with_reducible exact heap_new _ _ | with_reducible exact heap_next _ _ _ | with_reducible exact heap_third _ _ _ _ | with_reducible refine hp_dr ?_ | (with_reducible refine hp_ne ?_ ?_; focus omega) | (with_reducible refine hp_al ?_ ?_; focus (first | omega | (simp <;> omega))) | with_reducible apply hp_set) <;> rfl, by (repeat first | with_reducible exact k2 | with_reducible exact heap_new _ _ | with_reducible exact heap_next _ _ _ | with_reducible exact heap_third _ _ _ _ | with_reducible refine hp_dr ?_ | (with_reducible refine hp_ne ?_ ?_; focus omega) | (with_reducible refine hp_al ?_ ?_; focus (first | omega | (simp <;> omega))) | with_reducible apply hp_set) <;> rfl⟩, ?_⟩
          rw [HV.out.1, HV.out.2, lvl_of (L := x + 1) (y := .int .u64 ((X / 2 : Nat) : Int)) (t := 273) (f := (0, 0)) (by (repeat first | with_reducible exact k0 | with_reducible exact heap_new _ _ | with_reducible exact heap_next _ _ _ | with_reducible exact heap_third _ _ _ _ | with_reducible refine hp_dr ?_ | (with_reducible refine hp_ne ?_ ?_; focus omega) | (with_reducible refine hp_al ?_ ?_; focus (first | omega | (simp <;> omega))) | with_reducible apply hp_set) <;> rfl), lvl_of (L := y) (y := .int .u64 (Y : Int)) (t := 273) (f := (0, 0)) (by (repeat first | with_reducible exact k1 | with_reducible exact heap_new _ _ | with_reducible exact heap_next _ _ _ | with_reducible exact heap_third _ _ _ _ | with_reducible refine hp_dr ?_ | (with_reducible refine hp_ne ?_ ?_; focus omega) | (with_reducible refine hp_al ?_ ?_; focus (first | omega | (simp <;> omega))) | with_reducible apply hp_set) <;> rfl)]
          omega
end Go.Proofs.YtjkhcplnedcmeaaGreatDoor
namespace Go.Proofs.YtjkhcplnedcmeaaGreatDoor
open Go.RowKit
set_option linter.unusedVariables false
set_option linter.unusedSimpArgs false

/-- Trees as cells. -/
def fl : List (Nat × Nat) → List Value
  | [] => []
  | t :: r => .int .u8 (t.1 : Int) :: .int .u64 (t.2 : Int) :: fl r
theorem fl_app : ∀ l m, fl (l ++ m) = fl l ++ fl m
  | [], m => rfl
  | t :: r, m => by simp only [List.cons_append, fl, fl_app r m]
theorem fl_get : ∀ (l : List (Nat × Nat)) (k : Nat) (t : Nat × Nat), l[k]? = some t → (fl l)[k * 2]? = some (.int .u8 (t.1 : Int)) ∧ (fl l)[k * 2 + 1]? = some (.int .u64 (t.2 : Int))
  | [], k, t, h => by simp at h
  | u :: r, 0, t, h => by simp at h; subst h; exact ⟨rfl, rfl⟩
  | u :: r, k + 1, t, h => by
    have := fl_get r k t (by simpa using h)
    have e : (k + 1) * 2 = k * 2 + 1 + 1 := by omega
    rw [e]
    simpa [fl] using this
/-- A row of trees in memory. -/
def Crd (w : World) (v : Value) (l : List (Nat × Nat)) : Prop :=
  ∃ ad cap, v = .slice ad l.length cap ∧ ∀ k t, l[k]? = some t → ∃ g off, ad = some ⟨g, off, none⟩ ∧ g < w.heap.size ∧ w.cell? ⟨g, off + k * 2, none⟩ = some (.int .u8 (t.1 : Int)) ∧ w.cell? ⟨g, off + k * 2 + 1, none⟩ = some (.int .u64 (t.2 : Int))
theorem Crd.nw {w w' : World} {v : Value} {l : List (Nat × Nat)} (h : Crd w v l) (n : Nw w w') : Crd w' v l := by
  obtain ⟨ad, cap, rfl, h⟩ := h
  refine ⟨ad, cap, rfl, fun k t ht => ?_⟩
  obtain ⟨g, off, rfl, h1, h2, h3⟩ := h k t ht
  exact ⟨g, off, rfl, Nat.lt_of_lt_of_le h1 n.size, n.cellOf h2, n.cellOf h3⟩
theorem Crd.of {w : World} {base : Nat} {v : Value} {l : List (Nat × Nat)} (h : w.ownsRow base 273 2 v l.length (fl l)) : Crd w v l := by
  have hlt := h.lt
  rcases h.2 with ⟨rfl, hn⟩ | ⟨g, cap, cur, rfl, _⟩
  · have : l = [] := List.length_eq_zero_iff.1 hn
    subst this
    exact ⟨none, 0, rfl, fun k t ht => by simp at ht⟩
  · refine ⟨_, _, rfl, fun k t ht => ⟨g, 0, rfl, (hlt g rfl).2, ?_, ?_⟩⟩
    · have := h.cells (g := g) rfl (k * 2) _ (fl_get l k t ht).1
      rw [addZ] at this
      rw [Nat.zero_add]; exact this
    · have := h.cells (g := g) rfl (k * 2 + 1) _ (fl_get l k t ht).2
      rw [addZ] at this
      rw [Nat.zero_add]; exact this
theorem Crd.len {w : World} {v : Value} {l : List (Nat × Nat)} (h : Crd w v l) : ∃ ad cap, v = .slice ad l.length cap := by
  obtain ⟨ad, cap, rfl, _⟩ := h; exact ⟨ad, cap, rfl⟩

end Go.Proofs.YtjkhcplnedcmeaaGreatDoor
namespace Go.Proofs.YtjkhcplnedcmeaaGreatDoor
open Go.RowKit
set_option linter.unusedVariables false
set_option linter.unusedSimpArgs false

/-- Where what lies in a block begins. -/
def bgn (W : World) (b : Nat) : Nat := match W.cell? ⟨b, 0, none⟩ with
  | some v => (intOf v).toNat
  | none => 0
theorem bgn_of {W : World} {b x : Nat} {y : Value} {t : TypeId} {f : Nat × Nat} (h : W.heap[b]? = some (.cells #[.int .u64 (x : Int), y] t f)) : bgn W b = x := by
  unfold bgn
  rw [cell2a h]
  simp [intOf]
theorem ownsRow_form {w : World} {base : Nat} {e : TypeId} {size : Nat} {v : Value} {n : Nat} {xs : List Value} (h : w.ownsRow base e size v n xs) : ∃ ad cap, v = .slice ad n cap := by
  rcases h.2 with ⟨rfl, rfl⟩ | ⟨g, cap, cur, rfl, _⟩
  · exact ⟨none, 0, rfl⟩
  · exact ⟨_, _, rfl⟩
theorem ownsRow_base {w : World} {base base' : Nat} {e : TypeId} {size : Nat} {v : Value} {n : Nat} {xs : List Value} (h : w.ownsRow base e size v n xs) (hb : base' ≤ base) : w.ownsRow base' e size v n xs := by
  obtain ⟨h1, h2⟩ := h
  refine ⟨h1, ?_⟩
  rcases h2 with h2 | ⟨g, cap, cur, rfl, hg, h3⟩
  · exact .inl h2
  · exact .inr ⟨g, cap, cur, rfl, Nat.le_trans hb hg, h3⟩
theorem infoC : (Tryz.prog.info? 273).map (fun i => (i.zero, i.size, i.bytes)) = some (some (cd 0 0), 2, 16) := by kernel_rfl
theorem cd_new {w : World} (L I : Int) (t : TypeId) : ∀ j u, [Value.int .u8 L, .int .u64 I][j]? = some u → (w.alloc (.cells #[.int .u8 L, .int .u64 I] t)).cell? ((⟨w.heap.size, 0, none⟩ : Addr).add j) = some u := by
  intro j u h
  rw [addZ, cell_of (heap_new w _)]
  match j, h with
  | 0, h => exact h
  | 1, h => exact h
theorem two_le {L : Nat} (h : L ≤ 63) : 2 ^ L ≤ 9223372036854775808 := by rw [← p63]; exact pow_le2 h

set_option maxRecDepth 100000 in
set_option maxHeartbeats 1000000 in
theorem cover_yes (b e : Nat) (hbe : b ≤ e) (he : e ≤ 9223372036854775808) (w : World) (hT : TabAt w) :
    Calls Tryz.prog 168 #[sp b e] w fun x w' => ∃ v, x = .returned (.tuple #[v, .nilIface]) ∧ w'.ownsRow w.heap.size 273 2 v (cov b e).length (fl (cov b e)) ∧ Nw w w' := by
  have HT : Hid (TabAt w) := hT
  have hlen : Hid ((cov b e).length ≤ 128) := cov_len b e (by rw [p63]; exact he)
  obtain ⟨i0, hi, hz0, hz1, hz2⟩ := info_parts infoC
  clear hT
  go_enter Tryz.func168, Tryz.ntmps168
  go_wp2_with fail
  refine (smb b e true (by simp; omega) (by omega) (by omega) _).mono ?_
  rintro x w1 ⟨rfl, n1⟩
  obtain ⟨l0, b0, n2⟩ := one_made n1
  clear n1
  go_wp2
  go_loopw [4] (fun v wr => ∃ (at_ : Nat) (pre : List (Nat × Nat)), cov b e = pre ++ cov at_ e ∧ at_ ≤ e ∧ wr.heap[w.heap.size]? = some (.cells #[.int .u64 (at_ : Int), .int .u64 (e : Int)] 123) ∧ wr.ownsRow (w.heap.size + 1) 273 2 v pre.length (fl pre) ∧ Nw w wr) (fun _ wr => e - bgn wr w.heap.size)
  case atStart => exact ⟨b, [], rfl, hbe, b0, World.ownsRow_nil _ _ _ _, n2⟩
  case round =>
    clear b0 n2 l0
    obtain ⟨p, pre, hcov, hpe, j0, hown, hnw⟩ := hrel
    have HC : Hid (cov b e = pre ++ cov p e) := hcov
    have hpl : pre.length ≤ 128 := by
      have := hlen.out
      rw [hcov, List.length_append] at this
      omega
    have HB : Hid (bgn wr w.heap.size = p) := bgn_of j0
    clear hcov
    have l0 := heap_lt j0
    have c0 := cell2a j0
    have c1 := cell2b j0
    by_cases hlt : p < e
    · have hW := lev_is hlt
      obtain ⟨L, hL⟩ : ∃ L, L = lev p e := ⟨_, rfl⟩
      rw [← hL] at hW
      have HW : Hid (IsW p e L) := hW
      have hL63 := isW_le hW (by rw [p63]; exact he)
      have hst := cov_step hW
      have hfit := hW.1.2
      have h2L := two_le hL63
      have hp2 := Nat.two_pow_pos L
      have HS : Hid (cov p e = (L, p / 2 ^ L) :: cov (p + 2 ^ L) e) := hst
      clear hL hW hst
      have hi1 : (p : Int) < (e : Int) := by omega
      go_wp2_with fail
      refine (widest_any p e L HW.out he wr (HT.out.nw hnw)).mono ?_
      rintro x w3 ⟨rfl, n3⟩
      have k0 := (n3.block _ l0 (fun f => f)).trans j0
      have n4 : Nw w w3 := hnw.tr n3
      have own3 : w3.ownsRow (w.heap.size + 1) 273 2 u4 pre.length (fl pre) := ownsRow_keep hown (fun g hg => n3.block g (hown.lt g hg).2 (fun f => f))
      have l3 := heap_lt k0
      obtain ⟨I, hI⟩ : ∃ I, I = p / 2 ^ L := ⟨_, rfl⟩
      rw [← hI]
      have HI : Hid (I = p / 2 ^ L) := hI
      clear hI c0 c1 j0 hown hnw n3 l0
      have c0 := cell2a k0
      have c1 := cell2b k0
      have own5 := (own3.alloc (.cells #[.int .u8 (L : Int), .int .u64 (I : Int)] 273)).alloc (.cells #[.int .u8 (L : Int), .int .u64 (I : Int)] 273)
      have hnew := cd_new (w := w3.alloc (.cells #[.int .u8 (L : Int), .int .u64 (I : Int)] 273)) (L : Int) (I : Int) 273
      rw [World.size_alloc] at hnew
      have HNew : Hid (∀ j u, [Value.int .u8 (L : Int), .int .u64 (I : Int)][j]? = some u → ((w3.alloc (.cells #[.int .u8 (L : Int), .int .u64 (I : Int)] 273)).alloc (.cells #[.int .u8 (L : Int), .int .u64 (I : Int)] 273)).cell? ((⟨w3.heap.size + 1, 0, none⟩ : Addr).add j) = some u) := hnew
      clear hnew
      have HG : Hid (∀ g, u4.ownBlock = some g → w.heap.size + 1 ≤ g ∧ g < w3.heap.size) := own3.lt
      have hpw : w.heap.size + 1 ≤ w3.heap.size := by omega
      clear own3
      go_wp2_with (at_builtin; refine wpList_append_own _ rfl (.tmp 17) (.tmp 19) 175 rfl (w.heap.size + 1) 273 i0 (cd 0 0) 2 16 Tryz.underlying175 hi hz0 hz1 hz2 rfl (by decide) u4 pre.length (fl pre) rfl own5 ⟨w3.heap.size + 1, 0, none⟩ 1 1 [.int .u8 (L : Int), .int .u64 (I : Int)] rfl rfl HNew.out (by simp [Value.oneCell']) (by unfold maxLen; omega) (by omega) (by simp; omega) ?_; intro v' w5 hown' hgrow _; obtain ⟨va, vc, rfl⟩ := ownsRow_form hown'; have m0 : w5.heap[w.heap.size]? = some (.cells #[.int .u64 (p : Int), .int .u64 (e : Int)] 123) := (hgrow.block _ (by simp; omega) (fun q => by have := (HG.out _ q.symm).1; omega)).trans (by (repeat first | with_reducible exact k0 | with_reducible exact heap_new _ _ | with_reducible exact heap_next _ _ _ | with_reducible exact heap_third _ _ _ _ | with_reducible refine hp_dr ?_ | (with_reducible refine hp_ne ?_ ?_; focus omega) | (with_reducible refine hp_al ?_ ?_; focus (first | omega | (simp <;> omega))) | with_reducible apply hp_set) <;> rfl); have m1 : w5.heap[w3.heap.size]? = some (.cells #[.int .u8 (L : Int), .int .u64 (I : Int)] 273) := (hgrow.block _ (by simp; omega) (fun q => by have := (HG.out _ q.symm).2; omega)).trans (by (repeat first | with_reducible exact k0 | with_reducible exact heap_new _ _ | with_reducible exact heap_next _ _ _ | with_reducible exact heap_third _ _ _ _ | with_reducible refine hp_dr ?_ | (with_reducible refine hp_ne ?_ ?_; focus omega) | (with_reducible refine hp_al ?_ ?_; focus (first | omega | (simp <;> omega))) | with_reducible apply hp_set) <;> rfl); have n6 : Nw w w5 := ((n4.alloc _).alloc _).grown hgrow (fun k q hk => by have := (HG.out _ q).1; omega); have hs5 := hgrow.size; have c0' := cell2a m0; have c1' := cell2b m0; have f0' := frozen_of m0 0; have d0' := cell2a m1; clear hgrow)
      have HO : Hid (w5.ownsRow (w.heap.size + 1) 273 2 (.slice va (pre.length + 1) vc) (pre.length + 1) (fl pre ++ [.int .u8 (L : Int), .int .u64 (I : Int)])) := hown'
      have e1 : IntKind.u64.wrap ((p : Int) + IntKind.u64.wrap (2 ^ L)) = ((p + 2 ^ L : Nat) : Int) := by rw [w64, w64, ← pow_cast]; omega
      rw [e1]
      refine ⟨⟨p + 2 ^ L, pre ++ [(L, I)], ?_, hfit, by (repeat first | with_reducible exact m0 | with_reducible exact heap_new _ _ | with_reducible exact heap_next _ _ _ | with_reducible exact heap_third _ _ _ _ | with_reducible refine hp_dr ?_ | (with_reducible refine hp_ne ?_ ?_; focus omega) | (with_reducible refine hp_al ?_ ?_; focus (first | omega | (simp <;> omega))) | with_reducible apply hp_set) <;> rfl, ?_, (by repeat first | with_reducible exact n6 | with_reducible refine Fr.alloc ?_ _ | with_reducible refine Fr.drew ?_ | (with_reducible refine Fr.setCell ?_ _ _ (fun h => ?_); rotate_left; focus (simp only at h; omega)))⟩, ?_⟩
      · rw [HC.out, HS.out, ← HI.out, List.append_assoc]; rfl
      · rw [List.length_append, fl_app]
        exact ownsRow_setCell_other HO.out (fun q => by have := (HO.out.lt _ q).1; simp only at this; omega) _
      · rw [HB.out, bgn_of (x := p + 2 ^ L) (y := .int .u64 (e : Int)) (t := 123) (f := (0, 0)) (by (repeat first | with_reducible exact m0 | with_reducible exact heap_new _ _ | with_reducible exact heap_next _ _ _ | with_reducible exact heap_third _ _ _ _ | with_reducible refine hp_dr ?_ | (with_reducible refine hp_ne ?_ ?_; focus omega) | (with_reducible refine hp_al ?_ ?_; focus (first | omega | (simp <;> omega))) | with_reducible apply hp_set) <;> rfl)]
        omega
    · have hpq : p = e := by omega
      have HP : Hid (cov b e = pre) := by
        have h1 := HC.out
        rw [cov_nil (a := p) (c := e) (by omega), List.append_nil] at h1
        exact h1
      clear hpq
      have hi1 : ¬ (p : Int) < (e : Int) := by omega
      go_wp2
      refine bodyPost_ret (v := .tuple #[u4, .nilIface]) (by simp [results, Tryz.results168]) rfl ⟨u4, rfl, ?_, hnw⟩
      rw [HP.out]
      exact ownsRow_base hown (by omega)
end Go.Proofs.YtjkhcplnedcmeaaGreatDoor
