/- What the parts of package coord answer: which trees and stretches may be. -/
import Derived.Test.YtlgokcijmhkdiabGreatDoorBase
import Derived.Test.YtlgokcijmhkdiabGreatDoorM1
import Derived.Test.YtlgokcijmhkdiabGreatDoorLb
import Derived.WalkSpells
import Derived.WalkLawsBesides
import Derived.Test.YtlgokcijmhkdiabGreatDoorAg
namespace Go.Proofs.YtlgokcijmhkdiabGreatDoor
open Go.RowKit
set_option linter.unusedVariables false
set_option linter.unusedSimpArgs false

/-- A tree, and a stretch, as values. -/
abbrev cd (L I : Nat) : Value := .agg #[.int .u8 (L : Int), .int .u64 (I : Int)]
abbrev sp (b e : Nat) : Value := .agg #[.int .u64 (b : Int), .int .u64 (e : Int)]

theorem nwa (w : World) (o : Obj) : Nw w (w.alloc o) := (Fr.refl _ _).alloc _
theorem nwr (w : World) : Nw w w := Fr.refl _ _
theorem ret_b {a b : Bool} (h : a = b) : Ending.returned (.bool a) = .returned (.bool b) := by rw [h]
theorem castd (I k : Nat) : (I : Int) / 2 ^ k = ((I / 2 ^ k : Nat) : Int) := by rw [← pow_cast]; exact (Int.natCast_ediv _ _).symm
theorem castm (I k : Nat) : (I : Int) * 2 ^ k = ((I * 2 ^ k : Nat) : Int) := by rw [← pow_cast]; exact (Int.natCast_mul _ _).symm
theorem p63 : (2 : Nat) ^ 63 = 9223372036854775808 := by decide
set_option maxHeartbeats 1000000 in
theorem tmb (L I : Nat) (b : Bool) (hb : b = true ↔ may L I) (hL : L ≤ 255) (hI : I < 18446744073709551616) (w : World) :
    Calls Tryz.prog 33 #[cd L I] w fun e w' => e = .returned (.bool b) ∧ Nw w w' := by
  have HB : Hid (b = true ↔ may L I) := hb
  clear hb
  by_cases h : L ≤ 63
  · go_enter Tryz.func33, Tryz.ntmps33
    go_wp2
    go_ret
    refine ⟨ret_b ?_, nwa w _⟩
    rw [Bool.eq_iff_iff, HB.out, may_div h, castd, beq_iff_eq]
    omega
  · have hn : ¬ may L I := fun k => h k.1
    obtain rfl : b = false := by rcases b with _ | _; rfl; exact absurd (HB.out.1 rfl) hn
    go_enter Tryz.func33, Tryz.ntmps33
    go_wp2
    go_ret
    exact ⟨rfl, nwa w _⟩

theorem isHalf_any (L I : Nat) (b : Bool) (hb : b = true ↔ L < 63 ∧ may L I) (hL : L ≤ 255) (hI : I < 18446744073709551616) (w : World) :
    Calls Tryz.prog 216 #[cd L I] w fun e w' => e = .returned (.bool b) ∧ Nw w w' := by
  have HB : Hid (b = true ↔ L < 63 ∧ may L I) := hb
  clear hb
  by_cases h : L < 63
  · have hq : b = true ↔ may L I := by rw [HB.out]; exact ⟨fun k => k.2, fun k => ⟨h, k⟩⟩
    have HQ : Hid (b = true ↔ may L I) := hq
    clear hq
    go_enter Tryz.func216, Tryz.ntmps216
    go_wp2_with fail
    have q := tmb L I b HQ.out hL hI (w.alloc (.cells #[.int .u8 (L : Int), .int .u64 (I : Int)] 49))
    refine q.mono ?_
    rintro e w1 ⟨rfl, n1⟩
    clear q
    go_wp2
    go_ret
    exact ⟨rfl, (nwa w _).tr n1⟩
  · obtain rfl : b = false := by rcases b with _ | _; rfl; exact absurd (HB.out.1 rfl).1 h
    go_enter Tryz.func216, Tryz.ntmps216
    go_wp2
    go_ret
    exact ⟨rfl, nwa w _⟩
end Go.Proofs.YtlgokcijmhkdiabGreatDoor
namespace Go.Proofs.YtlgokcijmhkdiabGreatDoor
open Go.RowKit
set_option linter.unusedVariables false
set_option linter.unusedSimpArgs false

theorem cell2a {w : World} {b : Nat} {x y : Value} {t : TypeId} {f : Nat × Nat} (h : w.heap[b]? = some (.cells #[x, y] t f)) : w.cell? ⟨b, 0, none⟩ = some x := (cell_of h 0).trans rfl
theorem cell2b {w : World} {b : Nat} {x y : Value} {t : TypeId} {f : Nat × Nat} (h : w.heap[b]? = some (.cells #[x, y] t f)) : w.cell? ⟨b, 1, none⟩ = some y := (cell_of h 1).trans rfl
/-- Two blocks that were made ahead of a call, behind it. -/
theorem two_made {w w1 : World} {o p : Obj} (n1 : Nw ((w.alloc o).alloc p) w1) : (w.heap.size < w1.heap.size ∧ w.heap.size + 1 < w1.heap.size) ∧ w1.heap[w.heap.size]? = some o ∧ w1.heap[w.heap.size + 1]? = some p ∧ Nw w w1 :=
  ⟨by have := n1.size; simp at this; omega, (n1.block _ (by simp; omega) (fun f => f)).trans ((Below.heap_alloc _ _ _ (by simp)).trans (heap_new w _)), (n1.block _ (by simp) (fun f => f)).trans (heap_next w _ _), Nw.tr ((nwa w _).alloc _) n1⟩
theorem one_made {w w1 : World} {o : Obj} (n1 : Nw (w.alloc o) w1) : w.heap.size < w1.heap.size ∧ w1.heap[w.heap.size]? = some o ∧ Nw w w1 :=
  ⟨by have := n1.size; simp at this; omega, (n1.block _ (by simp) (fun f => f)).trans (heap_new w _), Nw.tr (nwa w _) n1⟩
theorem hp_set {w : World} {b o : Nat} {c c' : Array Value} {t : TypeId} {f : Nat × Nat} {u : Value} (h : w.heap[b]? = some (.cells c t f)) (hc : c.setIfInBounds o u = c') : (w.setCell ⟨b, o, none⟩ u).heap[b]? = some (.cells c' t f) := by rw [← hc]; exact heap_set h u
theorem hp_ne {w : World} {b k o : Nat} {u : Value} {X : Option Obj} (hne : k ≠ b) (h : w.heap[k]? = X) : (w.setCell ⟨b, o, none⟩ u).heap[k]? = X := (heap_set_ne hne u).trans h
theorem hp_al {w : World} {k : Nat} {o : Obj} {X : Option Obj} (hk : k < w.heap.size) (h : w.heap[k]? = X) : (w.alloc o).heap[k]? = X := (Below.heap_alloc _ _ _ hk).trans h
theorem hp_dr {w : World} {k : Nat} {X : Option Obj} (h : w.heap[k]? = X) : w.drew.heap[k]? = X := h
theorem heap_third (w : World) (o p q : Obj) : (((w.alloc o).alloc p).alloc q).heap[w.heap.size + 1 + 1]? = some q := by
  have := heap_next (w.alloc o) p q
  rwa [World.size_alloc] at this
theorem gen_world {Q : World → Prop} (P : World → Prop) {W : World} (h : P W) (k : ∀ W, P W → Q W) : Q W := k W h
theorem results_cell_slot {P : Program} {w : World} {fn : Func} {i j : Nat} {t : TypeId} {n g : Nat} {tmps : Array Value} {V : Array Value} {ty : TypeId} {f : Nat × Nat} (hr : fn.results = #[.cell i t, .tmp j]) (hagg : ∀ W : World, (isAgg t).run P W = .ok true W) (hsz : ∀ W : World, (sizeOf t).run P W = .ok n W)
    (hx : tmps.getD i undef = .pointer (some ⟨g, 0, none⟩)) (v : Value) (hj : tmps.getD j undef = v) (hg : w.heap[g]? = some (.cells V ty f)) (hV : V.size = n) : (results fn tmps).run P w = .ok (.tuple #[.agg V, v]) w := by
  have hl : (loadCells ⟨g, 0, none⟩ n).run P w = .ok V w := by
    have := run_loadCells_list (P := P) w ⟨g, 0, none⟩ V.toList (fun j v hv => by
      rw [addZ, cell_of hg]
      simpa using hv)
    simpa [hV] using this
  have ha : ∀ W : World, (asAddr (.pointer (some ⟨g, 0, none⟩))).run P W = .ok ⟨g, 0, none⟩ W := fun W => by simp [asAddr]
  have hx2 : tmps[i]?.getD undef = .pointer (some ⟨g, 0, none⟩) := by rw [← hx]; simp [Array.getD]; split <;> simp_all
  have hj2 : tmps[j]?.getD undef = v := by rw [← hj]; simp [Array.getD]; split <;> simp_all
  simp [results, hr, hx2, hj2, ha, loadVar, hagg, hsz, hl]
theorem agg2 {a b c d : Int} (k m : IntKind) (h1 : a = c) (h2 : b = d) : Value.agg #[.int k a, .int m b] = .agg #[.int k c, .int m d] := by rw [h1, h2]

set_option maxHeartbeats 1000000 in
theorem span_yes (L I : Nat) (h : may L I) (w : World) :
    Calls Tryz.prog 20 #[cd L I] w fun e w' => e = .returned (.tuple #[sp (I * 2 ^ L) ((I + 1) * 2 ^ L), .bool true]) ∧ Nw w w' := by
  have H : Hid (may L I) := h
  have hL := h.1
  have hI := may_bd h
  rw [p63] at hI
  have hb := h.2
  rw [p63] at hb
  have e1 : IntKind.u64.wrap ((I : Int) * 2 ^ L) = ((I * 2 ^ L : Nat) : Int) := by
    rw [castm, w64]
    have : I * 2 ^ L ≤ (I + 1) * 2 ^ L := Nat.mul_le_mul_right _ (by omega)
    omega
  have e2 : IntKind.u64.wrap (((I : Int) + 1) * 2 ^ L) = (((I + 1) * 2 ^ L : Nat) : Int) := by
    have : ((I : Int) + 1) = ((I + 1 : Nat) : Int) := by omega
    rw [this, castm, w64]
    omega
  clear h hb
  go_enter Tryz.func20, Tryz.ntmps20
  go_wp2_with fail
  refine (tmb L I true (by simp [H.out]) (by omega) (by omega) _).mono ?_
  rintro e w1 ⟨rfl, n1⟩
  obtain ⟨⟨l0, l1⟩, b0, b1, n2⟩ := two_made n1
  have c0 := cell2a b0
  have c1 := cell2b b0
  have d0 := cell2a b1
  have d1 := cell2b b1
  have z0 := frozen_of b1 0
  have z1 := frozen_of b1 1
  clear n1
  go_wp2
  (refine bodyPost_ret (results_cell_slot (V := #[.int .u64 ((I * 2 ^ L : Nat) : Int), .int .u64 (((I + 1) * 2 ^ L : Nat) : Int)]) (ty := 53) (f := (0, 0)) Tryz.results20 Tryz.isAgg53 Tryz.sizeOf53 rfl _ rfl ?_ rfl) rfl ⟨rfl, (by repeat first | with_reducible exact n2 | with_reducible refine Fr.alloc ?_ _ | with_reducible refine Fr.drew ?_ | (with_reducible refine Fr.setCell ?_ _ _ (fun h => ?_); rotate_left; focus (simp only at h; omega)))⟩; (repeat first | with_reducible exact b1 | with_reducible exact heap_new _ _ | with_reducible exact heap_next _ _ _ | with_reducible exact heap_third _ _ _ _ | with_reducible refine hp_dr ?_ | (with_reducible refine hp_ne ?_ ?_; focus omega) | (with_reducible refine hp_al ?_ ?_; focus (first | omega | (simp <;> omega))) | with_reducible apply hp_set) <;> rfl)

set_option maxHeartbeats 1000000 in
theorem span_no (L I : Nat) (h : ¬ may L I) (hL : L ≤ 255) (hI : I < 18446744073709551616) (w : World) :
    Calls Tryz.prog 20 #[cd L I] w fun e w' => e = .returned (.tuple #[sp 0 0, .bool false]) ∧ Nw w w' := by
  go_enter Tryz.func20, Tryz.ntmps20
  go_wp2_with fail
  refine (tmb L I false (by simp [h]) (by omega) (by omega) _).mono ?_
  rintro e w1 ⟨rfl, n1⟩
  obtain ⟨⟨l0, l1⟩, b0, b1, n2⟩ := two_made n1
  have d0 := cell2a b1
  have d1 := cell2b b1
  have z0 := frozen_of b1 0
  have z1 := frozen_of b1 1
  clear n1
  go_wp2
  (refine bodyPost_ret (results_cell_slot (V := #[.int .u64 0, .int .u64 0]) (ty := 53) (f := (0, 0)) Tryz.results20 Tryz.isAgg53 Tryz.sizeOf53 rfl _ rfl ?_ rfl) rfl ⟨rfl, (by repeat first | with_reducible exact n2 | with_reducible refine Fr.alloc ?_ _ | with_reducible refine Fr.drew ?_ | (with_reducible refine Fr.setCell ?_ _ _ (fun h => ?_); rotate_left; focus (simp only at h; omega)))⟩; (repeat first | with_reducible exact b1 | with_reducible exact heap_new _ _ | with_reducible exact heap_next _ _ _ | with_reducible exact heap_third _ _ _ _ | with_reducible refine hp_dr ?_ | (with_reducible refine hp_ne ?_ ?_; focus omega) | (with_reducible refine hp_al ?_ ?_; focus (first | omega | (simp <;> omega))) | with_reducible apply hp_set) <;> rfl)
end Go.Proofs.YtlgokcijmhkdiabGreatDoor
