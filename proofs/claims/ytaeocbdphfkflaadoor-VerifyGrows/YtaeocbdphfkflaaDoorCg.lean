/- What the parts of package coord answer: which trees and stretches may be. -/
import Derived.Test.YtaeocbdphfkflaaDoorBpl
import Derived.Test.YtaeocbdphfkflaaDoorM1
import Derived.Test.YtaeocbdphfkflaaDoorLb
import Derived.WalkSpells
import Derived.WalkLawsBesides
import Derived.Test.YtaeocbdphfkflaaDoorAg
namespace Go.Proofs.YtaeocbdphfkflaaDoor
open Go.RowKit
set_option linter.unusedVariables false
set_option linter.unusedSimpArgs false

/-- A tree, and a stretch, as values. -/
abbrev cd (L I : Nat) : Value := .agg #[.int .u8 (L : Int), .int .u64 (I : Int)]
abbrev sp (b e : Nat) : Value := .agg #[.int .u64 (b : Int), .int .u64 (e : Int)]

theorem nwa (w : World) (o : Obj) : Nw w (w.alloc o) := (Fr.refl _ _).alloc _
theorem nwr (w : World) : Nw w w := Fr.refl _ _
theorem ret_b {a b : Bool} (h : a = b) : Ending.returned (.bool a) = .returned (.bool b) := by rw [h]
theorem castd (I k : Nat) : (I : Int) / 2 ^ k = ((I / 2 ^ k : Nat) : Int) := by rw [← pow_cast]; exact (Int.natCast_ediv _ _).symm
theorem castm (I k : Nat) : (I : Int) * 2 ^ k = ((I * 2 ^ k : Nat) : Int) := by rw [← pow_cast]; exact (Int.natCast_mul _ _).symm
theorem p63 : (2 : Nat) ^ 63 = 9223372036854775808 := by decide
end Go.Proofs.YtaeocbdphfkflaaDoor
namespace Go.Proofs.YtaeocbdphfkflaaDoor
open Go.RowKit
set_option linter.unusedVariables false
set_option linter.unusedSimpArgs false

theorem cell2a {w : World} {b : Nat} {x y : Value} {t : TypeId} {f : Nat × Nat} (h : w.heap[b]? = some (.cells #[x, y] t f)) : w.cell? ⟨b, 0, none⟩ = some x := (cell_of h 0).trans rfl
theorem cell2b {w : World} {b : Nat} {x y : Value} {t : TypeId} {f : Nat × Nat} (h : w.heap[b]? = some (.cells #[x, y] t f)) : w.cell? ⟨b, 1, none⟩ = some y := (cell_of h 1).trans rfl
/-- Two blocks that were made ahead of a call, behind it. -/
theorem two_made {w w1 : World} {o p : Obj} (n1 : Nw ((w.alloc o).alloc p) w1) : (w.heap.size < w1.heap.size ∧ w.heap.size + 1 < w1.heap.size) ∧ w1.heap[w.heap.size]? = some o ∧ w1.heap[w.heap.size + 1]? = some p ∧ Nw w w1 :=
  ⟨by have := n1.size; simp at this; omega, (n1.block _ (by simp; omega) (fun f => f)).trans ((Below.heap_alloc _ _ _ (by simp)).trans (heap_new w _)), (n1.block _ (by simp) (fun f => f)).trans (heap_next w _ _), Nw.tr ((nwa w _).alloc _) n1⟩
theorem one_made {w w1 : World} {o : Obj} (n1 : Nw (w.alloc o) w1) : w.heap.size < w1.heap.size ∧ w1.heap[w.heap.size]? = some o ∧ Nw w w1 :=
  ⟨by have := n1.size; simp at this; omega, (n1.block _ (by simp) (fun f => f)).trans (heap_new w _), Nw.tr (nwa w _) n1⟩
theorem hp_set {w : World} {b o : Nat} {c c' : Array Value} {t : TypeId} {f : Nat × Nat} {u : Value} (h : w.heap[b]? = some (.cells c t f)) (hc : c.setIfInBounds o u = c') : (w.setCell ⟨b, o, none⟩ u).heap[b]? = some (.cells c' t f) := by rw [← hc]; exact heap_set h u
theorem hp_ne {w : World} {b k o : Nat} {u : Value} {X : Option Obj} (hne : k ≠ b) (h : w.heap[k]? = X) : (w.setCell ⟨b, o, none⟩ u).heap[k]? = X := (heap_set_ne hne u).trans h
theorem hp_al {w : World} {k : Nat} {o : Obj} {X : Option Obj} (hk : k < w.heap.size) (h : w.heap[k]? = X) : (w.alloc o).heap[k]? = X := (Below.heap_alloc _ _ _ hk).trans h
theorem hp_dr {w : World} {k : Nat} {X : Option Obj} (h : w.heap[k]? = X) : w.drew.heap[k]? = X := h
theorem heap_third (w : World) (o p q : Obj) : (((w.alloc o).alloc p).alloc q).heap[w.heap.size + 1 + 1]? = some q := by
  have := heap_next (w.alloc o) p q
  rwa [World.size_alloc] at this
theorem gen_world {Q : World → Prop} (P : World → Prop) {W : World} (h : P W) (k : ∀ W, P W → Q W) : Q W := k W h
theorem results_cell_slot {P : Program} {w : World} {fn : Func} {i j : Nat} {t : TypeId} {n g : Nat} {tmps : Array Value} {V : Array Value} {ty : TypeId} {f : Nat × Nat} (hr : fn.results = #[.cell i t, .tmp j]) (hagg : ∀ W : World, (isAgg t).run P W = .ok true W) (hsz : ∀ W : World, (sizeOf t).run P W = .ok n W)
    (hx : tmps.getD i undef = .pointer (some ⟨g, 0, none⟩)) (v : Value) (hj : tmps.getD j undef = v) (hg : w.heap[g]? = some (.cells V ty f)) (hV : V.size = n) : (results fn tmps).run P w = .ok (.tuple #[.agg V, v]) w := by
  have hl : (loadCells ⟨g, 0, none⟩ n).run P w = .ok V w := by
    have := run_loadCells_list (P := P) w ⟨g, 0, none⟩ V.toList (fun j v hv => by
      rw [addZ, cell_of hg]
      simpa using hv)
    simpa [hV] using this
  have ha : ∀ W : World, (asAddr (.pointer (some ⟨g, 0, none⟩))).run P W = .ok ⟨g, 0, none⟩ W := fun W => by simp [asAddr]
  have hx2 : tmps[i]?.getD undef = .pointer (some ⟨g, 0, none⟩) := by rw [← hx]; simp [Array.getD]; split <;> simp_all
  have hj2 : tmps[j]?.getD undef = v := by rw [← hj]; simp [Array.getD]; split <;> simp_all
  simp [results, hr, hx2, hj2, ha, loadVar, hagg, hsz, hl]
theorem agg2 {a b c d : Int} (k m : IntKind) (h1 : a = c) (h2 : b = d) : Value.agg #[.int k a, .int m b] = .agg #[.int k c, .int m d] := by rw [h1, h2]

end Go.Proofs.YtaeocbdphfkflaaDoor
