/- Parent, Sibling, Children of package coord. -/
import Derived.Test.YthkkjpefealdgaaDoorC2
namespace Go.Proofs.YthkkjpefealdgaaDoor
open Go.RowKit
set_option linter.unusedVariables false
set_option linter.unusedSimpArgs false

/-- The other half. -/
def sib (I : Nat) : Nat := if I % 2 = 0 then I + 1 else I - 1
theorem xor_one (I : Nat) (h : I < 18446744073709551616) : bits BinOp.xor IntKind.u64 (I : Int) 1 = ((sib I : Nat) : Int) := by
  have e1 : (1 : Int) = ((1 : Nat) : Int) := rfl
  rw [e1, bits_xor_u64_nat I 1 h (by omega)]
  congr 1
  unfold sib
  have h1 : (I ^^^ 1) / 2 = I / 2 := by
    have := Nat.xor_div_two_pow (a := I) (b := 1) (n := 1)
    simpa using this
  have h2 : (I ^^^ 1) % 2 = (I + 1) % 2 := by
    have h3 := Nat.xor_mod_two_pow (a := I) (b := 1) (n := 1)
    simp only [Nat.pow_one] at h3
    rw [h3]
    rcases Nat.mod_two_eq_zero_or_one I with h4 | h4 <;> rw [h4] <;> simp <;> omega
  split <;> omega
theorem or_one (I : Nat) (h : I < 9223372036854775808) : bits BinOp.or IntKind.u64 ((I : Int) * 2) 1 = ((2 * I + 1 : Nat) : Int) := by
  have e1 : (1 : Int) = ((1 : Nat) : Int) := rfl
  have e2 : (I : Int) * 2 = ((2 * I : Nat) : Int) := by omega
  rw [e1, e2, bits_or_u64_nat (2 * I) 1 (by omega) (by omega)]
  congr 1
  have h1 : (2 * I ||| 1) / 2 = I := by
    have := Nat.or_div_two_pow (a := 2 * I) (b := 1) (n := 1)
    simpa using this
  have h2 : (2 * I ||| 1) % 2 = 1 := by rw [Nat.or_mod_two_eq_one]; simp
  omega

set_option maxHeartbeats 1000000 in
theorem above_any (L I : Nat) (hL : L < 255) (hI : I < 18446744073709551616) (w : World) :
    Calls Tryd.prog 49 #[cd L I] w fun e w' => e = .returned (cd (L + 1) (I / 2)) ∧ Nw w w' := by
  go_enter Tryd.func49, Tryd.ntmps49
  go_wp2
  (refine bodyPost_ret (results_cell (V := #[.int .u8 ((L : Int) + 1), .int .u64 ((I : Int) / 2)]) (ty := 76) (f := (0, 0)) Tryd.results49 Tryd.isAgg76 Tryd.sizeOf76 rfl ?_ rfl) rfl ⟨rfl, (by repeat first | with_reducible exact nwr w | with_reducible refine Fr.alloc ?_ _ | with_reducible refine Fr.drew ?_ | (with_reducible refine Fr.setCell ?_ _ _ (fun h => ?_); rotate_left; focus (simp only at h; omega)))⟩; (repeat first | with_reducible exact heap_next w _ _ | with_reducible exact heap_new _ _ | with_reducible exact heap_next _ _ _ | with_reducible exact heap_third _ _ _ _ | with_reducible refine hp_dr ?_ | (with_reducible refine hp_ne ?_ ?_; focus omega) | (with_reducible refine hp_al ?_ ?_; focus (first | omega | (simp <;> omega))) | with_reducible apply hp_set) <;> rfl)

theorem mul2 (I : Nat) : ((I : Int) * 2) = ((2 * I : Nat) : Int) := by omega
theorem results_cells_slot {P : Program} {w : World} {fn : Func} {i j s : Nat} {t : TypeId} {n g k : Nat} {tmps : Array Value} {V U : Array Value} {ty tz : TypeId} {f f2 : Nat × Nat} (hr : fn.results = #[.cell i t, .cell j t, .tmp s]) (hagg : ∀ W : World, (isAgg t).run P W = .ok true W) (hsz : ∀ W : World, (sizeOf t).run P W = .ok n W)
    (hx : tmps.getD i undef = .pointer (some ⟨g, 0, none⟩)) (hy : tmps.getD j undef = .pointer (some ⟨k, 0, none⟩)) (v : Value) (hv : tmps.getD s undef = v) (hg : w.heap[g]? = some (.cells V ty f)) (hV : V.size = n) (hk : w.heap[k]? = some (.cells U tz f2)) (hU : U.size = n) : (results fn tmps).run P w = .ok (.tuple #[.agg V, .agg U, v]) w := by
  have hl : (loadCells ⟨g, 0, none⟩ n).run P w = .ok V w := by
    have := run_loadCells_list (P := P) w ⟨g, 0, none⟩ V.toList (fun j v hv => by
      rw [addZ, cell_of hg]
      simpa using hv)
    simpa [hV] using this
  have hl2 : (loadCells ⟨k, 0, none⟩ n).run P w = .ok U w := by
    have := run_loadCells_list (P := P) w ⟨k, 0, none⟩ U.toList (fun j v hv => by
      rw [addZ, cell_of hk]
      simpa using hv)
    simpa [hU] using this
  have ha : ∀ (g : Nat) (W : World), (asAddr (.pointer (some ⟨g, 0, none⟩))).run P W = .ok ⟨g, 0, none⟩ W := fun g W => by simp [asAddr]
  have hx2 : tmps[i]?.getD undef = .pointer (some ⟨g, 0, none⟩) := by rw [← hx]; simp [Array.getD]; split <;> simp_all
  have hy2 : tmps[j]?.getD undef = .pointer (some ⟨k, 0, none⟩) := by rw [← hy]; simp [Array.getD]; split <;> simp_all
  have hv2 : tmps[s]?.getD undef = v := by rw [← hv]; simp [Array.getD]; split <;> simp_all
  simp [results, hr, hx2, hy2, hv2, ha, loadVar, hagg, hsz, hl, hl2]
/-- Three blocks that were made ahead of a call, behind it. -/
theorem three_made {w w1 : World} {o p q : Obj} (n1 : Nw (((w.alloc o).alloc p).alloc q) w1) : (w.heap.size < w1.heap.size ∧ w.heap.size + 1 < w1.heap.size ∧ w.heap.size + 1 + 1 < w1.heap.size) ∧ w1.heap[w.heap.size]? = some o ∧ w1.heap[w.heap.size + 1]? = some p ∧ w1.heap[w.heap.size + 1 + 1]? = some q ∧ Nw w w1 := by
  have h := two_made (w := w.alloc o) n1
  simp only [World.size_alloc] at h
  obtain ⟨⟨l1, l2⟩, b1, b2, n2⟩ := h
  obtain ⟨l0, b0, n3⟩ := one_made n2
  exact ⟨⟨l0, l1, l2⟩, b0, b1, b2, n3⟩

end Go.Proofs.YthkkjpefealdgaaDoor
