/- A number in so many bytes, as the reference makes it; the form of a thing. -/
import Derived.Test.YtebbgpnhkpbefaaDoorcV1
import Derived.Test.YtebbgpnhkpbefaaDoorcY3
namespace Go.Proofs.YtebbgpnhkpbefaaDoor
open Go.RowKit Go.Lib
set_option linter.unusedVariables false
set_option linter.unusedSimpArgs false

theorem results_two {P : Program} {w : World} {fn : Func} {i j : Nat} {t : TypeId} {n g : Nat} {tmps : Array Value} {V : Array Value} {v0 : Value} {ty : TypeId} {f : Nat × Nat} (hr : fn.results = #[.tmp i, .cell j t]) (hagg : ∀ W : World, (isAgg t).run P W = .ok true W) (hsz : ∀ W : World, (sizeOf t).run P W = .ok n W)
    (h0 : tmps.getD i undef = v0) (hx : tmps.getD j undef = .pointer (some ⟨g, 0, none⟩)) (hg : w.heap[g]? = some (.cells V ty f)) (hV : V.size = n) : (results fn tmps).run P w = .ok (.tuple #[v0, .agg V]) w := by
  have hl : (loadCells ⟨g, 0, none⟩ n).run P w = .ok V w := by
    have := run_loadCells_list (P := P) w ⟨g, 0, none⟩ V.toList (fun j v hv => by
      rw [addZ, cell_of hg]
      simpa using hv)
    simpa [hV] using this
  have ha : ∀ W : World, (asAddr (.pointer (some ⟨g, 0, none⟩))).run P W = .ok ⟨g, 0, none⟩ W := fun W => by simp [asAddr]
  have hx2 : tmps[j]?.getD undef = .pointer (some ⟨g, 0, none⟩) := by rw [← hx]; simp [Array.getD]; split <;> simp_all
  have h02 : tmps[i]?.getD undef = v0 := by rw [← h0]; simp [Array.getD]; split <;> simp_all
  simp [results, hr, hx2, h02, ha, loadVar, hagg, hsz, hl]

theorem made8 (m : Nat) (h1 : 1 ≤ m) (h8 : m ≤ 8) : (madeCells (Value.int .u8 0).cells (m * 1)).toList = List.replicate m (Value.int .u8 0) := by
  rw [Nat.mul_one]
  exact toList_madeCells_one _ _
theorem make8 (m : Nat) (h1 : 1 ≤ m) (h8 : m ≤ 8) : ∃ Z : Array Value, Z.toList = List.replicate m (Value.int .u8 0) ∧ ∀ W : World, (Instr.makeSlice 53 (.int .i64 (m : Int)) (.int .i64 (m : Int))).run Tryd.prog W = .ok (.slice (some ⟨W.heap.size, 0, none⟩) m m) (W.alloc (.cells Z 5)) := by
  obtain ⟨i0, hi, hz0, hz1, hz2⟩ := info_parts8
  refine ⟨_, made8 m h1 h8, fun W => ?_⟩
  have := run_makeSlice (P := Tryd.prog) W 53 5 i0 (.int .u8 0) Tryd.underlying53 hi hz0 .i64 .i64 m m (by omega) (by omega) (by rw [hz1]; omega) (by rw [hz2]; omega) (by omega)
  rw [this, Int.toNat_natCast, hz1]
theorem low_byte (X : Nat) : (Value.int .u8 ((X : Int) % 256)) = .int .u8 ((UInt8.ofNat X).toNat : Nat) := by
  rw [UInt8.toNat_ofNat']
  congr 1
theorem list_set (k : Nat) (z x : Value) (r : List Value) : (List.replicate (k + 1) z ++ r).set k x = List.replicate k z ++ x :: r := by
  rw [List.replicate_succ', List.append_assoc, List.set_append_right _ _ (by simp)]
  simp

end Go.Proofs.YtebbgpnhkpbefaaDoor
