/- The document's constants, and its words behind a block. -/
import Derived.Test.YtlaiomgebkeldaaDoorRa1
import Derived.Test.YtlaiomgebkeldaaDoorPg
namespace Go.Proofs.YtlaiomgebkeldaaDoor.Rf
open Go.RowKit
set_option linter.unusedVariables false
set_option linter.unusedSimpArgs false

def ks : Array Value := Array.ofFn (n := 64) fun i => u32v (Kc i.val)
theorem ks_size : ks.size = 64 := by simp [ks]
theorem ks_get (i : Nat) (h : i < 64) : ks[i]? = some (u32v (Kc i)) := by rw [ks, Array.getElem?_ofFn, dif_pos h]
theorem ks_one : ∀ u ∈ ks.toList, u.oneCell' = true := by
  intro u hu
  have hu2 : u ∈ ks := by simpa using hu
  obtain ⟨i, hi, rfl⟩ := Array.mem_iff_getElem.1 hu2
  simp [ks, Value.oneCell']
set_option maxRecDepth 100000 in
set_option maxHeartbeats 1000000 in
theorem table_any (w : World) : Calls Tryd.prog 72 #[] w fun e w' => e = .returned (.agg ks) ∧ Nw w w' := by
  go_enter Tryd.func72, Tryd.ntmps72
  go_wp2_with (refine wp_store_agg rfl (.tmp 0) (.tmp 1) 138 64 rfl Tryd.sizeOf138 w.heap.size 0 rfl _ 138 (heap_new _ _) ks (by kernel_rfl) ks_size ks_one (by decide) ks (by simp) ?_; intro w4 j4 f4 z4)
  exact bodyPost_ret (results_cell Tryd.results72 Tryd.isAgg138 Tryd.sizeOf138 rfl j4 ks_size) rfl ⟨rfl, ((Fr.refl _ _).alloc _).trans f4 (fun k hk q => by omega)⟩
set_option maxRecDepth 100000 in
set_option maxHeartbeats 1000000 in
theorem start_any (w : World) : Calls Tryd.prog 73 #[] w fun e w' => e = .returned (.agg (vals H0)) ∧ Nw w w' := by
  go_enter Tryd.func73, Tryd.ntmps73
  go_wp2_with (refine wp_store_agg rfl (.tmp 0) (.tmp 1) 132 8 rfl Tryd.sizeOf132 w.heap.size 0 rfl _ 132 (heap_new _ _) (vals H0) (by kernel_rfl) rfl (vals_one _) (by decide) (vals H0) (by simp) ?_; intro w4 j4 f4 z4)
  exact bodyPost_ret (results_cell Tryd.results73 Tryd.isAgg132 Tryd.sizeOf132 rfl j4 rfl) rfl ⟨rfl, ((Fr.refl _ _).alloc _).trans f4 (fun k hk q => by omega)⟩
end Go.Proofs.YtlaiomgebkeldaaDoor.Rf
