/- Digests: made, written to, asked. -/
import Derived.Test.YthkkjpefealdgaaDoorP7
namespace Go.Proofs.YthkkjpefealdgaaDoor
open Go.RowKit
set_option linter.unusedVariables false
set_option linter.unusedSimpArgs false

/-- The beginning lies where the program lays it. -/
def Bg (w : World) : Prop := ∀ i, i < 8 → w.cell? ⟨16, i, none⟩ = (vals H0)[i]?
theorem Bg.fr {w w' : World} {d : Nat} (h : Bg w) (k : Fr (fun k => k = d) w w') (hn : d ≠ 16) : Bg w' := fun i hi => by
  obtain ⟨u, hu⟩ : ∃ u, (vals H0)[i]? = some u := ⟨_, vals_at H0 i hi⟩
  have h1 := (h i hi).trans hu
  rw [(k.cell (World.block_lt_of_cell? w _ h1) (fun e => hn e.symm)), h i hi]
theorem Bg.nw {w w' : World} (h : Bg w) (k : Nw w w') : Bg w' := fun i hi => by
  obtain ⟨u, hu⟩ : ∃ u, (vals H0)[i]? = some u := ⟨_, vals_at H0 i hi⟩
  rw [k.cellOf ((h i hi).trans hu), hu]
/-- What is laid: both tables. -/
structure Laid (w : World) : Prop where
  k : Ks w
  b : Bg w
theorem Laid.nw {w w' : World} (h : Laid w) (k : Nw w w') : Laid w' := ⟨h.k.nw k, h.b.nw k⟩
theorem Laid.lt {w : World} (h : Laid w) : 19 ≤ w.heap.size := by
  have h1 := World.block_lt_of_cell? w _ (h.k 0 (by decide))
  have h2 := World.block_lt_of_cell? w _ ((h.b 0 (by decide)).trans (vals_at H0 0 (by decide)))
  have e1 : w.heap.size > 18 := h1
  have e2 : w.heap.size > 16 := h2
  omega
theorem Laid.fr {w w' : World} {d : Nat} (h : Laid w) (k : Fr (fun k => k = d) w w') (hd : 19 ≤ d) : Laid w' := ⟨h.k.fr k (by omega), h.b.fr k (by omega)⟩
/-- Nothing yet. -/
abbrev d0 : Array Value := dcs H0 (List.replicate 64 0) 0
theorem dig_new {w : World} {d : Nat} (h : w.heap[d]? = some (.cells d0 tD (0, 0))) : Dig w d [] := ⟨List.replicate 64 0, by simp, rfl, h⟩

theorem d0_eq : (Array.foldl (fun cs (x : Value × Nat) => cs.setIfInBounds (1 + x.snd) x.fst) (Tryd.zeroCells96.setIfInBounds 0 (Value.bool true)) (vals H0).zipIdx 0 (vals H0).size) = d0 := by kernel_rfl
theorem dcs_one (s : V8) (blk : List UInt8) (n : Nat) : ∀ u ∈ (dcs s blk n).toList, u.oneCell' = true := by
  intro u hu
  simp only [dcs, List.toList_toArray, List.mem_cons, List.mem_append, List.not_mem_nil, or_false] at hu
  rcases hu with rfl | h | h | rfl
  · rfl
  · exact vals_one s u h
  · obtain ⟨b, _, rfl⟩ := List.mem_map.1 h; rfl
  · rfl
theorem zc_d : Tryd.zeroCells96.toList.drop (0 + 74) = [] := by kernel_rfl
theorem zc_s : Tryd.zeroCells96.size = 74 := by kernel_rfl
end Go.Proofs.YthkkjpefealdgaaDoor
