/- Every script of writers. -/
import Derived.Test.YtebbgpnhkpbefaaDoorcV4
namespace Go.Proofs.YtebbgpnhkpbefaaDoor
open Go.RowKit
set_option linter.unusedVariables false
set_option linter.unusedSimpArgs false

/-- An aggregate loaded whole, as one step of a statement whose order is drawn. -/
theorem step_load_agg {P : Program} {ops : Array Oper} {o : Oper} {a : Act} {w : World} {K : Act → World → Prop} {Q : Exit → Act → World → Prop} {E : Prop} (hgd : o.guard = none) (x : Operand) (t : TypeId) (n : Nat) (ho : o.op = .load t x)
    (hagg : ∀ W : World, (isAgg t).run P W = .ok true W) (hsz : ∀ W : World, (sizeOf t).run P W = .ok n W) (g off : Nat) (hx : a.eval x = .pointer (some ⟨g, off, none⟩)) (cur : Array Value) (ty : TypeId) (f : Nat × Nat) (hg : w.heap[g]? = some (.cells cur ty f))
    (V : Array Value) (hV : V.size = n) (hc : ∀ j, j < n → cur[off + j]? = V[j]?)
    (h : K (a.put o.dst (.agg V)) w) : if Region.wanted o (yielded ops a.tmps) = true then Oper.wp P o a w K Q else E := by
  have hw : Region.wanted o (yielded ops a.tmps) = true := by simp [Region.wanted, hgd]
  rw [if_pos hw]
  have hl : (loadCells ⟨g, off, none⟩ n).run P w = .ok V w := by
    have := run_loadCells_list (P := P) w ⟨g, off, none⟩ V.toList (fun j v hv => by
      have hj : j < n := by
        have := (List.getElem?_eq_some_iff.1 hv).1
        simpa [hV] using this
      rw [addO, cell_of hg, hc j hj]
      simpa using hv)
    simpa [hV] using this
  unfold Oper.wp execOp
  simp only [ho, hx, Instr.loadAt, sure, loadVar, Sem.run_bind, Sem.run_pure, hagg, hsz, hl, Result.andThen_ok, if_true]
  exact h
theorem foR_cases (kd n wd : Int) (t : ByteArray) (lh : List UInt8) : ∃ (L : List UInt8) (c p : Int), foR kd n wd t lh = .tuple #[.string ⟨L.toArray⟩, .agg #[.int .i64 c, .int .i64 p]] ∧ ((fmT kd n wd t lh = some L ∧ c = 0 ∧ p = 0) ∨ (fmT kd n wd t lh = none ∧ L = [] ∧ c = 2 ∧ p = -1)) := by
  unfold foR
  rcases hf : fmT kd n wd t lh with _ | F
  · exact ⟨[], 2, -1, rfl, .inr ⟨rfl, rfl, rfl, rfl⟩⟩
  · exact ⟨F, 0, 0, rfl, .inl ⟨rfl, rfl, rfl⟩⟩

theorem arr37 {A : Array Value} (h : A.size = 37) : ∃ f : Nat → Value, A = #[f 0, f 1, f 2, f 3, f 4, f 5, f 6, f 7, f 8, f 9, f 10, f 11, f 12, f 13, f 14, f 15, f 16, f 17, f 18, f 19, f 20, f 21, f 22, f 23, f 24, f 25, f 26, f 27, f 28, f 29, f 30, f 31, f 32, f 33, f 34, f 35, f 36] := by
  refine ⟨fun i => A.getD i undef, ?_⟩
  apply Array.ext'
  show A.toList = (List.range 37).map fun i => A.getD i undef
  apply List.ext_getElem (by simp [h])
  intro i h1 h2
  have h3 : i < A.size := by simpa using h1
  simp [Array.getD, h3]
theorem lit37 (f : Nat → Value) (j : Nat) (hj : j < 37) : (#[f 0, f 1, f 2, f 3, f 4, f 5, f 6, f 7, f 8, f 9, f 10, f 11, f 12, f 13, f 14, f 15, f 16, f 17, f 18, f 19, f 20, f 21, f 22, f 23, f 24, f 25, f 26, f 27, f 28, f 29, f 30, f 31, f 32, f 33, f 34, f 35, f 36] : Array Value)[j]? = some (f j) := by
  have : j = 0 ∨ j = 1 ∨ j = 2 ∨ j = 3 ∨ j = 4 ∨ j = 5 ∨ j = 6 ∨ j = 7 ∨ j = 8 ∨ j = 9 ∨ j = 10 ∨ j = 11 ∨ j = 12 ∨ j = 13 ∨ j = 14 ∨ j = 15 ∨ j = 16 ∨ j = 17 ∨ j = 18 ∨ j = 19 ∨ j = 20 ∨ j = 21 ∨ j = 22 ∨ j = 23 ∨ j = 24 ∨ j = 25 ∨ j = 26 ∨ j = 27 ∨ j = 28 ∨ j = 29 ∨ j = 30 ∨ j = 31 ∨ j = 32 ∨ j = 33 ∨ j = 34 ∨ j = 35 ∨ j = 36 := by omega
  rcases this with rfl | rfl | rfl | rfl | rfl | rfl | rfl | rfl | rfl | rfl | rfl | rfl | rfl | rfl | rfl | rfl | rfl | rfl | rfl | rfl | rfl | rfl | rfl | rfl | rfl | rfl | rfl | rfl | rfl | rfl | rfl | rfl | rfl | rfl | rfl | rfl | rfl <;> rfl
theorem WP.up {B M : Nat} {v : Value} {W : World} {b : Nat} {l : List UInt8} (h : Wr W b v l) (hB : B ≤ b) (hM : b < M) (hg : ∀ g, v.ownBlock = some g → g < M) : ∀ j, j < W.heap.size → WP b v j → B ≤ j ∧ j < M := fun j _ q => by
  rcases q with q | q
  · omega
  · have := h.gt j q; have := hg j q; omega
theorem EV.any {w w' : World} {a : Nat → Addr} {v : Value} {code : Nat} (h : EV w a v code none) : EV w' a v code none := by
  rcases h with h | h | ⟨_, _, _, _, _, _, _, hp⟩
  · exact .inl h
  · exact .inr (.inl h)
  · cases hp
theorem fm_some {kd n wd : Int} {t : ByteArray} {lh L : List UInt8} {c p : Int} (h4 : kd % 4 ≠ 0) (hF : (fmT kd n wd t lh = some L ∧ c = 0 ∧ p = 0) ∨ (fmT kd n wd t lh = none ∧ L = [] ∧ c = 2 ∧ p = -1)) : c = 0 ∧ p = 0 := by
  rcases hF with ⟨_, h⟩ | ⟨h, _⟩
  · exact h
  · exfalso
    unfold fmT at h
    rw [if_neg h4] at h
    split at h
    · cases h
    · split at h
      · cases h
      · cases h
end Go.Proofs.YtebbgpnhkpbefaaDoor
