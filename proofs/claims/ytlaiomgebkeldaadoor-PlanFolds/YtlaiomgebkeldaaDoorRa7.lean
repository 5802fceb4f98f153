/- The document's leaves, nodes; HashLeaves. -/
import Derived.Test.YtlaiomgebkeldaaDoorRa6
namespace Go.Proofs.YtlaiomgebkeldaaDoor.Rf
open Go.RowKit
set_option linter.unusedVariables false
set_option linter.unusedSimpArgs false

/-- A thing loaded whole, guarded or not, yields it wherever its block is as it was. -/
theorem yields_load_g {P : Program} {ops : Array Oper} {S : World → Prop} {o : Oper} {a : Act} (hgd : Region.wanted o (yielded ops a.tmps) = true) (x : Operand) (t : TypeId) (n : Nat) (ho : o.op = .load t x)
    (hagg : ∀ W : World, (isAgg t).run P W = .ok true W) (hsz : ∀ W : World, (sizeOf t).run P W = .ok n W) (g : Nat) (hx : a.eval x = .pointer (some ⟨g, 0, none⟩)) (ty : TypeId)
    (V : Array Value) (hV : V.size = n) (hg : ∀ w, S w → w.heap[g]? = some (.cells V ty (0, 0))) : YieldsIf P ops S o (.agg V) a := by
  refine .inl ⟨hgd, fun w hw => ?_⟩
  have hl : (loadCells ⟨g, 0, none⟩ n).run P w = .ok V w := by
    have := run_loadCells_list (P := P) w ⟨g, 0, none⟩ V.toList (fun j v hv => by
      rw [addZ, cell_of (hg w hw)]
      simpa using hv)
    simpa [hV] using this
  unfold execOp
  simp only [ho, hx, Instr.loadAt, sure, loadVar, Sem.run_bind, Sem.run_pure, hagg, hsz, hl, Result.andThen_ok, if_true]
theorem strs1n {w w' : World} {x : ByteArray} (n : Nw (w.alloc (.cells #[.string x] 9)) w') : Strs w' (some ⟨w.heap.size, 0, none⟩) [x] := (strs1 w x).nw n
theorem strs1d {w w' : World} {x : ByteArray} (n : Nw (w.alloc (.cells #[.string x] 9)).drew w') : Strs w' (some ⟨w.heap.size, 0, none⟩) [x] := (strs1 w x).nw (Nw.tr (Fr.refl _ _).drew n)
end Go.Proofs.YtlaiomgebkeldaaDoor.Rf
