/- EmitFolds: the walk. -/
import Derived.Test.YtkjonddlmiedcaaDoorZ1
import Derived.Test.YtkjonddlmiedcaaDoorZ2
import Derived.Test.YtkjonddlmiedcaaDoorTh
import Derived.Test.YtkjonddlmiedcaaDoorTz
namespace Go.Proofs.YtkjonddlmiedcaaDoor
open Go.RowKit Go.Shelf
set_option linter.unusedVariables false
set_option linter.unusedSimpArgs false
theorem yieldsL {P : Program} {ops : Array Oper} {S : World → Prop} {o : Oper} {a : Act} (hw0 : Region.wanted o (yielded ops a.tmps) = true) (x : Operand) (t : TypeId) (n : Nat) (ho : o.op = .load t x) (hagg : ∀ W : World, (isAgg t).run P W = .ok true W) (hsz : ∀ W : World, (sizeOf t).run P W = .ok n W) (g off : Nat) (hx : a.eval x = .pointer (some ⟨g, off, none⟩)) (V : Array Value) (hV : V.size = n)
    (hc : ∀ W, S W → ∀ j, j < n → W.cell? ⟨g, off + j, none⟩ = V[j]?) : YieldsIf P ops S o (.agg V) a := by
  refine .inl ⟨hw0, fun w hw => ?_⟩
  have hl : (loadCells ⟨g, off, none⟩ n).run P w = .ok V w := by
    have := run_loadCells_list (P := P) w ⟨g, off, none⟩ V.toList (fun j v hv => by
      have hj : j < n := by
        have := (List.getElem?_eq_some_iff.1 hv).1
        simpa [hV] using this
      rw [addO, hc w hw j hj]
      simpa using hv)
    simpa [hV] using this
  unfold execOp
  simp only [ho, hx, Instr.loadAt, sure, loadVar, Sem.run_bind, Sem.run_pure, hagg, hsz, hl, Result.andThen_ok, if_true]
theorem yieldsNe {ops : Array Oper} {S : World → Prop} {o : Oper} {a : Act} (hw0 : Region.wanted o (yielded ops a.tmps) = true) (x y : Operand) (ho : o.op = .binOp .neq 32 x y 32) (A : List UInt8) (hA : A.length = 32) (hx : a.eval x = .agg (hbs A)) (hy : a.eval y = .agg (hbs A)) : YieldsIf Tryd.prog ops S o (.bool false) a := by
  refine .inl ⟨hw0, fun w hw => ?_⟩
  unfold execOp
  simp only [ho, hx, hy, run_eqGuard, hbs_neq A hA w, Sem.run_bind, Sem.run_pure, Result.andThen_ok]
theorem fde_32 : ∀ (l : List (List UInt8)), (∀ x ∈ l, x.length = 32) → (fde l).length = 32
  | [], _ => Sh_len _
  | [x], h => h x (by simp)
  | x :: y :: r, h => ndh_len _ _
end Go.Proofs.YtkjonddlmiedcaaDoor
