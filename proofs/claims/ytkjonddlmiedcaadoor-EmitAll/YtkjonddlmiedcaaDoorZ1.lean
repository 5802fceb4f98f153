/- EmitNone: the walk. -/
import Derived.Test.YtkjonddlmiedcaaDoorY10
namespace Go.Proofs.YtkjonddlmiedcaaDoor
open Go.RowKit Go.Shelf
set_option linter.unusedVariables false
set_option linter.unusedSimpArgs false
theorem wpl_zeroz {w : World} {ops : Array Oper} {rest : List Oper} {o : Oper} {a : Act} {Q : Exit → Act → World → Prop} {Z : List UInt8} (hZ : Z = zh) (hwant : Region.wanted o (yielded ops a.tmps) = true) (ho : o.op = .build 32 #[])
    (h : wpList Tryd.prog ops Q rest (a.put o.dst (.agg (hbs Z))) w) : wpList Tryd.prog ops Q (o :: rest) a w := by
  rw [hZ] at h; exact wpl_zero hwant ho h
section
variable {w : World} {o : Oper} {a : Act} {K : Act → Prop}
/-- One cell loaded in a region whose calls make memory alone. -/
theorem quiet_cell {t : TypeId} (x : Operand) (ho : o.op = .load t x) (g off : Nat) (hx : a.eval x = .pointer (some ⟨g, off, none⟩)) (ht : ∀ W, (isAgg t).run Tryd.prog W = .ok false W) (v : Value) (hc : w.cell? ⟨g, off, none⟩ = some v) (hk : K (a.put o.dst v)) : o.quiet Tryd.prog a (fun w' => ∃ x : Grw w, w' = x.val) K := by
  refine ⟨v, ?_, hk⟩
  rintro W ⟨y, rfl⟩
  have h1 := y.cell hc
  unfold Oper.quietAt execOp
  simp only [ho, hx, Instr.loadAt, sure, loadVar, Sem.run_bind, Sem.run_pure, Sem.run_ite, ht, Result.andThen_ok, run_load, h1, if_false, Bool.false_eq_true]
  exact ⟨rfl, rfl⟩
end
end Go.Proofs.YtkjonddlmiedcaaDoor
