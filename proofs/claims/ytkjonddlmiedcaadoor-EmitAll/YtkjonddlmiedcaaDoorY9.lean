/- Hashes that differ in their first byte, compared; two leaves' node is not nought. -/
import Derived.Test.YtkjonddlmiedcaaDoorY8
namespace Go.Proofs.YtkjonddlmiedcaaDoor
open Go.RowKit Go.Shelf
set_option linter.unusedVariables false
set_option linter.unusedSimpArgs false
theorem eqItems_dif (w : World) (A B : Array Value) (x y : Int) (hA : A[0]? = some (.int .u8 x)) (hB : B[0]? = some (.int .u8 y)) (hne : x ≠ y) (is : List Nat) : (Op.eqItems 9999 5 1 A B (0 :: is)).run Tryd.prog w = .ok false w := by
  have hp := run_part_plain w plain8 (xs := A) (off := 0 * 1) hA
  have hq := run_part_plain w plain8 (xs := B) (off := 0 * 1) hB
  have he : (Op.equalIn 9999 5 (.int .u8 x) (.int .u8 y)).run Tryd.prog w = .ok false w := by
    rw [run_equalIn_int w 9998 5 .u8 .u8 _ _ Tryd.underlying5]; simp [hne]
  simp only [Op.eqItems, Sem.run_bind, hp, hq, he, Result.andThen_ok, Bool.not_false, if_true, Sem.run_pure]
theorem hbs_dif (A B : List UInt8) (hA : A.length = 32) (hB : B.length = 32) (hne : A.getD 0 0 ≠ B.getD 0 0) (w : World) : (Op.equalIn 10000 32 (.agg (hbs A)) (.agg (hbs B))).run Tryd.prog w = .ok false w := by
  obtain ⟨i0, hi, _⟩ := Option.map_eq_some_iff.1 info8
  rw [run_equalIn_array w 9999 _ _ Tryd.underlying32 hi, cells5]
  exact eqItems_dif w _ _ _ _ (hbs_get A 0 (by omega)) (hbs_get B 0 (by omega)) (fun e => hne (UInt8.toNat_inj.1 (Int.ofNat_inj.1 e))) _
theorem hbs_eql_dif (A B : List UInt8) (hA : A.length = 32) (hB : B.length = 32) (hne : A.getD 0 0 ≠ B.getD 0 0) (w : World) : (binOp .eql 32 (.agg (hbs A)) (.agg (hbs B))).run Tryd.prog w = .ok (.bool false) w := by
  simp only [binOp]
  simp [Op.equal, Op.maxDepth, hbs_dif A B hA hB hne w]
theorem hbs_neq_dif (A B : List UInt8) (hA : A.length = 32) (hB : B.length = 32) (hne : A.getD 0 0 ≠ B.getD 0 0) (w : World) : (binOp .neq 32 (.agg (hbs A)) (.agg (hbs B))).run Tryd.prog w = .ok (.bool true) w := by
  simp only [binOp]
  simp [Op.equal, Op.maxDepth, hbs_dif A B hA hB hne w]
section
variable {w : World} {o : Oper} {a : Act} {K : Act → Prop}
theorem quiet_eql_dif (x y : Operand) (ho : o.op = .binOp .eql 32 x y 32) (A B : List UInt8) (hA : A.length = 32) (hB : B.length = 32) (hne : A.getD 0 0 ≠ B.getD 0 0) (hx : a.eval x = .agg (hbs A)) (hy : a.eval y = .agg (hbs B)) {C : World → Prop} (hk : K (a.put o.dst (.bool false))) : o.quiet Tryd.prog a C K := by
  refine quiet_val (.bool false) (fun W => ?_) hk
  unfold execOp
  simp only [ho, hx, hy, run_eqGuard, hbs_eql_dif A B hA hB hne W, Sem.run_bind, Sem.run_pure, Result.andThen_ok]
theorem quiet_neq_dif (x y : Operand) (ho : o.op = .binOp .neq 32 x y 32) (A B : List UInt8) (hA : A.length = 32) (hB : B.length = 32) (hne : A.getD 0 0 ≠ B.getD 0 0) (hx : a.eval x = .agg (hbs A)) (hy : a.eval y = .agg (hbs B)) {C : World → Prop} (hk : K (a.put o.dst (.bool true))) : o.quiet Tryd.prog a C K := by
  refine quiet_val (.bool true) (fun W => ?_) hk
  unfold execOp
  simp only [ho, hx, hy, run_eqGuard, hbs_neq_dif A B hA hB hne W, Sem.run_bind, Sem.run_pure, Result.andThen_ok]
end
section
variable {w : World} {ops : Array Oper} {rest : List Oper} {o : Oper} {a : Act} {Q : Exit → Act → World → Prop}
theorem wpl_neq (hwant : Region.wanted o (yielded ops a.tmps) = true) (x y : Operand) (ho : o.op = .binOp .neq 32 x y 32) (A : List UInt8) (hA : A.length = 32) (hx : a.eval x = .agg (hbs A)) (hy : a.eval y = .agg (hbs A))
    (h : wpList Tryd.prog ops Q rest (a.put o.dst (.bool false)) w) : wpList Tryd.prog ops Q (o :: rest) a w := by
  refine wpList_step fun K hK => ?_
  rw [if_pos hwant]
  unfold Oper.wp execOp
  simp only [ho, hx, hy, run_eqGuard, hbs_neq A hA w, Sem.run_bind, Sem.run_pure, Result.andThen_ok]
  exact hK _ _ h
theorem wpl_eql_dif (hwant : Region.wanted o (yielded ops a.tmps) = true) (x y : Operand) (ho : o.op = .binOp .eql 32 x y 32) (A B : List UInt8) (hA : A.length = 32) (hB : B.length = 32) (hne : A.getD 0 0 ≠ B.getD 0 0) (hx : a.eval x = .agg (hbs A)) (hy : a.eval y = .agg (hbs B))
    (h : wpList Tryd.prog ops Q rest (a.put o.dst (.bool false)) w) : wpList Tryd.prog ops Q (o :: rest) a w := by
  refine wpList_step fun K hK => ?_
  rw [if_pos hwant]
  unfold Oper.wp execOp
  simp only [ho, hx, hy, run_eqGuard, hbs_eql_dif A B hA hB hne w, Sem.run_bind, Sem.run_pure, Result.andThen_ok]
  exact hK _ _ h
end
theorem em_first : (Sh []).getD 0 0 ≠ zh.getD 0 0 := by decide +kernel
theorem ab_first : (nod (Sh [0, 97]) (Sh [0, 98])).getD 0 0 ≠ zh.getD 0 0 := by decide +kernel
end Go.Proofs.YtkjonddlmiedcaaDoor
