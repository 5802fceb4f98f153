/- tile: Hash. -/
import Derived.Test.YtgobdjdaehlgdaaGreatDoorUh
import Derived.Test.YtgobdjdaehlgdaaGreatDoorTw
import Derived.Deep.RegionHeld
namespace Go.Proofs.YtgobdjdaehlgdaaGreatDoor
open Go.RowKit
set_option linter.unusedVariables false
set_option linter.unusedSimpArgs false
theorem dropAllT {A : Array Value} {n : Nat} (h : A.size = n) : A.toList.drop (0 + n) = [] := List.drop_eq_nil_of_le (by simp [h])
theorem yields_buildT {P : Program} {ops : Array Oper} {S : World → Prop} {o : Oper} {a : Act} (hgd : o.guard = none) (t : TypeId) (parts : Array (Nat × Operand)) (ho : o.op = .build t parts) (vs : Array (Nat × Value)) (hv : parts.map (fun p => (p.1, a.eval p.2)) = vs)
    (V : Array Value) (hb : ∀ W : World, (Instr.build t vs).run P W = .ok (.agg V) W) : YieldsIf P ops S o (.agg V) a := by
  refine .inl ⟨by simp [Region.wanted, hgd], fun w hw => ?_⟩
  unfold execOp
  simp only [ho, hv, hb, Sem.run_bind, Sem.run_pure, Result.andThen_ok]
theorem ready_storeT {P : Program} {md : Region.Mode} {ops : Array Oper} {Q : Exit → Act → World → Prop} {S : World → Prop} {fuel : Nat} {listed : Array Bool} {a : Act} {w : World} {i : Nat} {o : Oper} {rs : List Nat} (ho : ops[i]? = some o) (hgd : o.guard = none) (x v : Operand) (t : TypeId) (n : Nat) (hop : o.op = .store t x v)
    (hsz : ∀ W : World, (sizeOf t).run P W = .ok n W) (g : Nat) (hx : a.eval x = .pointer (some ⟨g, 0, none⟩)) (U : Array Value) (ty : TypeId) (hg : w.heap[g]? = some (.cells U ty (0, 0))) (Z : Array Value) (hv : a.eval v = .agg Z) (hz : Z.size = n) (h1 : ∀ u ∈ Z.toList, u.oneCell' = true) (hu : U.size = n)
    (h : ∀ w', w'.heap[g]? = some (.cells Z ty (0, 0)) → Fr (fun k => k = g) w w' → S w' ∧ (S w' → wpAnyH P md ops Q S fuel (listed.setIfInBounds i true) (a.put o.dst undef) w')) (hs : AllReadyH P md ops Q S fuel listed a w rs) : AllReadyH P md ops Q S fuel listed a w (i :: rs) :=
  AllReadyH.cons ho (fun K' hK => step_store_agg hgd x v t n hop hsz g 0 hx U ty hg Z hv hz h1 (by rw [hu]; omega) Z (by rw [dropAllT hu]; simp) (fun w' q1 q2 _ => hK.out _ _ (h w' q1 q2).1 (h w' q1 q2).2)) hs
section
variable {w : World} {ops : Array Oper} {rest : List Oper} {o : Oper} {a : Act} {Q : Exit → Act → World → Prop}
theorem wplt_cut (hgd : o.guard = none) (x y z : Operand) (ho : o.op = .slice 66 x (some y) (some z) none) (X Y Z V : Value) (hx : a.eval x = X) (hy : a.eval y = Y) (hz : a.eval z = Z) (hr : (Instr.sliceAt 66 X (some Y) (some Z) none).run Tryz.prog w = .ok V w)
    (h : wpList Tryz.prog ops Q rest (a.put o.dst V) w) : wpList Tryz.prog ops Q (o :: rest) a w := by
  refine wpList_plain hgd fun K hK => ?_
  unfold Oper.wp execOp
  simp only [ho, Option.map_some, Option.map_none, hx, hy, hz, hr, Sem.run_bind, Sem.run_pure, Result.andThen_ok]
  exact hK _ _ h
end
theorem and_all : ∀ C : Fin 257, 1 ≤ C.val → ((bits BinOp.and IntKind.i64 (C.val : Int) ((C.val : Int) - 1) == 0) = (List.range 9).any fun k => 2 ^ k == C.val) := by decide +kernel
theorem and_pow {C : Nat} (h1 : 1 ≤ C) (h2 : C ≤ 256) : (∃ k, k ≤ 8 ∧ C = 2 ^ k) ↔ bits BinOp.and IntKind.i64 (C : Int) ((C : Int) - 1) = 0 := by
  have h := and_all ⟨C, by omega⟩ h1
  simp only at h
  constructor
  · rintro ⟨k, hk, rfl⟩
    have h3 : ((List.range 9).any fun j => 2 ^ j == 2 ^ k) = true := List.any_eq_true.2 ⟨k, by simp; omega, by simp⟩
    rw [h3] at h
    simpa using h
  · intro h4
    rw [h4] at h
    obtain ⟨k, hk, e⟩ := List.any_eq_true.1 h.symm
    exact ⟨k, by simp at hk; omega, (by simpa using e : 2 ^ k = C).symm⟩
/-- What tile.Hash takes. -/
def okH (n : Nat) (x y : Int) : Prop := n ≤ 256 ∧ ∃ k A : Nat, k ≤ 8 ∧ y = ((2 ^ k : Nat) : Int) ∧ x = (A : Int) ∧ A + 2 ^ k ≤ n ∧ A % 2 ^ k = 0
end Go.Proofs.YtgobdjdaehlgdaaGreatDoor
