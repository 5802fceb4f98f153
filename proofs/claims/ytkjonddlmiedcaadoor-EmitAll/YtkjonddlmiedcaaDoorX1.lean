/- compact: a tree with its hash; join. -/
import Derived.Test.YtkjonddlmiedcaaDoorCg
import Derived.Test.YtkjonddlmiedcaaDoorHq
import Derived.Deep.DeepCutAuto
namespace Go.Proofs.YtkjonddlmiedcaaDoor
open Go.RowKit
set_option linter.unusedVariables false
set_option linter.unusedSimpArgs false
/-- A tree with its hash. -/
structure Tre where
  L : Nat
  I : Nat
  H : List UInt8
structure Tre.ok (t : Tre) : Prop where
  may : may t.L t.I
  h32 : t.H.length = 32
def Tre.c (t : Tre) : Array Value := #[.int .u8 (t.L : Int), .int .u64 (t.I : Int)] ++ hbs t.H
abbrev zt : Tre := ⟨0, 0, zh⟩
theorem Tre.size {t : Tre} (h : t.H.length = 32) : t.c.size = 34 := by simp [Tre.c, hbs_size, h]
theorem Tre.c0 (t : Tre) : t.c[0]? = some (.int .u8 (t.L : Int)) := by unfold Tre.c; rw [Array.getElem?_append_left (by simp)]; rfl
theorem Tre.c1 (t : Tre) : t.c[1]? = some (.int .u64 (t.I : Int)) := by unfold Tre.c; rw [Array.getElem?_append_left (by simp)]; rfl
theorem Tre.ch (t : Tre) (j : Nat) : t.c[2 + j]? = (hbs t.H)[j]? := by
  unfold Tre.c
  rw [Array.getElem?_append_right (by simp)]
  congr 1
  simp
theorem Tre.one (t : Tre) : ∀ u ∈ t.c.toList, u.oneCell' = true := by
  intro u hu
  simp only [Tre.c, Array.toList_append, List.mem_append] at hu
  rcases hu with hu | hu
  · simp at hu; rcases hu with rfl | rfl <;> rfl
  · exact hbs_one _ u hu
/-- The node over two hashes. -/
def nod (A B : List UInt8) : List UInt8 := Sh (1 :: (A ++ B))
theorem nod_len (A B : List UInt8) : (nod A B).length = 32 := Sh_len _
/-- The right one is the left one's sibling. -/
def Sib (a b : Tre) : Prop := a.L < 63 ∧ b.L = a.L ∧ b.I = sib a.I
instance (a b : Tre) : Decidable (Sib a b) := by unfold Sib; infer_instance
def both (a b : Tre) : Tre := ⟨a.L + 1, a.I / 2, nod a.H b.H⟩
theorem both_ok {a b : Tre} (ha : a.ok) (h : Sib a b) : (both a b).ok := ⟨may_up ha.may h.1, nod_len _ _⟩
theorem zt34 : zt.c.size = 34 := Tre.size (by simp)
theorem dropAll {A : Array Value} {n : Nat} (h : A.size = n) : A.toList.drop (0 + n) = [] := List.drop_eq_nil_of_le (by simp [h])
theorem zt_h : (#[.int .u8 0, .int .u64 0, .int .u8 0, .int .u8 0, .int .u8 0, .int .u8 0, .int .u8 0, .int .u8 0, .int .u8 0, .int .u8 0, .int .u8 0, .int .u8 0, .int .u8 0, .int .u8 0, .int .u8 0, .int .u8 0, .int .u8 0, .int .u8 0, .int .u8 0, .int .u8 0, .int .u8 0, .int .u8 0, .int .u8 0, .int .u8 0, .int .u8 0, .int .u8 0, .int .u8 0, .int .u8 0, .int .u8 0, .int .u8 0, .int .u8 0, .int .u8 0, .int .u8 0, .int .u8 0] : Array Value) = zt.c := by
  rfl
/-- A part of a thing loaded whole, wherever its block is as it was. -/
theorem yields_load_at {P : Program} {ops : Array Oper} {S : World → Prop} {o : Oper} {a : Act} (hgd : o.guard = none) (x : Operand) (t : TypeId) (n : Nat) (ho : o.op = .load t x)
    (hagg : ∀ W : World, (isAgg t).run P W = .ok true W) (hsz : ∀ W : World, (sizeOf t).run P W = .ok n W) (g off : Nat) (hx : a.eval x = .pointer (some ⟨g, off, none⟩))
    (V : Array Value) (hV : V.size = n) (hg : ∀ w, S w → ∀ j, j < n → w.cell? ⟨g, off + j, none⟩ = V[j]?) : YieldsIf P ops S o (.agg V) a := by
  refine .inl ⟨by simp [Region.wanted, hgd], fun w hw => ?_⟩
  have hl : (loadCells ⟨g, off, none⟩ n).run P w = .ok V w := by
    have := run_loadCells_list (P := P) w ⟨g, off, none⟩ V.toList (fun j v hv => by
      have hj : j < n := by
        have := (List.getElem?_eq_some_iff.1 hv).1
        simpa [hV] using this
      rw [addO, hg w hw j hj]
      simpa using hv)
    simpa [hV] using this
  unfold execOp
  simp only [ho, hx, Instr.loadAt, sure, loadVar, Sem.run_bind, Sem.run_pure, hagg, hsz, hl, Result.andThen_ok, if_true]
theorem yields_build {P : Program} {ops : Array Oper} {S : World → Prop} {o : Oper} {a : Act} (hgd : o.guard = none) (t : TypeId) (parts : Array (Nat × Operand)) (ho : o.op = .build t parts) (vs : Array (Nat × Value)) (hv : parts.map (fun p => (p.1, a.eval p.2)) = vs)
    (V : Array Value) (hb : ∀ W : World, (Instr.build t vs).run P W = .ok (.agg V) W) : YieldsIf P ops S o (.agg V) a := by
  refine .inl ⟨by simp [Region.wanted, hgd], fun w hw => ?_⟩
  unfold execOp
  simp only [ho, hv, hb, Sem.run_bind, Sem.run_pure, Result.andThen_ok]
theorem Tre.cells {w : World} {g : Nat} {t : Tre} {ty : TypeId} {f : Nat × Nat} (h : w.heap[g]? = some (.cells t.c ty f)) : w.cell? ⟨g, 0, none⟩ = some (.int .u8 (t.L : Int)) ∧ w.cell? ⟨g, 1, none⟩ = some (.int .u64 (t.I : Int)) ∧ ∀ j, j < 32 → w.cell? ⟨g, 2 + j, none⟩ = (hbs t.H)[j]? :=
  ⟨(cell_of h 0).trans t.c0, (cell_of h 1).trans t.c1, fun j _ => (cell_of h (2 + j)).trans (t.ch j)⟩
end Go.Proofs.YtkjonddlmiedcaaDoor
