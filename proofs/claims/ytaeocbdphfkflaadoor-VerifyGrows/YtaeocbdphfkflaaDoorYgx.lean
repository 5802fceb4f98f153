/- plan: a tree's tile in a log. -/
import Derived.Test.YtaeocbdphfkflaaDoorUgx
import Derived.Test.YtaeocbdphfkflaaDoorS6
import Derived.Test.YtaeocbdphfkflaaDoorSgx
import Derived.Test.YtaeocbdphfkflaaDoorEg
namespace Go.Proofs.YtaeocbdphfkflaaDoor
open Go.RowKit
set_option linter.unusedVariables false
set_option linter.unusedSimpArgs false
/-- A tree that a log of S leaves has. -/
def gdT (S : Nat) (c : Nat × Nat) : Prop := may c.1 c.2 ∧ (c.2 + 1) * 2 ^ c.1 ≤ S
instance (S : Nat) (c : Nat × Nat) : Decidable (gdT S c) := by unfold gdT may; infer_instance
/-- Its tile. -/
def tlN (S : Nat) (c : Nat × Nat) : Nat × Nat × Nat := (c.1 / 8, ofA c.1 c.2 / 256, wid (c.1 / 8) (ofA c.1 c.2 / 256) S)
theorem gd_room {S L I : Nat} (h : gdT S (L, I)) (hS : S ≤ 9223372036854775808) : ofA L I + 2 ^ (L % 8) ≤ nod8 (L / 8) S := by
  have h2 : (I + 1) * 2 ^ L ≤ S := h.2
  unfold nod8 ofA
  rw [Nat.le_div_iff_mul_le (Nat.two_pow_pos _)]
  have e : 2 ^ L = 2 ^ (L % 8) * 2 ^ (8 * (L / 8)) := by rw [← Nat.pow_add]; congr 1; omega
  rw [e, ← Nat.mul_assoc, Nat.add_mul, Nat.one_mul] at h2
  exact h2
theorem gd_place {L I : Nat} : ofA L I % 256 + 2 ^ (L % 8) ≤ 256 := by
  have hp := pow8 (L % 8) (by omega)
  have e : (256 : Nat) = 2 ^ (8 - L % 8) * 2 ^ (L % 8) := by rw [← Nat.pow_add, show 8 - L % 8 + L % 8 = 8 by omega]
  unfold ofA
  rw [e, Nat.mul_mod_mul_right]
  have h1 := Nat.mod_lt I (Nat.two_pow_pos (8 - L % 8))
  calc I % 2 ^ (8 - L % 8) * 2 ^ (L % 8) + 2 ^ (L % 8) = (I % 2 ^ (8 - L % 8) + 1) * 2 ^ (L % 8) := by rw [Nat.add_mul, Nat.one_mul]
    _ ≤ 2 ^ (8 - L % 8) * 2 ^ (L % 8) := Nat.mul_le_mul_right _ h1
theorem gd_wid {S L I : Nat} (h : gdT S (L, I)) (hS : S ≤ 9223372036854775808) : ofA L I % 256 + 2 ^ (L % 8) ≤ wid (L / 8) (ofA L I / 256) S := by
  have h1 := gd_room h hS
  have h2 := gd_place (L := L) (I := I)
  have h3 : L ≤ 63 := h.1.1
  unfold wid
  rw [if_neg (by omega)]
  omega
theorem wid_le (l i S : Nat) : wid l i S ≤ 256 := by unfold wid; split <;> omega
end Go.Proofs.YtaeocbdphfkflaaDoor
namespace Go.Proofs.YtaeocbdphfkflaaDoor
open Go.RowKit
set_option linter.unusedVariables false
set_option linter.unusedSimpArgs false
/-- A tile. -/
structure Ti where
  L : Nat
  I : Nat
  W : Nat
def Ti.c (t : Ti) : List Value := [.int .u8 (t.L : Int), .int .u64 (t.I : Int), .int .i64 (t.W : Int)]
def tic (l : List Ti) : List Value := l.flatMap Ti.c
theorem tic_app (l m : List Ti) : tic (l ++ m) = tic l ++ tic m := by simp [tic]
theorem tic_one (t : Ti) : tic [t] = t.c := by simp [tic]
theorem tic_len : ∀ l : List Ti, (tic l).length = l.length * 3
  | [] => rfl
  | t :: r => by
    have h : tic (t :: r) = t.c ++ tic r := by simp [tic]
    rw [h, List.length_append, tic_len r, List.length_cons]
    simp [Ti.c]
    omega
theorem tic_at : ∀ (l : List Ti) (k : Nat) (t : Ti), l[k]? = some t → (tic l)[k * 3]? = some (.int .u8 (t.L : Int)) ∧ (tic l)[k * 3 + 1]? = some (.int .u64 (t.I : Int)) ∧ (tic l)[k * 3 + 2]? = some (.int .i64 (t.W : Int))
  | [], k, t, h => by simp at h
  | x :: r, 0, t, h => by
    have e : tic (x :: r) = x.c ++ tic r := by simp [tic]
    simp only [List.getElem?_cons_zero, Option.some.injEq] at h
    subst h
    rw [e]
    simp [Ti.c]
  | x :: r, k + 1, t, h => by
    have e : tic (x :: r) = x.c ++ tic r := by simp [tic]
    have ih := tic_at r k t (by simpa using h)
    rw [e]
    have e1 : (k + 1) * 3 = k * 3 + 3 := by omega
    rw [e1]
    simp only [Ti.c, List.cons_append, List.nil_append, List.getElem?_cons_succ]
    exact ih
/-- So many tiles of a level. -/
def lvT (S l k : Nat) : List Ti := (List.range k).map fun i => ⟨l, i, wid l i S⟩
theorem lvT_succ (S l k : Nat) : lvT S l (k + 1) = lvT S l k ++ [⟨l, k, wid l k S⟩] := by simp [lvT, List.range_succ]
theorem lvT_len (S l k : Nat) : (lvT S l k).length = k := by simp [lvT]
/-- How many tiles a level has. -/
def cntT (S l : Nat) : Nat := (nod8 l S + 255) / 256
def allT (S : Nat) : Nat → List Ti
  | 0 => []
  | j + 1 => allT S j ++ lvT S j (cntT S j)
theorem nod8_le (l S : Nat) (h : S ≤ 1048576) : nod8 l S ≤ 1048576 := Nat.le_trans (Nat.div_le_self _ _) h
theorem cntT_le (S l : Nat) (h : S ≤ 1048576) : cntT S l ≤ 4096 := by
  have := nod8_le l S h
  unfold cntT
  omega
theorem allT_le (S : Nat) (h : S ≤ 1048576) : ∀ j, (allT S j).length ≤ 4096 * j
  | 0 => by simp [allT]
  | j + 1 => by
    have := allT_le S h j
    have := cntT_le S j h
    simp only [allT, List.length_append, lvT_len]
    omega
theorem wid_small (S l i : Nat) (h : S ≤ 1048576) (hl : l ≤ 7) : wid l i S = min (nod8 l S - i * 256) 256 := by
  unfold wid
  rw [if_neg (by omega)]
theorem wid_pos (S l i : Nat) (h : S ≤ 1048576) (hl : l ≤ 7) : 0 < wid l i S ↔ i < cntT S l := by
  rw [wid_small S l i h hl]
  unfold cntT
  omega
theorem ti_new (w : World) (a b c : Value) (t : TypeId) : ∀ j u, [a, b, c][j]? = some u → (w.alloc (.cells #[a, b, c] t)).cell? ((⟨w.heap.size, 0, none⟩ : Addr).add j) = some u := by
  intro j u h
  rw [addZ, cell_of (heap_new _ _)]
  match j, h with
  | 0, h => simpa using h
  | 1, h => simpa using h
  | 2, h => simpa using h
  | j + 3, h => simp at h
end Go.Proofs.YtaeocbdphfkflaaDoor
namespace Go.Proofs.YtaeocbdphfkflaaDoor
open Go.RowKit
set_option linter.unusedVariables false
set_option linter.unusedSimpArgs false
abbrev zp : Value := .agg #[.slice none 0 0]
theorem cell1 {w : World} {b : Nat} {x : Value} {t : TypeId} {f : Nat × Nat} (h : w.heap[b]? = some (.cells #[x] t f)) : w.cell? ⟨b, 0, none⟩ = some x := (cell_of h 0).trans rfl
end Go.Proofs.YtaeocbdphfkflaaDoor
namespace Go.Proofs.YtaeocbdphfkflaaDoor
open Go.RowKit
set_option linter.unusedVariables false
set_option linter.unusedSimpArgs false
theorem row_neT {w : World} {b1 b2 : Nat} {e1 e2 : TypeId} {s1 s2 n1 n2 : Nat} {v1 v2 : Value} {x1 x2 : List Value} (h1 : w.ownsRow b1 e1 s1 v1 n1 x1) (h2 : w.ownsRow b2 e2 s2 v2 n2 x2) (hne : e1 ≠ e2) : ∀ g, v1.ownBlock = some g → v2.ownBlock ≠ some g := by
  intro g hg1 hg2
  rcases h1.2 with ⟨rfl, _⟩ | ⟨g1, c1, cur1, rfl, z1, z2⟩
  · simp [Value.ownBlock] at hg1
  · rcases h2.2 with ⟨rfl, _⟩ | ⟨g2, c2, cur2, rfl, y1, y2⟩
    · simp [Value.ownBlock] at hg2
    · simp only [Value.ownBlock, Option.some.injEq] at hg1 hg2
      subst hg1
      subst hg2
      have q := z2.1.symm.trans y2.1
      simp only [Option.some.injEq, Obj.cells.injEq] at q
      exact hne q.2.1
abbrev cvr (s : Nat × Nat) : List (Nat × Nat) := cov s.1 s.2
theorem pt_new {w : World} (x : Value) (t : TypeId) : ∀ j u, [x][j]? = some u → (w.alloc (.cells #[x] t)).cell? ((⟨w.heap.size, 0, none⟩ : Addr).add j) = some u := by
  intro j u h
  rcases j with _ | j
  · simp at h
    subst h
    rw [addZ]
    exact (cell_of (heap_new _ _) 0).trans rfl
  · simp at h
end Go.Proofs.YtaeocbdphfkflaaDoor
