/- tile: the tiles of a log (pure); All. -/
import Derived.Test.YtlaiomgebkeldaaGreatDoorUg
import Derived.Test.YtlaiomgebkeldaaGreatDoorTw
import Derived.Test.YtlaiomgebkeldaaGreatDoorEg
namespace Go.Proofs.YtlaiomgebkeldaaGreatDoor
open Go.RowKit
set_option linter.unusedVariables false
set_option linter.unusedSimpArgs false
/-- A tile. -/
structure Ti where
  L : Nat
  I : Nat
  W : Nat
def Ti.c (t : Ti) : List Value := [.int .u8 (t.L : Int), .int .u64 (t.I : Int), .int .i64 (t.W : Int)]
def tic (l : List Ti) : List Value := l.flatMap Ti.c
theorem tic_app (l m : List Ti) : tic (l ++ m) = tic l ++ tic m := by simp [tic]
theorem tic_one (t : Ti) : tic [t] = t.c := by simp [tic]
theorem tic_len : ∀ l : List Ti, (tic l).length = l.length * 3
  | [] => rfl
  | t :: r => by
    have h : tic (t :: r) = t.c ++ tic r := by simp [tic]
    rw [h, List.length_append, tic_len r, List.length_cons]
    simp [Ti.c]
    omega
theorem tic_at : ∀ (l : List Ti) (k : Nat) (t : Ti), l[k]? = some t → (tic l)[k * 3]? = some (.int .u8 (t.L : Int)) ∧ (tic l)[k * 3 + 1]? = some (.int .u64 (t.I : Int)) ∧ (tic l)[k * 3 + 2]? = some (.int .i64 (t.W : Int))
  | [], k, t, h => by simp at h
  | x :: r, 0, t, h => by
    have e : tic (x :: r) = x.c ++ tic r := by simp [tic]
    simp only [List.getElem?_cons_zero, Option.some.injEq] at h
    subst h
    rw [e]
    simp [Ti.c]
  | x :: r, k + 1, t, h => by
    have e : tic (x :: r) = x.c ++ tic r := by simp [tic]
    have ih := tic_at r k t (by simpa using h)
    rw [e]
    have e1 : (k + 1) * 3 = k * 3 + 3 := by omega
    rw [e1]
    simp only [Ti.c, List.cons_append, List.nil_append, List.getElem?_cons_succ]
    exact ih
/-- So many tiles of a level. -/
def lvT (S l k : Nat) : List Ti := (List.range k).map fun i => ⟨l, i, wid l i S⟩
theorem lvT_succ (S l k : Nat) : lvT S l (k + 1) = lvT S l k ++ [⟨l, k, wid l k S⟩] := by simp [lvT, List.range_succ]
theorem lvT_len (S l k : Nat) : (lvT S l k).length = k := by simp [lvT]
/-- How many tiles a level has. -/
def cntT (S l : Nat) : Nat := (nod8 l S + 255) / 256
def allT (S : Nat) : Nat → List Ti
  | 0 => []
  | j + 1 => allT S j ++ lvT S j (cntT S j)
theorem nod8_le (l S : Nat) (h : S ≤ 1048576) : nod8 l S ≤ 1048576 := Nat.le_trans (Nat.div_le_self _ _) h
theorem cntT_le (S l : Nat) (h : S ≤ 1048576) : cntT S l ≤ 4096 := by
  have := nod8_le l S h
  unfold cntT
  omega
theorem allT_le (S : Nat) (h : S ≤ 1048576) : ∀ j, (allT S j).length ≤ 4096 * j
  | 0 => by simp [allT]
  | j + 1 => by
    have := allT_le S h j
    have := cntT_le S j h
    simp only [allT, List.length_append, lvT_len]
    omega
theorem wid_small (S l i : Nat) (h : S ≤ 1048576) (hl : l ≤ 7) : wid l i S = min (nod8 l S - i * 256) 256 := by
  unfold wid
  rw [if_neg (by omega)]
theorem wid_pos (S l i : Nat) (h : S ≤ 1048576) (hl : l ≤ 7) : 0 < wid l i S ↔ i < cntT S l := by
  rw [wid_small S l i h hl]
  unfold cntT
  omega
theorem infoTi : (Tryz.prog.info? 104).map (fun i => (i.zero, i.size, i.bytes)) = some (some (.agg #[.int .u8 0, .int .u64 0, .int .i64 0]), 3, 24) := by kernel_rfl
theorem ti_new (w : World) (a b c : Value) (t : TypeId) : ∀ j u, [a, b, c][j]? = some u → (w.alloc (.cells #[a, b, c] t)).cell? ((⟨w.heap.size, 0, none⟩ : Addr).add j) = some u := by
  intro j u h
  rw [addZ, cell_of (heap_new _ _)]
  match j, h with
  | 0, h => simpa using h
  | 1, h => simpa using h
  | 2, h => simpa using h
  | j + 3, h => simp at h
end Go.Proofs.YtlaiomgebkeldaaGreatDoor
