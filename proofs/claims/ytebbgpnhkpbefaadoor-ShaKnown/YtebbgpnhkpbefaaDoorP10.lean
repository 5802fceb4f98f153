/- Bytes that were handed in, their twins, and whether they are beyond what is looked at. -/
import Derived.Test.YtebbgpnhkpbefaaDoorP9
import Derived.Laws.MakeOwn
namespace Go.Proofs.YtebbgpnhkpbefaaDoor
open Go.RowKit
set_option linter.unusedVariables false
set_option linter.unusedSimpArgs false

/-- Bytes in memory. -/
def Bys (w : World) (p : Option Addr) (L : List UInt8) : Prop := ∀ j, j < L.length → ∃ g o, p = some ⟨g, o, none⟩ ∧ w.cell? ⟨g, o + j, none⟩ = some (.int .u8 ((L.getD j 0).toNat : Nat))
theorem Bys.nw {w w' : World} {p : Option Addr} {L : List UInt8} (h : Bys w p L) (k : Nw w w') : Bys w' p L := fun j hj => by
  obtain ⟨g, o, hp, hc⟩ := h j hj
  exact ⟨g, o, hp, k.cellOf hc⟩
theorem conv_none (c : Nat) (w : World) : (convert 53 9 (.slice none 0 c)).run Tryd.prog w = .ok (.string ⟨#[]⟩) w := by kernel_rfl
theorem conv_bys {w : World} {p : Option Addr} {L : List UInt8} (h : Bys w p L) (c : Nat) : (convert 53 9 (.slice p L.length c)).run Tryd.prog w = .ok (.string ⟨L.toArray⟩) w := by
  rcases p with _ | a
  · rcases L with _ | ⟨x, L⟩
    · exact conv_none c w
    · obtain ⟨g, o, hp, _⟩ := h 0 (by simp)
      cases hp
  · refine run_convert_bytes_back w _ _ _ _ _ _ Tryd.underlying53 Tryd.underlying5 Tryd.underlying9 (fun j hj => ?_)
    obtain ⟨g, o, hp, hc⟩ := h j hj
    cases hp
    rw [addO, hc, List.getD_eq_getElem?_getD, List.getElem?_eq_getElem hj]
    rfl
/-- A row of bytes, the first t of them laid. -/
def rcs (T : List UInt8) (t : Nat) : Array Value := Array.ofFn (n := T.length) fun i => .int .u8 ((if i.val < t then (T.getD i.val 0).toNat else 0 : Nat) : Int)
theorem rcs_get (T : List UInt8) (t i : Nat) (hi : i < t) (hT : i < T.length) : (rcs T t)[i]? = some (.int .u8 ((T.getD i 0).toNat : Nat)) := by
  rw [rcs, Array.getElem?_ofFn, dif_pos hT, if_pos hi]
theorem rcs_out (T : List UInt8) (t i : Nat) (hi : ¬ i < t) (hT : i < T.length) : (rcs T t)[i]? = some (.int .u8 0) := by
  rw [rcs, Array.getElem?_ofFn, dif_pos hT, if_neg hi]; rfl
theorem rcs_set (T : List UInt8) (t : Nat) (x : Int) (hx : x = ((T.getD t 0).toNat : Nat)) : (rcs T t).setIfInBounds t (.int .u8 x) = rcs T (t + 1) := by
  subst hx
  apply Array.ext
  · simp [rcs]
  · intro i h1 h2
    rw [Array.getElem_setIfInBounds (by simpa using h1)]
    simp only [rcs, Array.getElem_ofFn]
    by_cases h : t = i
    · subst h; simp
    · rw [if_neg h]
      have : (i < t + 1) = (i < t) := by apply propext; omega
      simp only [this]
theorem info8 : (Tryd.prog.info? 5).map (fun i => (i.zero, i.size, i.bytes)) = some (some (.int .u8 0), 1, 1) := by kernel_rfl
theorem make_bytes (T : List UInt8) (n : Int) (hn : n = (T.length : Int)) (w : World) (hl : T.length ≤ 281474976710656) : (Instr.makeSlice 53 (.int .i64 n) (.int .i64 n)).run Tryd.prog w = .ok (.slice (some ⟨w.heap.size, 0, none⟩) T.length T.length) (w.alloc (.cells (rcs T 0) 5)) := by
  obtain ⟨i, hi, he⟩ := Option.map_eq_some_iff.1 info8
  simp only [Prod.mk.injEq] at he
  subst hn
  rw [run_make w 53 5 i (.int .u8 0) Tryd.underlying53 hi he.1 .i64 .i64 _ _ (by omega) (by omega) (by rw [he.2.2]; omega) (by omega), he.2.1]
  have : madeCells (Value.int .u8 0).cells ((T.length : Int).toNat * 1) = rcs T 0 := by
    apply Array.ext
    · simp [madeCells, rcs]
    · intro j h1 h2
      simp [madeCells, rcs, Value.cells, Nat.mod_one]
  rw [this]
  rfl
theorem getD_l (L M : List UInt8) (k : Nat) (h : k < L.length) : (L ++ M).getD k 0 = L.getD k 0 := by
  rw [List.getD_eq_getElem?_getD, List.getElem?_append_left h, List.getD_eq_getElem?_getD]
theorem getD_r (L : List UInt8) (x : UInt8) : (L ++ [x]).getD L.length 0 = x := by
  rw [List.getD_eq_getElem?_getD, List.getElem?_append_right (Nat.le_refl _), Nat.sub_self]; rfl

theorem twin_bys {w : World} {g : Nat} {L : List UInt8} (h : w.heap[g]? = some (.cells (rcs (L ++ [128]) (L.length + 1)) 5 (0, 0))) : Bys w (some ⟨g, 0, none⟩) L := fun j hj => by
  refine ⟨g, 0, rfl, ?_⟩
  rw [Nat.zero_add, cell_of h, rcs_get _ _ _ (by omega) (by simp; omega), getD_l L _ j hj]

/-- Numbers in memory. -/
def Ints (w : World) (p : Option Addr) (l : List Nat) : Prop := ∀ j, j < l.length → ∃ g o, p = some ⟨g, o, none⟩ ∧ w.cell? ⟨g, o + j, none⟩ = some (.int .i64 ((l.getD j 0 : Nat) : Int))
theorem sum_step (l : List Nat) (k : Nat) (h : k < l.length) : (l.take (k + 1)).sum = (l.take k).sum + l.getD k 0 := by
  have e : l.take (k + 1) = l.take k ++ [l[k]] := List.take_succ_eq_append_getElem h
  rw [e, List.sum_append, List.getD_eq_getElem?_getD, List.getElem?_eq_getElem h, Option.getD_some]
  simp
theorem sum_le (l : List Nat) (k : Nat) : (l.take k).sum ≤ l.sum := by
  have h : l.sum = (l.take k).sum + (l.drop k).sum := by rw [← List.sum_append, List.take_append_drop]
  omega
end Go.Proofs.YtebbgpnhkpbefaaDoor
