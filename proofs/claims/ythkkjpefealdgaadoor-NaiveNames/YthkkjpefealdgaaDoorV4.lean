/- NaiveNames: the walk. -/
import Derived.Test.YthkkjpefealdgaaDoorG3
namespace Go.Proofs.YthkkjpefealdgaaDoor
open Go.RowKit
set_option linter.unusedVariables false
set_option linter.unusedSimpArgs false

abbrev td : ByteArray := ⟨#[100]⟩
abbrev te : ByteArray := ⟨#[101]⟩
theorem kp5 : kp [ta, tb, tc, td, te] = [ta, tb, tc, td, te] := by rfl
theorem prf35 : prf 3 0 5 true = [(2, 3), (3, 4), (0, 2), (4, 5)] := by
  have e5 : spl (5 - 0) = 4 := spl5
  have e4 : spl (4 - 0) = 2 := spl4
  have e2 : spl (4 - 2) = 1 := spl2
  rw [prf_left (by decide) (by decide) (by rw [e5]; decide), e5, show 0 + 4 = 4 from rfl, prf_right (by decide) (by decide) (by rw [e4]; decide), e4, show 0 + 2 = 2 from rfl, prf_left (b := 2) (by decide) (by decide) (by rw [e2]; decide), e2, show 2 + 1 = 3 from rfl, prf_whole]; rfl
theorem bat135 : bat 1 3 0 5 = [(0, 1), (3, 4), (4, 5)] := by
  have e5 : spl (5 - 0) = 4 := spl5
  have e4 : spl (4 - 0) = 2 := spl4
  have e2 : spl (2 - 0) = 1 := spl2
  have e3 : spl (4 - 2) = 1 := spl2
  rw [bat_cut (by decide) (by decide), e5, show 0 + 4 = 4 from rfl, bat_out (b := 4) (by decide), bat_cut (b := 0) (e := 4) (by decide) (by decide), e4, show 0 + 2 = 2 from rfl, bat_cut (b := 0) (e := 2) (by decide) (by decide), e2, show 0 + 1 = 1 from rfl, bat_out (b := 0) (e := 1) (by decide), bat_in (b := 1) (e := 2) (by decide) (by decide), bat_cut (b := 2) (e := 4) (by decide) (by decide), e3, show 2 + 1 = 3 from rfl, bat_in (b := 2) (e := 3) (by decide) (by decide), bat_out (b := 3) (e := 4) (by decide)]; rfl
theorem strs5 (w : World) (a b c d e : ByteArray) : Strs (w.alloc (.cells #[.string a, .string b, .string c, .string d, .string e] 9)) (some ⟨w.heap.size, 0, none⟩) [a, b, c, d, e] := fun j x hx => by
  match j, hx with
  | 0, hx => cases hx; exact ⟨_, _, rfl, cell_of (heap_new w _) 0⟩
  | 1, hx => cases hx; exact ⟨_, _, rfl, cell_of (heap_new w _) 1⟩
  | 2, hx => cases hx; exact ⟨_, _, rfl, cell_of (heap_new w _) 2⟩
  | 3, hx => cases hx; exact ⟨_, _, rfl, cell_of (heap_new w _) 3⟩
  | 4, hx => cases hx; exact ⟨_, _, rfl, cell_of (heap_new w _) 4⟩
/-- Parts written one behind the other. -/
theorem fill_rows : ∀ (l : List (List UInt8)) (k : Nat) (Z : Array Value), (∀ h ∈ l, h.length = 32) → Z.size = (k + l.length) * 32 → Instr.fill (fun i => some (i * 32, 32)) Z ((l.zipIdx k).map fun x => (x.2, Value.agg (hbs x.1))) = some (Z.toList.take (k * 32) ++ hsc l).toArray
  | [], k, Z, _, h => by
    simp only [List.zipIdx_nil, List.map_nil, Instr.fill]
    congr 1
    apply Array.ext'
    simp only [List.length_nil, Nat.add_zero] at h
    rw [List.take_of_length_le (by simp [h])]
    simp [hsc]
  | x :: l, k, Z, h32, h => by
    have hx := h32 x (by simp)
    simp only [List.length_cons] at h
    have hs : (Value.agg (hbs x)).cells.size = 32 := by show (hbs x).size = 32; rw [hbs_size, hx]
    rw [List.zipIdx_cons, List.map_cons, Instr.fill]
    simp only [hs]
    rw [if_neg (by simp; omega)]
    have hf : ∀ (l : List Value) (j : Nat) (Z : Array Value), k * 32 + j + l.length ≤ Z.size → (l.zipIdx j).foldl (fun (cs : Array Value) (x : Value × Nat) => cs.setIfInBounds (k * 32 + x.2) x.1) Z = (Z.toList.take (k * 32 + j) ++ l ++ Z.toList.drop (k * 32 + j + l.length)).toArray := by
      intro l
      induction l with
      | nil => intro j Z _; simp
      | cons y l ih =>
        intro j Z hz
        simp only [List.length_cons] at hz
        rw [List.zipIdx_cons, List.foldl_cons, ih (j + 1) _ (by simp; omega)]
        apply Array.ext'
        simp only [Array.toList_setIfInBounds, List.length_cons]
        rw [show k * 32 + (j + 1) + l.length = k * 32 + j + (l.length + 1) by omega, show k * 32 + (j + 1) = k * 32 + j + 1 from rfl, List.take_add_one, List.take_set_of_le (Nat.le_refl _), List.getElem?_set_self (by simp; omega), List.drop_set_of_lt (by omega)]
        simp
    have hc : ((Value.agg (hbs x)).cells.zipIdx.foldl (fun cs (y : Value × Nat) => cs.setIfInBounds (k * 32 + y.2) y.1) Z) = (Z.toList.take (k * 32) ++ (hbs x).toList ++ Z.toList.drop (k * 32 + 32)).toArray := by
      show (hbs x).zipIdx.foldl _ Z = _
      rw [← Array.foldl_toList, Array.toList_zipIdx, hf (hbs x).toList 0 Z (by simp [hbs_size, hx]; omega)]
      simp [hbs_size, hx]
    rw [hc, fill_rows l (k + 1) _ (fun y hy => h32 y (by simp [hy])) (by simp [hbs_size, hx]; omega)]
    congr 1
    apply Array.ext'
    have hl : (Z.toList.take (k * 32)).length = k * 32 := by simp; omega
    have hb : (hbs x).toList.length = 32 := by simp [hbs_size, hx]
    rw [List.take_left' (by rw [List.length_append, hl, hb]; omega)]
    simp [hsc, hbs]
/-- A slice literal of hashes. -/
theorem wpl_rows {w : World} {ops : Array Oper} {rest : List Oper} {o : Oper} {a : Act} {Q : Exit → Act → World → Prop} (hwant : Region.wanted o (yielded ops a.tmps) = true) (n : Nat) (parts : Array (Nat × Operand)) (ho : o.op = .buildSlice 47 n parts)
    (l : List (List UInt8)) (hl : ∀ h ∈ l, h.length = 32) (hn : l.length = n) (hn0 : 0 < n) (hn2 : n ≤ 1000) (hp0 : parts.toList.map (fun p => (p.1, a.eval p.2)) = l.zipIdx.map fun x => (x.2, Value.agg (hbs x.1)))
    (h : wpList Tryd.prog ops Q rest (a.put o.dst (.slice (some ⟨w.heap.size, 0, none⟩) n n)) (w.alloc (.cells (hsc l).toArray 32))) : wpList Tryd.prog ops Q (o :: rest) a w := by
  obtain ⟨i0, hi, hz0, hz1, hz2⟩ := info_parts infoHs
  have hp : (parts.map fun p => (p.1, a.eval p.2)).toList = l.zipIdx.map fun x => (x.2, Value.agg (hbs x.1)) := by rw [Array.toList_map]; exact hp0
  refine wpList_step fun K hK => ?_
  rw [if_pos hwant]
  have hf := fill_rows l 0 ((Array.range (n * 32)).map (fun x => z32[x % z32.size]!)) hl (by simp [hn])
  rw [Nat.zero_mul, List.take_zero, List.nil_append] at hf
  have hr : (Instr.buildSlice 47 n (parts.map fun p => (p.1, a.eval p.2))).run Tryd.prog w = .ok (.slice (some ⟨w.heap.size, 0, none⟩) n n) (w.alloc (.cells (hsc l).toArray 32)) := by
    have h1 : ¬ n * 32 > 16777216 := by omega
    have h2 : ¬ n * 32 = 0 := by omega
    have h3 : ¬ n = 0 := by omega
    simp only [Instr.buildSlice, Sem.run_bind, run_underlying Tryd.underlying47, Tryd.sizeOf32 w, Result.andThen_ok, Sem.run_pure, hp]
    simp [zeroValue, hi, hz0, typeInfo, Value.cells, newRow, h1, h2, h3]
    simp only [hf]
    rfl
  unfold Oper.wp execOp
  simp only [ho, Sem.run_bind, Sem.run_pure, Result.andThen_ok, hr]
  exact hK _ _ h
theorem Hss.blk {w : World} {g c : Nat} {l : List (List UInt8)} {t : TypeId} {f : Nat × Nat} (hl : ∀ h ∈ l, h.length = 32) (h : w.heap[g]? = some (.cells (hsc l).toArray t f)) : Hss w (.slice (some ⟨g, 0, none⟩) l.length c) l := by
  refine ⟨_, _, rfl, fun k t ht => ⟨g, 0, rfl, fun j hj => ?_⟩⟩
  rw [Nat.zero_add, cell_of h, List.getElem?_toArray, hsc_get l hl k t ht j hj]
  simp [hbs]
end Go.Proofs.YthkkjpefealdgaaDoor
