/- law18: climbs. -/
import Derived.Test.YtaeocbdphfkflaaDoorAu
import Derived.Test.YtaeocbdphfkflaaDoorAj
namespace Go.Proofs.YtaeocbdphfkflaaDoor
open Go.RowKit
set_option linter.unusedVariables false
set_option linter.unusedSimpArgs false
/-- The pairs of hashes on the way up. -/
def prs : List UInt8 → List (List UInt8) → List Bool → List (List UInt8 × List UInt8)
  | x, h :: l, b :: s => (if b then (h, x) else (x, h)) :: prs (if b then ndp h x else ndp x h) l s
  | _, _, _ => []
theorem prs_len : ∀ (x : List UInt8) (l : List (List UInt8)) (s : List Bool), l.length = s.length → (prs x l s).length = l.length
  | x, [], [], _ => rfl
  | x, [], _ :: _, h => by simp at h
  | x, _ :: _, [], h => by simp at h
  | x, h :: l, b :: s, e => by
    simp only [prs, List.length_cons, Nat.add_right_cancel_iff]
    exact prs_len _ l s (by simpa using e)
theorem prs_get : ∀ (x : List UInt8) (l : List (List UInt8)) (s : List Bool) (j : Nat) (y : List UInt8) (b : Bool), l[j]? = some y → s[j]? = some b → (prs x l s)[j]? = some (if b then (y, clm x (l.take j) (s.take j)) else (clm x (l.take j) (s.take j), y))
  | x, [], s, j, y, b, h, k => by simp at h
  | x, _ :: _, [], j, y, b, h, k => by simp at k
  | x, h0 :: l, b0 :: s, 0, y, b, h, k => by
    simp at h k
    subst h; subst k
    simp [prs, clm]
  | x, h0 :: l, b0 :: s, j + 1, y, b, h, k => by
    simp only [List.getElem?_cons_succ] at h k
    simp only [prs, List.getElem?_cons_succ, List.take_succ_cons, clm]
    exact prs_get _ l s j y b h k
theorem prs_32 : ∀ (x : List UInt8) (l : List (List UInt8)) (s : List Bool), x.length = 32 → (∀ y ∈ l, y.length = 32) → ∀ p ∈ prs x l s, p.1.length = 32 ∧ p.2.length = 32
  | x, [], s, hx, hl, p, hp => by simp [prs] at hp
  | x, _ :: _, [], hx, hl, p, hp => by simp [prs] at hp
  | x, h :: l, b :: s, hx, hl, p, hp => by
    have hh := hl h (by simp)
    simp only [prs, List.mem_cons] at hp
    rcases hp with rfl | hp
    · cases b
      · exact ⟨hx, hh⟩
      · exact ⟨hh, hx⟩
    · exact prs_32 _ l s (by cases b <;> exact ndp_len _ _) (fun y hy => hl y (by simp [hy])) p hp
theorem clm_step (x : List UInt8) (l : List (List UInt8)) (s : List Bool) (j : Nat) (y : List UInt8) (b : Bool) (h : l[j]? = some y) (k : s[j]? = some b) : clm x (l.take (j + 1)) (s.take (j + 1)) = if b then ndp y (clm x (l.take j) (s.take j)) else ndp (clm x (l.take j) (s.take j)) y := by
  have h1 := (List.getElem?_eq_some_iff.1 h).1
  have h2 := (List.getElem?_eq_some_iff.1 k).1
  rw [List.take_add_one, List.take_add_one, h, k]
  show clm x (l.take j ++ [y]) (s.take j ++ [b]) = _
  exact clm_snoc _ _ _ _ _ (by simp; omega)
/-- Pairs as cells. -/
def psc (l : List (List UInt8 × List UInt8)) : List Value := l.flatMap fun p => (h2c p.1 p.2).toList
theorem psc_app (l m : List (List UInt8 × List UInt8)) : psc (l ++ m) = psc l ++ psc m := by simp [psc]
theorem psc_one (p : List UInt8 × List UInt8) : psc [p] = (h2c p.1 p.2).toList := by simp [psc]
theorem z64_h : (#[.int .u8 0, .int .u8 0, .int .u8 0, .int .u8 0, .int .u8 0, .int .u8 0, .int .u8 0, .int .u8 0, .int .u8 0, .int .u8 0, .int .u8 0, .int .u8 0, .int .u8 0, .int .u8 0, .int .u8 0, .int .u8 0, .int .u8 0, .int .u8 0, .int .u8 0, .int .u8 0, .int .u8 0, .int .u8 0, .int .u8 0, .int .u8 0, .int .u8 0, .int .u8 0, .int .u8 0, .int .u8 0, .int .u8 0, .int .u8 0, .int .u8 0, .int .u8 0, .int .u8 0, .int .u8 0, .int .u8 0, .int .u8 0, .int .u8 0, .int .u8 0, .int .u8 0, .int .u8 0, .int .u8 0, .int .u8 0, .int .u8 0, .int .u8 0, .int .u8 0, .int .u8 0, .int .u8 0, .int .u8 0, .int .u8 0, .int .u8 0, .int .u8 0, .int .u8 0, .int .u8 0, .int .u8 0, .int .u8 0, .int .u8 0, .int .u8 0, .int .u8 0, .int .u8 0, .int .u8 0, .int .u8 0, .int .u8 0, .int .u8 0, .int .u8 0] : Array Value) = z32 ++ z32 := by rfl
theorem z64_size : (z32 ++ z32).size = 64 := by rfl
theorem infoPr : (Tryd.prog.info? 60).map (fun i => (i.zero, i.size, i.bytes)) = some (some (.agg (z32 ++ z32)), 64, 64) := by kernel_rfl
theorem info_partsPr : ∃ i, Tryd.prog.info? 60 = some i ∧ i.zero = some (.agg (z32 ++ z32)) ∧ i.size = 64 ∧ i.bytes = 64 := by
  obtain ⟨i, hi, h⟩ := Option.map_eq_some_iff.1 infoPr
  simp only [Prod.mk.injEq] at h
  exact ⟨i, hi, h.1, h.2.1, h.2.2⟩
theorem step_allocPr {ops : Array Oper} {o : Oper} {a : Act} {w : World} {K : Act → World → Prop} {Q : Exit → Act → World → Prop} {E : Prop} (hgd : o.guard = none) (ho : o.op = .alloc 60)
    (h : K (a.put o.dst (.pointer (some ⟨w.heap.size, 0, none⟩))) (w.alloc (.cells (z32 ++ z32) 60))) : if Region.wanted o (yielded ops a.tmps) = true then Oper.wp Tryd.prog o a w K Q else E := by
  have hw : Region.wanted o (yielded ops a.tmps) = true := by simp [Region.wanted, hgd]
  rw [if_pos hw]
  unfold Oper.wp execOp
  simp only [ho]
  go_simp
  rw [z64_h]
  exact h
set_option maxRecDepth 100000 in
theorem built_pr (A B : List UInt8) (hA : A.length = 32) (hB : B.length = 32) (W : World) : (Instr.build 60 #[(0, .agg (hbs A)), (1, .agg (hbs B))]).run Tryd.prog W = .ok (.agg (h2c A B)) W := by
  refine run_build W _ _ _ ?_
  match A, hA with
  | [a0, a1, a2, a3, a4, a5, a6, a7, a8, a9, a10, a11, a12, a13, a14, a15, a16, a17, a18, a19, a20, a21, a22, a23, a24, a25, a26, a27, a28, a29, a30, a31], _ =>
    match B, hB with
    | [b0, b1, b2, b3, b4, b5, b6, b7, b8, b9, b10, b11, b12, b13, b14, b15, b16, b17, b18, b19, b20, b21, b22, b23, b24, b25, b26, b27, b28, b29, b30, b31], _ =>
      change _ = _
      kernel_rfl
theorem yields_prbuild {ops : Array Oper} {S : World → Prop} {o : Oper} {a : Act} (hgd : Region.wanted o (yielded ops a.tmps) = true) (x y : Operand) (ho : o.op = .build 60 #[(0, x), (1, y)]) (A B : List UInt8) (hA : A.length = 32) (hB : B.length = 32) (hx : a.eval x = .agg (hbs A)) (hy : a.eval y = .agg (hbs B)) : YieldsIf Tryd.prog ops S o (.agg (h2c A B)) a := by
  refine .inl ⟨hgd, fun w hw => ?_⟩
  unfold execOp
  simp only [ho, Sem.run_bind, Sem.run_pure, Result.andThen_ok, List.map_toArray, List.map_cons, List.map_nil, hx, hy, built_pr A B hA hB w]
theorem build1Pr (V : Array Value) (hV : V.size = 64) (W : World) : (Instr.buildSlice 56 1 #[(0, .agg V)]).run Tryd.prog W = .ok (.slice (some ⟨W.heap.size, 0, none⟩) 1 1) (W.alloc (.cells V 60)) := by
  obtain ⟨i0, hi, hz0, hz1, hz2⟩ := info_partsPr
  have hf : ∀ Z : Array Value, Z.size = 64 → V.zipIdx.foldl (fun (cs : Array Value) (x : Value × Nat) => cs.setIfInBounds (0 + x.2) x.1) Z = V := fun Z hZ => by
    rw [← Array.foldl_toList, Array.toList_zipIdx, fill_fold V.toList 0 Z (by simp; omega)]
    simp
  have hz : ((Array.range 64).map (fun x => (z32 ++ z32)[x % (z32 ++ z32).size]!)).size = 64 := by simp
  have := hf _ hz
  simp only [Instr.buildSlice, Sem.run_bind, run_underlying Tryd.underlying56, Tryd.sizeOf60 W, Result.andThen_ok, Sem.run_pure]
  simp [zeroValue, hi, hz0, typeInfo, Instr.fill, Value.cells, hV, z64_size, z32_size, newRow]
  have hs : V.zipIdx.size = 64 := by simp [hV]
  simp only [Nat.zero_add, z64_size, z32_size, hs] at this
  first | rw [this] | (simp at this; rw [this])
theorem wp_build1Pr {w : World} {ops : Array Oper} {rest : List Oper} {o : Oper} {a : Act} {Q : Exit → Act → World → Prop} (hgd : o.guard = none) (x : Operand) (ho : o.op = .buildSlice 56 1 #[(0, x)]) (V : Array Value) (hx : a.eval x = .agg V) (hV : V.size = 64)
    (h : wpList Tryd.prog ops Q rest (a.put o.dst (.slice (some ⟨w.heap.size, 0, none⟩) 1 1)) (w.alloc (.cells V 60))) : wpList Tryd.prog ops Q (o :: rest) a w := by
  refine wpList_plain hgd fun K hK => ?_
  unfold Oper.wp execOp
  simp only [ho, Sem.run_bind, Sem.run_pure, Result.andThen_ok, List.map_toArray, List.map_cons, List.map_nil, hx, build1Pr V hV]
  exact hK _ _ h
end Go.Proofs.YtaeocbdphfkflaaDoor
