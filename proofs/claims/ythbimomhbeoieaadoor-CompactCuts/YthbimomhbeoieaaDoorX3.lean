/- compact: a range in memory; a tree is pushed. -/
import Derived.Test.YthbimomhbeoieaaDoorX2
import Derived.Test.YthbimomhbeoieaaDoorTw
import Derived.Deep.RegionHeld
namespace Go.Proofs.YthbimomhbeoieaaDoor
open Go.RowKit
set_option linter.unusedVariables false
set_option linter.unusedSimpArgs false
/-- What join gives: the tree of both, or none. -/
def jz (a b : Tre) : Tre := if Sib a b then both a b else zt
theorem jz32 (a b : Tre) : (jz a b).H.length = 32 := by
  unfold jz
  split
  · exact nod_len _ _
  · simp
theorem join_any (a b : Tre) (ha : a.ok) (hb : b.ok) (w : World) (hL : Laid w) :
    Calls Tryd.prog 36 #[.agg a.c, .agg b.c] w fun e w' => e = .returned (.tuple #[.agg (jz a b).c, .bool (decide (Sib a b))]) ∧ Nw w w' := by
  unfold jz
  by_cases h : Sib a b
  · rw [if_pos h, decide_eq_true h]; exact join_yes a b ha hb h w hL
  · rw [if_neg h, decide_eq_false h]; exact join_no a b ha hb h w
def tsc (T : List Tre) : List Value := T.flatMap fun t => t.c.toList
theorem tsc_app (l m : List Tre) : tsc (l ++ m) = tsc l ++ tsc m := by simp [tsc]
theorem tsc_one (t : Tre) : tsc [t] = t.c.toList := by simp [tsc]
theorem tsc_len : ∀ (l : List Tre), (∀ t ∈ l, t.ok) → (tsc l).length = l.length * 34
  | [], _ => rfl
  | h :: r, hl => by
    have := tsc_len r (fun x hx => hl x (by simp [hx]))
    have h1 := Tre.size (hl h (by simp)).h32
    simp only [tsc, List.flatMap_cons, List.length_append, Array.length_toList, h1, List.length_cons] at this ⊢
    omega
theorem tsc_get : ∀ (l : List Tre), (∀ t ∈ l, t.ok) → ∀ (k : Nat) (t : Tre), l[k]? = some t → ∀ j, j < 34 → (tsc l)[k * 34 + j]? = t.c[j]?
  | [], _, k, h, hk, j, hj => by simp at hk
  | x :: r, hl, 0, h, hk, j, hj => by
    simp at hk; subst hk
    have h1 := Tre.size (hl x (by simp)).h32
    simp only [tsc, List.flatMap_cons, Nat.zero_mul, Nat.zero_add]
    rw [List.getElem?_append_left (by rw [Array.length_toList]; omega)]
    simp
  | x :: r, hl, k + 1, h, hk, j, hj => by
    have h1 := Tre.size (hl x (by simp)).h32
    have ih := tsc_get r (fun y hy => hl y (by simp [hy])) k h (by simpa using hk) j hj
    simp only [tsc, List.flatMap_cons] at ih ⊢
    rw [List.getElem?_append_right (by rw [Array.length_toList]; omega), Array.length_toList, h1]
    have e : (k + 1) * 34 + j - 34 = k * 34 + j := by omega
    rw [e]; exact ih
theorem tsc_take : ∀ (l : List Tre), (∀ t ∈ l, t.ok) → ∀ k, (tsc l).take (k * 34) = tsc (l.take k)
  | [], _, k => by simp [tsc]
  | x :: r, hl, 0 => by simp [tsc]
  | x :: r, hl, k + 1 => by
    have h1 := Tre.size (hl x (by simp)).h32
    have ih := tsc_take r (fun y hy => hl y (by simp [hy])) k
    simp only [tsc, List.flatMap_cons, List.take_succ_cons] at ih ⊢
    rw [← ih, List.take_append, Array.length_toList, h1, List.take_of_length_le (by rw [Array.length_toList]; omega)]
    congr 2
    omega
theorem infoTr : (Tryd.prog.info? 68).map (fun i => (i.zero, i.size, i.bytes)) = some (some (.agg zt.c), 34, 48) := by kernel_rfl
theorem build1t (V : Array Value) (hV : V.size = 34) (W : World) : (Instr.buildSlice 28 1 #[(0, .agg V)]).run Tryd.prog W = .ok (.slice (some ⟨W.heap.size, 0, none⟩) 1 1) (W.alloc (.cells V 68)) := by
  obtain ⟨i0, hi, hz0, hz1, hz2⟩ := info_parts infoTr
  have hf : ∀ Z : Array Value, Z.size = 34 → V.zipIdx.foldl (fun (cs : Array Value) (x : Value × Nat) => cs.setIfInBounds (0 + x.2) x.1) Z = V := fun Z hZ => by
    rw [← Array.foldl_toList, Array.toList_zipIdx, fill_fold V.toList 0 Z (by simp; omega)]
    simp
  have hz : ((Array.range 34).map (fun x => zt.c[x % zt.c.size]!)).size = 34 := by simp
  have h32 : (Value.agg V).cells.size = 34 := hV
  have := hf _ hz
  simp only [Instr.buildSlice, Sem.run_bind, run_underlying Tryd.underlying28, Tryd.sizeOf68 W, Result.andThen_ok, Sem.run_pure]
  simp [zeroValue, hi, hz0, typeInfo, Instr.fill, Value.cells, hV, zt34, newRow]
  have hs : V.zipIdx.size = 34 := by simp [hV]
  simp only [Nat.zero_add, zt34, hs] at this
  rw [this]
/-- A slice literal of one thing, as one step of a statement whose order is drawn. -/
theorem step_build1 {P : Program} {ops : Array Oper} {o : Oper} {a : Act} {w : World} {K : Act → World → Prop} {Q : Exit → Act → World → Prop} {E : Prop} (hgd : o.guard = none) (x : Operand) (ts te : TypeId) (ho : o.op = .buildSlice ts 1 #[(0, x)]) (V : Array Value) (hx : a.eval x = .agg V)
    (hb : ∀ W : World, (Instr.buildSlice ts 1 #[(0, .agg V)]).run P W = .ok (.slice (some ⟨W.heap.size, 0, none⟩) 1 1) (W.alloc (.cells V te)))
    (h : K (a.put o.dst (.slice (some ⟨w.heap.size, 0, none⟩) 1 1)) (w.alloc (.cells V te))) : if Region.wanted o (yielded ops a.tmps) = true then Oper.wp P o a w K Q else E := by
  have hw : Region.wanted o (yielded ops a.tmps) = true := by simp [Region.wanted, hgd]
  rw [if_pos hw]
  unfold Oper.wp execOp
  simp only [ho, Sem.run_bind, Sem.run_pure, Result.andThen_ok, List.map_toArray, List.map_cons, List.map_nil, hx, hb]
  exact h
/-- A thing loaded whole, as one step of a statement whose order is drawn. -/
theorem step_load_at {P : Program} {ops : Array Oper} {o : Oper} {a : Act} {w : World} {K : Act → World → Prop} {Q : Exit → Act → World → Prop} {E : Prop} (hgd : o.guard = none) (x : Operand) (t : TypeId) (n : Nat) (ho : o.op = .load t x)
    (hagg : ∀ W : World, (isAgg t).run P W = .ok true W) (hsz : ∀ W : World, (sizeOf t).run P W = .ok n W) (g off : Nat) (hx : a.eval x = .pointer (some ⟨g, off, none⟩))
    (V : Array Value) (hV : V.size = n) (hc : ∀ j, j < n → w.cell? ⟨g, off + j, none⟩ = V[j]?)
    (h : K (a.put o.dst (.agg V)) w) : if Region.wanted o (yielded ops a.tmps) = true then Oper.wp P o a w K Q else E := by
  have hw : Region.wanted o (yielded ops a.tmps) = true := by simp [Region.wanted, hgd]
  rw [if_pos hw]
  have hl : (loadCells ⟨g, off, none⟩ n).run P w = .ok V w := by
    have := run_loadCells_list (P := P) w ⟨g, off, none⟩ V.toList (fun j v hv => by
      have hj : j < n := by
        have := (List.getElem?_eq_some_iff.1 hv).1
        simpa [hV] using this
      rw [addO, hc j hj]
      simpa using hv)
    simpa [hV] using this
  unfold Oper.wp execOp
  simp only [ho, hx, Instr.loadAt, sure, loadVar, Sem.run_bind, Sem.run_pure, hagg, hsz, hl, Result.andThen_ok, if_true]
  exact h
/-- A thing put in another's place, as one of the steps that may come up. -/
theorem ready_store {P : Program} {md : Region.Mode} {ops : Array Oper} {Q : Exit → Act → World → Prop} {S : World → Prop} {fuel : Nat} {listed : Array Bool} {a : Act} {w : World} {i : Nat} {o : Oper} {rs : List Nat} (ho : ops[i]? = some o) (hgd : o.guard = none) (x v : Operand) (t : TypeId) (n : Nat) (hop : o.op = .store t x v)
    (hsz : ∀ W : World, (sizeOf t).run P W = .ok n W) (g : Nat) (hx : a.eval x = .pointer (some ⟨g, 0, none⟩)) (U : Array Value) (ty : TypeId) (hg : w.heap[g]? = some (.cells U ty (0, 0))) (Z : Array Value) (hv : a.eval v = .agg Z) (hz : Z.size = n) (h1 : ∀ u ∈ Z.toList, u.oneCell' = true) (hu : U.size = n)
    (h : ∀ w', w'.heap[g]? = some (.cells Z ty (0, 0)) → Fr (fun k => k = g) w w' → S w' ∧ (S w' → wpAnyH P md ops Q S fuel (listed.setIfInBounds i true) (a.put o.dst undef) w')) (hs : AllReadyH P md ops Q S fuel listed a w rs) : AllReadyH P md ops Q S fuel listed a w (i :: rs) :=
  AllReadyH.cons ho (fun K' hK => step_store_agg hgd x v t n hop hsz g 0 hx U ty hg Z hv hz h1 (by rw [hu]; omega) Z (by rw [dropAll hu]; simp) (fun w' q1 q2 _ => hK.out _ _ (h w' q1 q2).1 (h w' q1 q2).2)) hs
/-- A range in memory. -/
structure Rg (w : World) (b base : Nat) (v : Value) (B E : Nat) (T : List Tre) : Prop where
  blk : w.heap[b]? = some (.cells #[.bool true, .int .u64 (B : Int), .int .u64 (E : Int), v] 30)
  own : w.ownsRow base 68 34 v T.length (tsc T)
  lt : b < w.heap.size ∧ base ≤ w.heap.size
  ok : ∀ t ∈ T, t.ok
  nb : 20 ≤ b ∧ 20 ≤ base
  ne : ∀ g, v.ownBlock = some g → g ≠ b
theorem Rg.fr {S : Nat → Prop} {w w' : World} {b base : Nat} {v : Value} {B E : Nat} {T : List Tre} (h : Rg w b base v B E T) (f : Fr S w w') (h1 : ¬ S b) (h2 : ∀ g, v.ownBlock = some g → ¬ S g) : Rg w' b base v B E T :=
  ⟨(f.block _ (heap_lt h.blk) h1).trans h.blk, ownsRow_keep h.own (fun g hg => f.block g (h.own.lt g hg).2 (h2 g hg)), by have := h.lt; have := f.size; omega, h.ok, h.nb, h.ne⟩
theorem Rg.nw {w w' : World} {b base : Nat} {v : Value} {B E : Nat} {T : List Tre} (h : Rg w b base v B E T) (f : Nw w w') : Rg w' b base v B E T := h.fr f (fun q => q) (fun _ _ q => q)
theorem Rg.cs {w : World} {b base : Nat} {v : Value} {B E : Nat} {T : List Tre} (h : Rg w b base v B E T) : w.cell? ⟨b, 0, none⟩ = some (.bool true) ∧ w.cell? ⟨b, 1, none⟩ = some (.int .u64 (B : Int)) ∧ w.cell? ⟨b, 2, none⟩ = some (.int .u64 (E : Int)) ∧ w.cell? ⟨b, 3, none⟩ = some v :=
  ⟨(cell_of h.blk 0).trans rfl, (cell_of h.blk 1).trans rfl, (cell_of h.blk 2).trans rfl, (cell_of h.blk 3).trans rfl⟩
/-- A tree's cells in the row. -/
theorem Rg.at {w : World} {b base g cap : Nat} {o : Option Addr} {n B E : Nat} {T : List Tre} (h : Rg w b base (.slice o n cap) B E T) {k : Nat} {t : Tre} (hk : T[k]? = some t) : ∃ g, o = some ⟨g, 0, none⟩ ∧ base ≤ g ∧ ∀ j, j < 34 → w.cell? ⟨g, k * 34 + j, none⟩ = t.c[j]? := by
  have hl := (List.getElem?_eq_some_iff.1 hk).1
  rcases h.own.2 with ⟨hv, hn⟩ | ⟨g, cap', cur, hv, hb, _⟩
  · omega
  · cases hv
    refine ⟨g, rfl, hb, fun j hj => ?_⟩
    have h4 := tsc_get T h.ok k t hk j hj
    have hs := Tre.size (h.ok t (List.mem_of_getElem? hk)).h32
    have h5 : t.c[j]? = some t.c[j] := Array.getElem?_eq_getElem (by omega)
    have := h.own.cells (g := g) rfl (k * 34 + j) _ (by rw [h4, h5])
    rw [addZ] at this
    rw [this, h5]
/-- A tree is pushed onto a stack (its top ahead). -/
def pshR : List Tre → Tre → List Tre
  | [], t => [t]
  | x :: r, t => if Sib x t then pshR r (both x t) else t :: x :: r
def psh (T : List Tre) (t : Tre) : List Tre := (pshR T.reverse t).reverse
theorem psh_nil (t : Tre) : psh [] t = [t] := rfl
theorem psh_yes {T : List Tre} {x t : Tre} (h : Sib x t) : psh (T ++ [x]) t = psh T (both x t) := by simp [psh, pshR, h]
theorem psh_no {T : List Tre} {x t : Tre} (h : ¬ Sib x t) : psh (T ++ [x]) t = T ++ [x] ++ [t] := by simp [psh, pshR, h]
theorem psh_end {T : List Tre} {t : Tre} (h : ∀ x, T.getLast? = some x → ¬ Sib x t) : psh T t = T ++ [t] := by
  rcases List.eq_nil_or_concat T with rfl | ⟨r, x, rfl⟩
  · rfl
  · rw [List.concat_eq_append] at h ⊢
    exact psh_no (h x (by simp))
theorem pshR_ok : ∀ (T : List Tre) (t : Tre), (∀ x ∈ T, x.ok) → t.ok → ∀ x ∈ pshR T t, x.ok
  | [], t, _, ht, x, hx => by simp [pshR] at hx; rw [hx]; exact ht
  | y :: r, t, hT, ht, x, hx => by
    unfold pshR at hx
    split at hx
    · next hs => exact pshR_ok r _ (fun z hz => hT z (by simp [hz])) (both_ok (hT y (by simp)) hs) x hx
    · rcases List.mem_cons.1 hx with rfl | hx
      · exact ht
      · exact hT x hx
theorem psh_ok {T : List Tre} {t : Tre} (hT : ∀ x ∈ T, x.ok) (ht : t.ok) : ∀ x ∈ psh T t, x.ok := by
  intro x hx
  unfold psh at hx
  rw [List.mem_reverse] at hx
  exact pshR_ok T.reverse t (fun y hy => hT y (List.mem_reverse.1 hy)) ht x hx
end Go.Proofs.YthbimomhbeoieaaDoor
