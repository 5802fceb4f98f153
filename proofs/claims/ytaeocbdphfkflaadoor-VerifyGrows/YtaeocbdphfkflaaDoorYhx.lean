/- A range over a function: what a round does may be walked as anywhere; slices.Backward over a row of hashes. -/
import Derived.RangeFuncNested
import Derived.RangeFuncBound
import Derived.RangeFuncCalls
import Derived.RangeFuncLeaves
import Derived.RangeFuncFrom
import Derived.Shelf.Abstract
import Derived.Shelf.RegionOpen
import Derived.WalkKit
import Derived.OwnWalkIn
import Derived.TacticsInMore
import Derived.LoopNIn
import Derived.LoopIn
import Derived.Test.YtaeocbdphfkflaaDoorGHq
import Derived.Test.YtaeocbdphfkflaaDoorYgy
import Derived.Test.YtaeocbdphfkflaaDoorEg
import Derived.WalkMore
import Derived.Deep.RegionHeld
import Derived.Deep.DeepCutAuto
import Derived.Deep.RegionHeld3
namespace Go.Proofs.YtaeocbdphfkflaaDoor
open Go.RowKit Go.Shelf
set_option linter.unusedVariables false
set_option linter.unusedSimpArgs false
attribute [local go_sem] Oper.semAt_some
theorem upon_in {l n : Nat} {P : Program} {o : Oper} {a : Act} {next next' : Act → World → Prop} {Q : Exit → Act → World → Prop} (hn : ∀ a w, next a w → next' a w) :
    ∀ r : Result Next, o.upon P a next Q r → o.uponIn (Fence.wide.inRound l) n P a next' Q r
  | .ok (.value v) w', h => hn _ _ h
  | .ok .skip w', h => hn _ _ h
  | .ok (.defer d) w', h => hn _ _ h
  | .ok (.enter f args) w', h => ⟨fun e => (by simp [Fence.inRound, Fence.wide] at e), CallsIn.inRound l (callsIn_wide.2 (Calls.mono h (fun e w'' q => by cases e <;> first | exact hn _ _ q | exact q)))⟩
  | .ok (.row row args) w', h => ⟨fun e => (by simp [Fence.inRound, Fence.wide] at e), fun c cs _ => let ⟨v, w'', r, s⟩ := h c cs; ⟨v, w'', hn _ _ r, stepsIn_wide.2 s⟩⟩
  | .ok (.round l f tmps assign body) w', h => h.elim
  | .halt (.panic v) w', h => h
/-- A statement's steps within a round: as anywhere. -/
theorem list_in {l n : Nat} {P : Program} {ops : Array Oper} {Q : Exit → Act → World → Prop} (hQ : ¬ LetsOut Q) : ∀ (os : List Oper), (∀ o ∈ os, ∀ c, o.op ≠ .defer c) → ∀ a w, wpList P ops Q os a w → wpListIn (Fence.wide.inRound l) n P ops Q os a w
  | [], _, a, w, h => h
  | o :: r, hd, a, w, h => by
    have ih := list_in hQ (l := l) (n := n) (P := P) (ops := ops) r (fun x hx => hd x (by simp [hx]))
    unfold wpList at h
    unfold wpListIn
    split
    · next hw =>
      rw [if_pos hw] at h
      rcases h with h | ⟨_, h⟩
      · refine ⟨fun _ _ => trivial, ?_⟩
        rw [Oper.semAt_eq _ _ _ (hd o (by simp))]
        exact upon_in ih _ h
      · exact absurd h hQ
    · next hw =>
      rw [if_neg hw] at h
      exact ⟨fun _ _ => trivial, ih _ _ h⟩
/-- A thing loaded whole out of a row. -/
theorem wplIn_load_at {n0 : Nat} {P : Program} {w : World} {ops : Array Oper} {rest : List Oper} {o : Oper} {a : Act} {Q : Exit → Act → World → Prop} (hgd : o.guard = none) (x : Operand) (t : TypeId) (n : Nat) (ho : o.op = .load t x)
    (hagg : ∀ W : World, (isAgg t).run P W = .ok true W) (hsz : ∀ W : World, (sizeOf t).run P W = .ok n W) (g off : Nat) (hx : a.eval x = .pointer (some ⟨g, off, none⟩)) (V : Array Value) (hV : V.size = n) (hc : ∀ j, j < n → w.cell? ⟨g, off + j, none⟩ = V[j]?)
    (h : wpListIn Fence.wide n0 P ops Q rest (a.put o.dst (.agg V)) w) : wpListIn Fence.wide n0 P ops Q (o :: rest) a w := by
  have hl : (loadCells ⟨g, off, none⟩ n).run P w = .ok V w := by
    have := run_loadCells_list (P := P) w ⟨g, off, none⟩ V.toList (fun j v hv => by
      have hj : j < n := by
        have := (List.getElem?_eq_some_iff.1 hv).1
        simpa [hV] using this
      rw [addO, hc j hj]
      simpa using hv)
    simpa [hV] using this
  have hw : Region.wanted o (yielded ops a.tmps) = true := by simp [Region.wanted, hgd]
  unfold wpListIn
  rw [if_pos hw]
  refine ⟨fun _ _ => trivial, ?_⟩
  rw [Oper.semAt_eq _ _ _ (fun c e => by rw [ho] at e; cases e)]
  unfold execOp
  simp only [ho, hx, Instr.loadAt, sure, loadVar, Sem.run_bind, Sem.run_pure, hagg, hsz, hl, Result.andThen_ok, if_true]
  exact h
/-- What a round keeps: all blocks below N but one. -/
def Kr (N r : Nat) (A B : World) : Prop := ∀ k, k < N → k ≠ r → B.heap[k]? = A.heap[k]?
theorem Kr.tr {N r : Nat} {A B C : World} (h : Kr N r A B) (k : Kr N r B C) : Kr N r A C := fun j h1 h2 => (k j h1 h2).trans (h j h1 h2)
theorem Kr.put {N r : Nat} (W : World) (l : Nat) (o o' : Obj) (hl : N ≤ l) (_ : W.heap[l]? = some o) (_ : o.isCells = false) (_ : o.isWalk = false) : Kr N r W (W.putObj l o') := fun k h1 _ => World.putObj_heap_other (by omega)
theorem Kr.cell {N r : Nat} {A B : World} (h : Kr N r A B) {p : Addr} (h1 : p.block < N) (h2 : p.block ≠ r) : B.cell? p = A.cell? p := World.cell?_of_block (w := A) (h _ h1 h2)
theorem Kr.of {S : Nat → Prop} {N r : Nat} {A B : World} (h : Fr S A B) (hN : N ≤ A.heap.size) (hS : ∀ k, k < N → S k → k = r) : Kr N r A B := fun k h1 h2 => h.block k (by omega) (fun q => h2 (hS k h1 q))
/-- What came when k rounds are over: from the last on. -/
def dwn {β : Type} (V : Nat → β) (n k : Nat) : List (Nat × β) := (List.range k).map fun j => (n - 1 - j, V (n - 1 - j))
theorem dwn_succ {β : Type} (V : Nat → β) (n k : Nat) : dwn V n (k + 1) = dwn V n k ++ [(n - 1 - k, V (n - 1 - k))] := by simp [dwn, List.range_succ]
theorem dwn_len {β : Type} (V : Nat → β) (n k : Nat) : (dwn V n k).length = k := by simp [dwn]
/- TREES -/
/- LAW -/
/-- A loop over slices.Backward whose body turns one block. -/
theorem back_law {β : Type} {enc : β → Array Value} {tt th : TypeId} {P : Program} {g : Operand} {d1 d2 d3 : Nat} {i1 i2 kb : Nat} {o1 o2 : List Oper} {Q : Exit → Act → World → Prop} {a : Act} {w : World} {gf Bs len : Nat} {V : Nat → β} {r : Nat}
    (hg : a.eval g = .func (.func gf) #[] #[.pointer (some ⟨Bs, 0, none⟩)]) (eg : ∀ args w, (callFunc gf args).run P w = .ok (.enter gf args) w)
    (hseq : SeqStopsK Fence.wide 4 P gf #[.pointer (some ⟨Bs, 0, none⟩)] (fun x : Nat × β => #[Value.int .i64 (x.1 : Int), .agg (enc x.2)]) (Kr w.heap.size r) (fun ys => ys = dwn V len len) (fun _ => True) len w)
    (R : List (Nat × β) → Array Value) (hr : r < w.heap.size) (h0 : w.heap[r]? = some (.cells (R []) th))
    (nd1 : ∀ o ∈ o1, ∀ c, o.op ≠ .defer c) (nd2 : ∀ o ∈ o2, ∀ c, o.op ≠ .defer c)
    (hassign : ∀ (x : Nat × β) (W : World) (K : Act → World → Prop), (∀ W', W'.heap[W.heap.size]? = some (.cells (enc x.2) tt) → Nw W W' → K { tmps := ((a.tmps.setIfInBounds d1 (.int .i64 (x.1 : Int))).setIfInBounds d2 (.agg (enc x.2))).setIfInBounds d3 (.pointer (some ⟨W.heap.size, 0, none⟩)), defers := [] } W') →
      wpList P o1.toArray (Exit.then K (fun _ _ _ => False)) o1 { tmps := (a.tmps.setIfInBounds d1 (.int .i64 (x.1 : Int))).setIfInBounds d2 (.agg (enc x.2)), defers := [] } W)
    (hbody : ∀ (pre : List (Nat × β)) (x : Nat × β) (Bx : Nat) (W : World) (Q' : Exit → Act → World → Prop), w.heap.size ≤ Bx → W.heap[Bx]? = some (.cells (enc x.2) tt) → W.heap[r]? = some (.cells (R pre) th) → Fr (fun k => k = r) w W →
      (∀ a' W', W'.heap[r]? = some (.cells (R (pre ++ [x])) th) → Fr (fun k => k = r) W W' → Q' .normal a' W') →
      wpList P o2.toArray Q' o2 { tmps := ((a.tmps.setIfInBounds d1 (.int .i64 (x.1 : Int))).setIfInBounds d2 (.agg (enc x.2))).setIfInBounds d3 (.pointer (some ⟨Bx, 0, none⟩)), defers := [] } W)
    (hdone : ∀ (D : Nat) (W : World), w.heap.size ≤ D → W.heap[r]? = some (.cells (R (dwn V len len)) th) → Fr (fun k => k = r) w W → W.heap[D]? = some (.deferred (some [])) → Q .normal { a with defers := { target := .collected D, args := #[] } :: a.defers } W) :
    (Code.rangeFunc g #[d1, d2] (Code.region i1 o1.toArray false) (Code.block kb (Code.region i2 o2.toArray false))).wp P Q a w := by
  have kF : ∀ {A B : World}, w.heap.size ≤ A.heap.size → Fr (fun k => k = r) A B → KeepsFrom w.heap.size A B := fun hs f => ⟨f.size, fun k o hB hk _ => (f.block k (Array.getElem?_eq_some_iff.1 hk).1 (fun e => by omega)).trans hk⟩
  refine wpIn_wide.1 (wpIn_rangeFunc_ownH (F := Fence.wide) (n := 5) rfl (by omega) hg trivial eg hseq Kr.tr (fun W l o o' h1 h2 h3 h4 => Kr.put W l o o' h1 h2 h3 h4) (Below.refl _ _) (fun _ => rfl)
    (fun pre W => W.heap[r]? = some (.cells (R pre) th) ∧ Fr (fun k => k = r) w W) (fun _ _ _ => False) ?hI (fun _ _ _ _ _ hs _ _ => hs) ⟨h0, Fr.refl _ _⟩
    (fun x a' W => ∃ Bx, w.heap.size ≤ Bx ∧ W.heap[Bx]? = some (.cells (enc x.2) tt) ∧ a' = { tmps := ((a.tmps.setIfInBounds d1 (.int .i64 (x.1 : Int))).setIfInBounds d2 (.agg (enc x.2))).setIfInBounds d3 (.pointer (some ⟨Bx, 0, none⟩)), defers := [] }) ?hAx ?assign ?body ?done ?stop)
  case hI =>
    intro s A B row hs hg' hrow
    refine ⟨(hg'.block r (heap_lt hs.1) (fun e => ?_)).trans hs.1, hs.2.grown hg' (fun k e hk => ?_)⟩
    · have := (hrow r e.symm).1; omega
    · have := (hrow k e).1; omega
  case hAx =>
    rintro x a' _ A B row ⟨Bx, h1, h2, h3⟩ hg' hrow
    refine ⟨Bx, h1, ?_, h3⟩
    exact (grownBy_keeps_cells hg' (fun k e => (hrow k e).2) h2 rfl).trans h2
  case assign =>
    rintro l pre x W K ⟨hi1, hi2⟩ hK
    have ez : ((#[d1, d2].zip #[Value.int .i64 (x.1 : Int), .agg (enc x.2)]).foldl (fun t (p, v) => t.setIfInBounds p v) a.tmps) = (a.tmps.setIfInBounds d1 (.int .i64 (x.1 : Int))).setIfInBounds d2 (.agg (enc x.2)) := by simp
    rw [ez]
    refine wpIn_region_lit (list_in (fun ⟨_, _, h⟩ => h) o1 nd1 _ _ (hassign x W K ?_))
    intro W' hb hn
    have hn' : Fr (fun k => k = r) W W' := hn.mono (fun _ _ f => f.elim)
    exact hK _ _ (kF hi2.size hn') (Kr.of hn' hi2.size (fun k _ e => e)) ⟨(hn.block r (heap_lt hi1) (fun f => f)).trans hi1, hi2.trans hn (fun _ _ f => f.elim)⟩ ⟨W.heap.size, hi2.size, hb, rfl⟩
  case body =>
    rintro l pre x a' W hl _ ⟨hi1, hi2⟩ ⟨Bx, h1, h2, rfl⟩ hlt
    refine wpIn_block (wpIn_region_lit (list_in ?_ o2 nd2 _ _ (hbody pre x Bx W _ h1 h2 hi1 hi2 ?_)))
    · rintro ⟨_, _, h⟩; exact h
    · intro a2 W2 q1 q2
      exact ⟨kF hi2.size q2, Kr.of q2 hi2.size (fun k _ e => e), q1, hi2.trans q2 (fun _ _ e => e)⟩
  case done =>
    rintro D ys W hD rfl ⟨hi1, hi2⟩ hK
    exact hdone D W hD hi1 hi2 hK
  case stop =>
    rintro D c pre W _ _ h _
    exact h.elim
end Go.Proofs.YtaeocbdphfkflaaDoor
namespace Go.Proofs.YtaeocbdphfkflaaDoor
open Go.RowKit Go.Shelf
set_option linter.unusedVariables false
set_option linter.unusedSimpArgs false
section
variable {w : World} {o : Oper} {a : Act} {K : Act → Prop}
theorem quiet_cellP {t : TypeId} (x : Operand) (ho : o.op = .load t x) (g off : Nat) (hx : a.eval x = .pointer (some ⟨g, off, none⟩)) (ht : ∀ W, (isAgg t).run Tryd.prog W = .ok false W) (v : Value) (hc : w.cell? ⟨g, off, none⟩ = some v) (hk : K (a.put o.dst v)) : o.quiet Tryd.prog a (fun w' => ∃ x : Grw w, w' = x.val) K := by
  refine ⟨v, ?_, hk⟩
  rintro W ⟨y, rfl⟩
  have h1 := y.cell hc
  unfold Oper.quietAt execOp
  simp only [ho, hx, Instr.loadAt, sure, loadVar, Sem.run_bind, Sem.run_pure, Sem.run_ite, ht, Result.andThen_ok, run_load, h1, if_false, Bool.false_eq_true]
  exact ⟨rfl, rfl⟩
end
end Go.Proofs.YtaeocbdphfkflaaDoor
namespace Go.Proofs.YtaeocbdphfkflaaDoor
end Go.Proofs.YtaeocbdphfkflaaDoor
namespace Go.Proofs.YtaeocbdphfkflaaDoor
open Go.RowKit Go.Shelf
set_option linter.unusedVariables false
set_option linter.unusedSimpArgs false
def ndp (A B : List UInt8) : List UInt8 := Sh (1 :: (A ++ B))
theorem ndp_len (A B : List UInt8) : (ndp A B).length = 32 := Sh_len _
theorem dropA {A : Array Value} {n : Nat} (h : A.size = n) : A.toList.drop (0 + n) = [] := List.drop_eq_nil_of_le (by simp [h])
theorem wple_load_at {P : Program} {w : World} {ops : Array Oper} {rest : List Oper} {o : Oper} {a : Act} {Q : Exit → Act → World → Prop} (hgd : o.guard = none) (x : Operand) (t : TypeId) (n : Nat) (ho : o.op = .load t x)
    (hagg : ∀ W : World, (isAgg t).run P W = .ok true W) (hsz : ∀ W : World, (sizeOf t).run P W = .ok n W) (g off : Nat) (hx : a.eval x = .pointer (some ⟨g, off, none⟩)) (V : Array Value) (hV : V.size = n) (hc : ∀ j, j < n → w.cell? ⟨g, off + j, none⟩ = V[j]?)
    (h : wpList P ops Q rest (a.put o.dst (.agg V)) w) : wpList P ops Q (o :: rest) a w := by
  refine wpList_plain hgd fun K hK => ?_
  have hl : (loadCells ⟨g, off, none⟩ n).run P w = .ok V w := by
    have := run_loadCells_list (P := P) w ⟨g, off, none⟩ V.toList (fun j v hv => by
      have hj : j < n := by
        have := (List.getElem?_eq_some_iff.1 hv).1
        simpa [hV] using this
      rw [addO, hc j hj]
      simpa using hv)
    simpa [hV] using this
  unfold Oper.wp execOp
  simp only [ho, hx, Instr.loadAt, sure, loadVar, Sem.run_bind, Sem.run_pure, hagg, hsz, hl, Result.andThen_ok, if_true]
  exact hK _ _ h
abbrev Hsq := { h : List UInt8 // h.length = 32 }
/-- Folded from the right. -/
def fdp : List (List UInt8) → List UInt8
  | [] => Sh []
  | [x] => x
  | x :: y :: r => ndp x (fdp (y :: r))
theorem fdp_cons (x : List UInt8) (l : List (List UInt8)) (h : l ≠ []) : fdp (x :: l) = ndp x (fdp l) := by
  cases l with
  | nil => exact absurd rfl h
  | cons y r => rfl
theorem fdp_dwn {β : Type} (f : β → List UInt8) (V : Nat → β) (L : List (List UInt8)) (n : Nat) (hL : L.length = n + 1) (hV : ∀ j, j < n → L[j]? = some (f (V j))) (x0 : List UInt8) (hx : L[n]? = some x0) :
    ∀ k, k ≤ n → (dwn V n k).foldl (fun r x => ndp (f x.2) r) x0 = fdp (L.drop (n - k))
  | 0, _ => by
    have : L.drop n = [x0] := by
      rw [List.drop_eq_getElem_cons (by omega), List.drop_of_length_le (by omega)]
      rw [List.getElem?_eq_getElem (by omega)] at hx
      simpa using hx
    simp [dwn, this, fdp]
  | k + 1, hk => by
    have ih := fdp_dwn f V L n hL hV x0 hx k (by omega)
    rw [dwn_succ, List.foldl_append, ih]
    have h1 : n - 1 - k = n - (k + 1) := by omega
    have h2 : n - (k + 1) + 1 = n - k := by omega
    have h3 := hV (n - (k + 1)) (by omega)
    have hne : L.drop (n - k) ≠ [] := by
      intro e
      have := congrArg List.length e
      simp at this; omega
    rw [List.drop_eq_getElem_cons (i := n - (k + 1)) (by omega), h2, fdp_cons _ _ hne, h1]
    rw [List.getElem?_eq_getElem (by omega)] at h3
    simp only [Option.some.injEq] at h3
    rw [h3]; rfl
theorem foldp32 {β : Type} (f : β → List UInt8) (l : List β) (x : List UInt8) (hx : x.length = 32) : (l.foldl (fun r y => ndp (f y) r) x).length = 32 := by
  rcases List.eq_nil_or_concat l with rfl | ⟨r, y, rfl⟩
  · exact hx
  · rw [List.concat_eq_append, List.foldl_append]; exact ndp_len _ _
/-- A row of hashes in block g. -/
structure Hrw (w : World) (g : Nat) (L : List (List UInt8)) : Prop where
  lt : g < w.heap.size
  ok : ∀ x ∈ L, x.length = 32
  cs : ∀ k x, L[k]? = some x → ∀ j, j < 32 → w.cell? ⟨g, k * 32 + j, none⟩ = (hbs x)[j]?
theorem Hrw.nw {w w' : World} {g : Nat} {L : List (List UInt8)} (h : Hrw w g L) (n : Nw w w') : Hrw w' g L :=
  ⟨Nat.lt_of_lt_of_le h.lt n.size, h.ok, fun k x hx j hj => (n.cell (p := ⟨g, _, none⟩) h.lt (fun f => f)).trans (h.cs k x hx j hj)⟩
theorem Hrw.of {w : World} {base g n c : Nat} {L : List (List UInt8)} (h : w.ownsRow base 24 32 (.slice (some ⟨g, 0, none⟩) n c) L.length (hsc L)) (hok : ∀ x ∈ L, x.length = 32) : Hrw w g L := by
  refine ⟨(h.lt g rfl).2, hok, fun k x hx j hj => ?_⟩
  have hl := (List.getElem?_eq_some_iff.1 hx).1
  obtain ⟨ad, c, e, hc⟩ := Hss.of hok h
  obtain ⟨g', off, e2, hc2⟩ := hc k x hx
  rcases h.2 with ⟨hv, hn⟩ | ⟨g2, cap', cur, hv, hb, _⟩
  · omega
  · simp only [Value.slice.injEq] at hv e
    have e3 : some (⟨g, 0, none⟩ : Addr) = some ⟨g', off, none⟩ := by rw [e.1, e2]
    cases e3
    have := hc2 j hj; rwa [Nat.zero_add] at this
end Go.Proofs.YtaeocbdphfkflaaDoor
namespace Go.Proofs.YtaeocbdphfkflaaDoor
open Go.RowKit
set_option linter.unusedVariables false
set_option linter.unusedSimpArgs false
theorem yields_buildP {P : Program} {ops : Array Oper} {S : World → Prop} {o : Oper} {a : Act} (hgd : o.guard = none) (t : TypeId) (parts : Array (Nat × Operand)) (ho : o.op = .build t parts) (vs : Array (Nat × Value)) (hv : parts.map (fun p => (p.1, a.eval p.2)) = vs)
    (V : Array Value) (hb : ∀ W : World, (Instr.build t vs).run P W = .ok (.agg V) W) : YieldsIf P ops S o (.agg V) a := by
  refine .inl ⟨by simp [Region.wanted, hgd], fun w hw => ?_⟩
  unfold execOp
  simp only [ho, hv, hb, Sem.run_bind, Sem.run_pure, Result.andThen_ok]
theorem ready_storeP {P : Program} {md : Region.Mode} {ops : Array Oper} {Q : Exit → Act → World → Prop} {S : World → Prop} {fuel : Nat} {listed : Array Bool} {a : Act} {w : World} {i : Nat} {o : Oper} {rs : List Nat} (ho : ops[i]? = some o) (hgd : o.guard = none) (x v : Operand) (t : TypeId) (n : Nat) (hop : o.op = .store t x v)
    (hsz : ∀ W : World, (sizeOf t).run P W = .ok n W) (g : Nat) (hx : a.eval x = .pointer (some ⟨g, 0, none⟩)) (U : Array Value) (ty : TypeId) (hg : w.heap[g]? = some (.cells U ty (0, 0))) (Z : Array Value) (hv : a.eval v = .agg Z) (hz : Z.size = n) (h1 : ∀ u ∈ Z.toList, u.oneCell' = true) (hu : U.size = n)
    (h : ∀ w', w'.heap[g]? = some (.cells Z ty (0, 0)) → Fr (fun k => k = g) w w' → S w' ∧ (S w' → wpAnyH P md ops Q S fuel (listed.setIfInBounds i true) (a.put o.dst undef) w')) (hs : AllReadyH P md ops Q S fuel listed a w rs) : AllReadyH P md ops Q S fuel listed a w (i :: rs) :=
  AllReadyH.cons ho (fun K' hK => step_store_agg hgd x v t n hop hsz g 0 hx U ty hg Z hv hz h1 (by rw [hu]; omega) Z (by rw [dropA hu]; simp) (fun w' q1 q2 _ => hK.out _ _ (h w' q1 q2).1 (h w' q1 q2).2)) hs
end Go.Proofs.YtaeocbdphfkflaaDoor
