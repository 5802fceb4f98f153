/- A range over a function: what a round does may be walked as anywhere; slices.Backward over a row of hashes. -/
import Derived.RangeFuncNested
import Derived.RangeFuncBound
import Derived.RangeFuncCalls
import Derived.RangeFuncLeaves
import Derived.RangeFuncFrom
import Derived.Shelf.Abstract
import Derived.Shelf.RegionOpen
import Derived.WalkKit
import Derived.OwnWalkIn
import Derived.TacticsInMore
import Derived.LoopNIn
import Derived.LoopIn
import Derived.Test.YtjkhcplnedcmeaaGreatDoorGHq
namespace Go.Proofs.YtjkhcplnedcmeaaGreatDoor
open Go.RowKit Go.Shelf
set_option linter.unusedVariables false
set_option linter.unusedSimpArgs false
attribute [local go_sem] Oper.semAt_some
theorem upon_in {l n : Nat} {P : Program} {o : Oper} {a : Act} {next next' : Act → World → Prop} {Q : Exit → Act → World → Prop} (hn : ∀ a w, next a w → next' a w) :
    ∀ r : Result Next, o.upon P a next Q r → o.uponIn (Fence.wide.inRound l) n P a next' Q r
  | .ok (.value v) w', h => hn _ _ h
  | .ok .skip w', h => hn _ _ h
  | .ok (.defer d) w', h => hn _ _ h
  | .ok (.enter f args) w', h => ⟨fun e => (by simp [Fence.inRound, Fence.wide] at e), CallsIn.inRound l (callsIn_wide.2 (Calls.mono h (fun e w'' q => by cases e <;> first | exact hn _ _ q | exact q)))⟩
  | .ok (.row row args) w', h => ⟨fun e => (by simp [Fence.inRound, Fence.wide] at e), fun c cs _ => let ⟨v, w'', r, s⟩ := h c cs; ⟨v, w'', hn _ _ r, stepsIn_wide.2 s⟩⟩
  | .ok (.round l f tmps assign body) w', h => h.elim
  | .halt (.panic v) w', h => h
/-- A statement's steps within a round: as anywhere. -/
theorem list_in {l n : Nat} {P : Program} {ops : Array Oper} {Q : Exit → Act → World → Prop} (hQ : ¬ LetsOut Q) : ∀ (os : List Oper), (∀ o ∈ os, ∀ c, o.op ≠ .defer c) → ∀ a w, wpList P ops Q os a w → wpListIn (Fence.wide.inRound l) n P ops Q os a w
  | [], _, a, w, h => h
  | o :: r, hd, a, w, h => by
    have ih := list_in hQ (l := l) (n := n) (P := P) (ops := ops) r (fun x hx => hd x (by simp [hx]))
    unfold wpList at h
    unfold wpListIn
    split
    · next hw =>
      rw [if_pos hw] at h
      rcases h with h | ⟨_, h⟩
      · refine ⟨fun _ _ => trivial, ?_⟩
        rw [Oper.semAt_eq _ _ _ (hd o (by simp))]
        exact upon_in ih _ h
      · exact absurd h hQ
    · next hw =>
      rw [if_neg hw] at h
      exact ⟨fun _ _ => trivial, ih _ _ h⟩
/-- A thing loaded whole out of a row. -/
theorem wplIn_load_at {n0 : Nat} {P : Program} {w : World} {ops : Array Oper} {rest : List Oper} {o : Oper} {a : Act} {Q : Exit → Act → World → Prop} (hgd : o.guard = none) (x : Operand) (t : TypeId) (n : Nat) (ho : o.op = .load t x)
    (hagg : ∀ W : World, (isAgg t).run P W = .ok true W) (hsz : ∀ W : World, (sizeOf t).run P W = .ok n W) (g off : Nat) (hx : a.eval x = .pointer (some ⟨g, off, none⟩)) (V : Array Value) (hV : V.size = n) (hc : ∀ j, j < n → w.cell? ⟨g, off + j, none⟩ = V[j]?)
    (h : wpListIn Fence.wide n0 P ops Q rest (a.put o.dst (.agg V)) w) : wpListIn Fence.wide n0 P ops Q (o :: rest) a w := by
  have hl : (loadCells ⟨g, off, none⟩ n).run P w = .ok V w := by
    have := run_loadCells_list (P := P) w ⟨g, off, none⟩ V.toList (fun j v hv => by
      have hj : j < n := by
        have := (List.getElem?_eq_some_iff.1 hv).1
        simpa [hV] using this
      rw [addO, hc j hj]
      simpa using hv)
    simpa [hV] using this
  have hw : Region.wanted o (yielded ops a.tmps) = true := by simp [Region.wanted, hgd]
  unfold wpListIn
  rw [if_pos hw]
  refine ⟨fun _ _ => trivial, ?_⟩
  rw [Oper.semAt_eq _ _ _ (fun c e => by rw [ho] at e; cases e)]
  unfold execOp
  simp only [ho, hx, Instr.loadAt, sure, loadVar, Sem.run_bind, Sem.run_pure, hagg, hsz, hl, Result.andThen_ok, if_true]
  exact h
/-- What a round keeps: all blocks below N but one. -/
def Kr (N r : Nat) (A B : World) : Prop := ∀ k, k < N → k ≠ r → B.heap[k]? = A.heap[k]?
theorem Kr.tr {N r : Nat} {A B C : World} (h : Kr N r A B) (k : Kr N r B C) : Kr N r A C := fun j h1 h2 => (k j h1 h2).trans (h j h1 h2)
theorem Kr.put {N r : Nat} (W : World) (l : Nat) (o o' : Obj) (hl : N ≤ l) (_ : W.heap[l]? = some o) (_ : o.isCells = false) (_ : o.isWalk = false) : Kr N r W (W.putObj l o') := fun k h1 _ => World.putObj_heap_other (by omega)
theorem Kr.cell {N r : Nat} {A B : World} (h : Kr N r A B) {p : Addr} (h1 : p.block < N) (h2 : p.block ≠ r) : B.cell? p = A.cell? p := World.cell?_of_block (w := A) (h _ h1 h2)
theorem Kr.of {S : Nat → Prop} {N r : Nat} {A B : World} (h : Fr S A B) (hN : N ≤ A.heap.size) (hS : ∀ k, k < N → S k → k = r) : Kr N r A B := fun k h1 h2 => h.block k (by omega) (fun q => h2 (hS k h1 q))
/-- What came when k rounds are over: from the last on. -/
def dwn {β : Type} (V : Nat → β) (n k : Nat) : List (Nat × β) := (List.range k).map fun j => (n - 1 - j, V (n - 1 - j))
theorem dwn_succ {β : Type} (V : Nat → β) (n k : Nat) : dwn V n (k + 1) = dwn V n k ++ [(n - 1 - k, V (n - 1 - k))] := by simp [dwn, List.range_succ]
theorem dwn_len {β : Type} (V : Nat → β) (n k : Nat) : (dwn V n k).length = k := by simp [dwn]
set_option maxRecDepth 100000 in
set_option maxHeartbeats 2000000 in
theorem backh_in {β : Type} (enc : β → Array Value) (henc : ∀ x, (enc x).size = 32) (n : Nat) (hn : 1 ≤ n) (l Bs N r g len cap : Nat) (V : Nat → β) (hreach : len ≤ 1048576) (hg : g < N ∧ g ≠ r) (hB : Bs < N ∧ Bs ≠ r) (J Jx : List (Nat × β) → World → Prop)
    (hY : ∀ pre x W, J pre W → pre.length < len → YieldAt Fence.wide (n - 1) Tryz.prog l #[.int .i64 (x.1 : Int), .agg (enc x.2)] W fun e W' =>
      (e = .returned (.bool true) ∧ J (pre ++ [x]) W' ∧ Kr N r W W') ∨ (e = .returned (.bool false) ∧ Jx (pre ++ [x]) W'))
    (W : World) (hBs : W.cell? ⟨Bs, 0, none⟩ = some (.slice (some ⟨g, 0, none⟩) len cap)) (hc : ∀ k, k < len → ∀ j, j < 32 → W.cell? ⟨g, k * 32 + j, none⟩ = (enc (V k))[j]?) (h0 : J [] W) :
    CallsIn Fence.wide n Tryz.prog 226 #[.func (.yield l) #[] #[], .pointer (some ⟨Bs, 0, none⟩)] W fun e W' => (∃ v, e = .returned v) ∧
      ((∃ ys, ys = dwn V len len ∧ J ys W') ∨ (∃ pre, True ∧ Jx pre W')) := by
  refine callsIn_of_wp Tryz.func226 rfl trivial ?_ rfl
  simp only [Tryz.ntmps226, List.size_toArray, List.length_cons, List.length_nil, Nat.reduceAdd, Nat.reduceSub, Array.replicate_succ, Array.replicate_zero, List.push_toArray, List.append_toArray, List.nil_append, List.cons_append]
  have HY : Hid (∀ pre x W, J pre W → pre.length < len → YieldAt Fence.wide (n - 1) Tryz.prog l #[.int .i64 (x.1 : Int), .agg (enc x.2)] W fun e W' =>
      (e = .returned (.bool true) ∧ J (pre ++ [x]) W' ∧ Kr N r W W') ∨ (e = .returned (.bool false) ∧ Jx (pre ++ [x]) W')) := hY
  have HC : Hid (∀ k, k < len → ∀ j, j < 32 → W.cell? ⟨g, k * 32 + j, none⟩ = (enc (V k))[j]?) := hc
  have HB : Hid (W.cell? ⟨Bs, 0, none⟩ = some (.slice (some ⟨g, 0, none⟩) len cap)) := hBs
  clear hY hc
  gi_wp2
  gi_loopw [3] (fun i wr => ∃ k : Nat, k ≤ len ∧ i = .int .i64 ((len : Int) - 1 - k) ∧ J (dwn V len k) wr ∧ Kr N r W wr)
    (fun i _ => (intOf i + 1).toNat)
  case atStart => exact ⟨0, Nat.zero_le _, by simp, h0, fun _ _ _ => rfl⟩
  case round =>
    obtain ⟨k, hk, rfl, hJs, hnx⟩ := hrel
    have hb3 : wr.cell? ⟨Bs, 0, none⟩ = some (.slice (some ⟨g, 0, none⟩) len cap) := (hnx.cell (p := ⟨Bs, 0, none⟩) hB.1 hB.2).trans HB.out
    clear hBs
    by_cases hlt : k < len
    · have HC3 : Hid (∀ j, j < 32 → wr.cell? ⟨g, (len - 1 - k) * 32 + j, none⟩ = (enc (V (len - 1 - k)))[j]?) := fun j hj => (hnx.cell (p := ⟨g, (len - 1 - k) * 32 + j, none⟩) hg.1 hg.2).trans (HC.out (len - 1 - k) (by omega) j hj)
      have he : (len : Int) - 1 - k = ((len - 1 - k : Nat) : Int) := by omega
      obtain ⟨fn, tmps, assign, body, hy, hR⟩ := HY.out _ (len - 1 - k, V (len - 1 - k)) wr hJs (by rw [dwn_len]; exact hlt)
      dsimp only at hy
      have HS : Hid ((len - 1 - k) < len) := by show _ < _; omega
      rw [he]
      obtain ⟨m, hm⟩ : ∃ m, m = len - 1 - k := ⟨_, rfl⟩
      rw [← hm] at HC3 hy hR HS ⊢
      have HM : Hid (m = len - 1 - k) := hm
      have hm1 := HS.out
      have hmi : (m : Int) < (len : Int) := by omega
      clear hm he
      gi_wp2_with (refine wplIn_load_at rfl (.tmp 15) 69 32 rfl Tryz.isAgg69 Tryz.sizeOf69 g (m * 32) rfl (enc (V m)) (henc _) HC3.out ?_)
      refine hR.mono ?_
      rintro e W3 (⟨rfl, hJ3, hk3⟩ | ⟨rfl, hJx3⟩)
      · gi_wp2
        go_roundw
        case rel => exact ⟨k + 1, by omega, by have := HM.out; simp only [Value.int.injEq, true_and]; omega, by rw [dwn_succ, ← HM.out]; exact hJ3, hnx.tr hk3⟩
        case measure => have := HM.out; simp [intOf]
      · gi_wp2
        refine bodyPost_ret (results_none rfl _ _ _) rfl ?_
        exact ⟨⟨_, rfl⟩, .inr ⟨_, trivial, hJx3⟩⟩
    · obtain rfl : k = len := by omega
      have he : (k : Int) - 1 - k = -1 := by omega
      rw [he]
      gi_wp2
      go_end0
      exact ⟨⟨_, rfl⟩, .inl ⟨_, rfl, hJs⟩⟩
theorem backh_stops {β : Type} (enc : β → Array Value) (henc : ∀ x, (enc x).size = 32) (n : Nat) (hn : 1 ≤ n) (Bs N r g len cap : Nat) (V : Nat → β) (hreach : len ≤ 1048576) (hg : g < N ∧ g ≠ r) (hB : Bs < N ∧ Bs ≠ r) (w : World) (hN : N ≤ w.heap.size)
    (hBs : w.cell? ⟨Bs, 0, none⟩ = some (.slice (some ⟨g, 0, none⟩) len cap)) (hc : ∀ k, k < len → ∀ j, j < 32 → w.cell? ⟨g, k * 32 + j, none⟩ = (enc (V k))[j]?) :
    SeqStopsK Fence.wide n Tryz.prog 226 #[.pointer (some ⟨Bs, 0, none⟩)] (fun x : Nat × β => #[Value.int .i64 (x.1 : Int), .agg (enc x.2)]) (Kr N r) (fun ys => ys = dwn V len len) (fun _ => True) len w := fun l J Jx W hW _ _ hY h0 =>
  backh_in enc henc n hn l Bs N r g len cap V hreach hg hB J Jx hY W ((hW.cell (p := ⟨Bs, 0, none⟩) (by show Bs < _; omega)).trans hBs) (fun k hk j hj => (hW.cell (p := ⟨g, k * 32 + j, none⟩) (by show g < _; omega)).trans (hc k hk j hj)) h0
theorem backh_any (a : Option Addr) (n c : Nat) (w : World) :
    Calls Tryz.prog 210 #[.slice a n c] w fun e w' => e = .returned (.func (.func 226) #[] #[.pointer (some ⟨w.heap.size, 0, none⟩)]) ∧ w' = w.alloc (.cells #[.slice a n c] 45) := by
  go_enter Tryz.func210, Tryz.ntmps210
  go_wp2
  go_ret
  exact ⟨rfl, rfl⟩
/- TREES -/
/- LAW -/
/-- A loop over slices.Backward whose body turns one block. -/
theorem back_law {β : Type} {enc : β → Array Value} {tt th : TypeId} {P : Program} {g : Operand} {d1 d2 d3 : Nat} {i1 i2 kb : Nat} {o1 o2 : List Oper} {Q : Exit → Act → World → Prop} {a : Act} {w : World} {gf Bs len : Nat} {V : Nat → β} {r : Nat}
    (hg : a.eval g = .func (.func gf) #[] #[.pointer (some ⟨Bs, 0, none⟩)]) (eg : ∀ args w, (callFunc gf args).run P w = .ok (.enter gf args) w)
    (hseq : SeqStopsK Fence.wide 4 P gf #[.pointer (some ⟨Bs, 0, none⟩)] (fun x : Nat × β => #[Value.int .i64 (x.1 : Int), .agg (enc x.2)]) (Kr w.heap.size r) (fun ys => ys = dwn V len len) (fun _ => True) len w)
    (R : List (Nat × β) → Array Value) (hr : r < w.heap.size) (h0 : w.heap[r]? = some (.cells (R []) th))
    (nd1 : ∀ o ∈ o1, ∀ c, o.op ≠ .defer c) (nd2 : ∀ o ∈ o2, ∀ c, o.op ≠ .defer c)
    (hassign : ∀ (x : Nat × β) (W : World) (K : Act → World → Prop), (∀ W', W'.heap[W.heap.size]? = some (.cells (enc x.2) tt) → Nw W W' → K { tmps := ((a.tmps.setIfInBounds d1 (.int .i64 (x.1 : Int))).setIfInBounds d2 (.agg (enc x.2))).setIfInBounds d3 (.pointer (some ⟨W.heap.size, 0, none⟩)), defers := [] } W') →
      wpList P o1.toArray (Exit.then K (fun _ _ _ => False)) o1 { tmps := (a.tmps.setIfInBounds d1 (.int .i64 (x.1 : Int))).setIfInBounds d2 (.agg (enc x.2)), defers := [] } W)
    (hbody : ∀ (pre : List (Nat × β)) (x : Nat × β) (Bx : Nat) (W : World) (Q' : Exit → Act → World → Prop), w.heap.size ≤ Bx → W.heap[Bx]? = some (.cells (enc x.2) tt) → W.heap[r]? = some (.cells (R pre) th) → Fr (fun k => k = r) w W →
      (∀ a' W', W'.heap[r]? = some (.cells (R (pre ++ [x])) th) → Fr (fun k => k = r) W W' → Q' .normal a' W') →
      wpList P o2.toArray Q' o2 { tmps := ((a.tmps.setIfInBounds d1 (.int .i64 (x.1 : Int))).setIfInBounds d2 (.agg (enc x.2))).setIfInBounds d3 (.pointer (some ⟨Bx, 0, none⟩)), defers := [] } W)
    (hdone : ∀ (D : Nat) (W : World), w.heap.size ≤ D → W.heap[r]? = some (.cells (R (dwn V len len)) th) → Fr (fun k => k = r) w W → W.heap[D]? = some (.deferred (some [])) → Q .normal { a with defers := { target := .collected D, args := #[] } :: a.defers } W) :
    (Code.rangeFunc g #[d1, d2] (Code.region i1 o1.toArray false) (Code.block kb (Code.region i2 o2.toArray false))).wp P Q a w := by
  have kF : ∀ {A B : World}, w.heap.size ≤ A.heap.size → Fr (fun k => k = r) A B → KeepsFrom w.heap.size A B := fun hs f => ⟨f.size, fun k o hB hk _ => (f.block k (Array.getElem?_eq_some_iff.1 hk).1 (fun e => by omega)).trans hk⟩
  refine wpIn_wide.1 (wpIn_rangeFunc_ownH (F := Fence.wide) (n := 5) rfl (by omega) hg trivial eg hseq Kr.tr (fun W l o o' h1 h2 h3 h4 => Kr.put W l o o' h1 h2 h3 h4) (Below.refl _ _) (fun _ => rfl)
    (fun pre W => W.heap[r]? = some (.cells (R pre) th) ∧ Fr (fun k => k = r) w W) (fun _ _ _ => False) ?hI (fun _ _ _ _ _ hs _ _ => hs) ⟨h0, Fr.refl _ _⟩
    (fun x a' W => ∃ Bx, w.heap.size ≤ Bx ∧ W.heap[Bx]? = some (.cells (enc x.2) tt) ∧ a' = { tmps := ((a.tmps.setIfInBounds d1 (.int .i64 (x.1 : Int))).setIfInBounds d2 (.agg (enc x.2))).setIfInBounds d3 (.pointer (some ⟨Bx, 0, none⟩)), defers := [] }) ?hAx ?assign ?body ?done ?stop)
  case hI =>
    intro s A B row hs hg' hrow
    refine ⟨(hg'.block r (heap_lt hs.1) (fun e => ?_)).trans hs.1, hs.2.grown hg' (fun k e hk => ?_)⟩
    · have := (hrow r e.symm).1; omega
    · have := (hrow k e).1; omega
  case hAx =>
    rintro x a' _ A B row ⟨Bx, h1, h2, h3⟩ hg' hrow
    refine ⟨Bx, h1, ?_, h3⟩
    exact (grownBy_keeps_cells hg' (fun k e => (hrow k e).2) h2 rfl).trans h2
  case assign =>
    rintro l pre x W K ⟨hi1, hi2⟩ hK
    have ez : ((#[d1, d2].zip #[Value.int .i64 (x.1 : Int), .agg (enc x.2)]).foldl (fun t (p, v) => t.setIfInBounds p v) a.tmps) = (a.tmps.setIfInBounds d1 (.int .i64 (x.1 : Int))).setIfInBounds d2 (.agg (enc x.2)) := by simp
    rw [ez]
    refine wpIn_region_lit (list_in (fun ⟨_, _, h⟩ => h) o1 nd1 _ _ (hassign x W K ?_))
    intro W' hb hn
    have hn' : Fr (fun k => k = r) W W' := hn.mono (fun _ _ f => f.elim)
    exact hK _ _ (kF hi2.size hn') (Kr.of hn' hi2.size (fun k _ e => e)) ⟨(hn.block r (heap_lt hi1) (fun f => f)).trans hi1, hi2.trans hn (fun _ _ f => f.elim)⟩ ⟨W.heap.size, hi2.size, hb, rfl⟩
  case body =>
    rintro l pre x a' W hl _ ⟨hi1, hi2⟩ ⟨Bx, h1, h2, rfl⟩ hlt
    refine wpIn_block (wpIn_region_lit (list_in ?_ o2 nd2 _ _ (hbody pre x Bx W _ h1 h2 hi1 hi2 ?_)))
    · rintro ⟨_, _, h⟩; exact h
    · intro a2 W2 q1 q2
      exact ⟨kF hi2.size q2, Kr.of q2 hi2.size (fun k _ e => e), q1, hi2.trans q2 (fun _ _ e => e)⟩
  case done =>
    rintro D ys W hD rfl ⟨hi1, hi2⟩ hK
    exact hdone D W hD hi1 hi2 hK
  case stop =>
    rintro D c pre W _ _ h _
    exact h.elim
end Go.Proofs.YtjkhcplnedcmeaaGreatDoor
