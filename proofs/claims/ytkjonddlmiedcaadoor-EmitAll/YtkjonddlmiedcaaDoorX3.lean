/- compact: a range in memory; a tree is pushed. -/
import Derived.Test.YtkjonddlmiedcaaDoorX2
import Derived.Test.YtkjonddlmiedcaaDoorTw
import Derived.Deep.RegionHeld
namespace Go.Proofs.YtkjonddlmiedcaaDoor
open Go.RowKit
set_option linter.unusedVariables false
set_option linter.unusedSimpArgs false
/-- What join gives: the tree of both, or none. -/
def jz (a b : Tre) : Tre := if Sib a b then both a b else zt
theorem jz32 (a b : Tre) : (jz a b).H.length = 32 := by
  unfold jz
  split
  · exact nod_len _ _
  · simp
def tsc (T : List Tre) : List Value := T.flatMap fun t => t.c.toList
theorem tsc_app (l m : List Tre) : tsc (l ++ m) = tsc l ++ tsc m := by simp [tsc]
theorem tsc_one (t : Tre) : tsc [t] = t.c.toList := by simp [tsc]
theorem tsc_len : ∀ (l : List Tre), (∀ t ∈ l, t.ok) → (tsc l).length = l.length * 34
  | [], _ => rfl
  | h :: r, hl => by
    have := tsc_len r (fun x hx => hl x (by simp [hx]))
    have h1 := Tre.size (hl h (by simp)).h32
    simp only [tsc, List.flatMap_cons, List.length_append, Array.length_toList, h1, List.length_cons] at this ⊢
    omega
theorem tsc_get : ∀ (l : List Tre), (∀ t ∈ l, t.ok) → ∀ (k : Nat) (t : Tre), l[k]? = some t → ∀ j, j < 34 → (tsc l)[k * 34 + j]? = t.c[j]?
  | [], _, k, h, hk, j, hj => by simp at hk
  | x :: r, hl, 0, h, hk, j, hj => by
    simp at hk; subst hk
    have h1 := Tre.size (hl x (by simp)).h32
    simp only [tsc, List.flatMap_cons, Nat.zero_mul, Nat.zero_add]
    rw [List.getElem?_append_left (by rw [Array.length_toList]; omega)]
    simp
  | x :: r, hl, k + 1, h, hk, j, hj => by
    have h1 := Tre.size (hl x (by simp)).h32
    have ih := tsc_get r (fun y hy => hl y (by simp [hy])) k h (by simpa using hk) j hj
    simp only [tsc, List.flatMap_cons] at ih ⊢
    rw [List.getElem?_append_right (by rw [Array.length_toList]; omega), Array.length_toList, h1]
    have e : (k + 1) * 34 + j - 34 = k * 34 + j := by omega
    rw [e]; exact ih
theorem tsc_take : ∀ (l : List Tre), (∀ t ∈ l, t.ok) → ∀ k, (tsc l).take (k * 34) = tsc (l.take k)
  | [], _, k => by simp [tsc]
  | x :: r, hl, 0 => by simp [tsc]
  | x :: r, hl, k + 1 => by
    have h1 := Tre.size (hl x (by simp)).h32
    have ih := tsc_take r (fun y hy => hl y (by simp [hy])) k
    simp only [tsc, List.flatMap_cons, List.take_succ_cons] at ih ⊢
    rw [← ih, List.take_append, Array.length_toList, h1, List.take_of_length_le (by rw [Array.length_toList]; omega)]
    congr 2
    omega
/-- A slice literal of one thing, as one step of a statement whose order is drawn. -/
theorem step_build1 {P : Program} {ops : Array Oper} {o : Oper} {a : Act} {w : World} {K : Act → World → Prop} {Q : Exit → Act → World → Prop} {E : Prop} (hgd : o.guard = none) (x : Operand) (ts te : TypeId) (ho : o.op = .buildSlice ts 1 #[(0, x)]) (V : Array Value) (hx : a.eval x = .agg V)
    (hb : ∀ W : World, (Instr.buildSlice ts 1 #[(0, .agg V)]).run P W = .ok (.slice (some ⟨W.heap.size, 0, none⟩) 1 1) (W.alloc (.cells V te)))
    (h : K (a.put o.dst (.slice (some ⟨w.heap.size, 0, none⟩) 1 1)) (w.alloc (.cells V te))) : if Region.wanted o (yielded ops a.tmps) = true then Oper.wp P o a w K Q else E := by
  have hw : Region.wanted o (yielded ops a.tmps) = true := by simp [Region.wanted, hgd]
  rw [if_pos hw]
  unfold Oper.wp execOp
  simp only [ho, Sem.run_bind, Sem.run_pure, Result.andThen_ok, List.map_toArray, List.map_cons, List.map_nil, hx, hb]
  exact h
/-- A thing loaded whole, as one step of a statement whose order is drawn. -/
theorem step_load_at {P : Program} {ops : Array Oper} {o : Oper} {a : Act} {w : World} {K : Act → World → Prop} {Q : Exit → Act → World → Prop} {E : Prop} (hgd : o.guard = none) (x : Operand) (t : TypeId) (n : Nat) (ho : o.op = .load t x)
    (hagg : ∀ W : World, (isAgg t).run P W = .ok true W) (hsz : ∀ W : World, (sizeOf t).run P W = .ok n W) (g off : Nat) (hx : a.eval x = .pointer (some ⟨g, off, none⟩))
    (V : Array Value) (hV : V.size = n) (hc : ∀ j, j < n → w.cell? ⟨g, off + j, none⟩ = V[j]?)
    (h : K (a.put o.dst (.agg V)) w) : if Region.wanted o (yielded ops a.tmps) = true then Oper.wp P o a w K Q else E := by
  have hw : Region.wanted o (yielded ops a.tmps) = true := by simp [Region.wanted, hgd]
  rw [if_pos hw]
  have hl : (loadCells ⟨g, off, none⟩ n).run P w = .ok V w := by
    have := run_loadCells_list (P := P) w ⟨g, off, none⟩ V.toList (fun j v hv => by
      have hj : j < n := by
        have := (List.getElem?_eq_some_iff.1 hv).1
        simpa [hV] using this
      rw [addO, hc j hj]
      simpa using hv)
    simpa [hV] using this
  unfold Oper.wp execOp
  simp only [ho, hx, Instr.loadAt, sure, loadVar, Sem.run_bind, Sem.run_pure, hagg, hsz, hl, Result.andThen_ok, if_true]
  exact h
/-- A thing put in another's place, as one of the steps that may come up. -/
theorem ready_store {P : Program} {md : Region.Mode} {ops : Array Oper} {Q : Exit → Act → World → Prop} {S : World → Prop} {fuel : Nat} {listed : Array Bool} {a : Act} {w : World} {i : Nat} {o : Oper} {rs : List Nat} (ho : ops[i]? = some o) (hgd : o.guard = none) (x v : Operand) (t : TypeId) (n : Nat) (hop : o.op = .store t x v)
    (hsz : ∀ W : World, (sizeOf t).run P W = .ok n W) (g : Nat) (hx : a.eval x = .pointer (some ⟨g, 0, none⟩)) (U : Array Value) (ty : TypeId) (hg : w.heap[g]? = some (.cells U ty (0, 0))) (Z : Array Value) (hv : a.eval v = .agg Z) (hz : Z.size = n) (h1 : ∀ u ∈ Z.toList, u.oneCell' = true) (hu : U.size = n)
    (h : ∀ w', w'.heap[g]? = some (.cells Z ty (0, 0)) → Fr (fun k => k = g) w w' → S w' ∧ (S w' → wpAnyH P md ops Q S fuel (listed.setIfInBounds i true) (a.put o.dst undef) w')) (hs : AllReadyH P md ops Q S fuel listed a w rs) : AllReadyH P md ops Q S fuel listed a w (i :: rs) :=
  AllReadyH.cons ho (fun K' hK => step_store_agg hgd x v t n hop hsz g 0 hx U ty hg Z hv hz h1 (by rw [hu]; omega) Z (by rw [dropAll hu]; simp) (fun w' q1 q2 _ => hK.out _ _ (h w' q1 q2).1 (h w' q1 q2).2)) hs
/-- A tree is pushed onto a stack (its top ahead). -/
def pshR : List Tre → Tre → List Tre
  | [], t => [t]
  | x :: r, t => if Sib x t then pshR r (both x t) else t :: x :: r
def psh (T : List Tre) (t : Tre) : List Tre := (pshR T.reverse t).reverse
theorem psh_nil (t : Tre) : psh [] t = [t] := rfl
theorem psh_yes {T : List Tre} {x t : Tre} (h : Sib x t) : psh (T ++ [x]) t = psh T (both x t) := by simp [psh, pshR, h]
theorem psh_no {T : List Tre} {x t : Tre} (h : ¬ Sib x t) : psh (T ++ [x]) t = T ++ [x] ++ [t] := by simp [psh, pshR, h]
theorem psh_end {T : List Tre} {t : Tre} (h : ∀ x, T.getLast? = some x → ¬ Sib x t) : psh T t = T ++ [t] := by
  rcases List.eq_nil_or_concat T with rfl | ⟨r, x, rfl⟩
  · rfl
  · rw [List.concat_eq_append] at h ⊢
    exact psh_no (h x (by simp))
theorem pshR_ok : ∀ (T : List Tre) (t : Tre), (∀ x ∈ T, x.ok) → t.ok → ∀ x ∈ pshR T t, x.ok
  | [], t, _, ht, x, hx => by simp [pshR] at hx; rw [hx]; exact ht
  | y :: r, t, hT, ht, x, hx => by
    unfold pshR at hx
    split at hx
    · next hs => exact pshR_ok r _ (fun z hz => hT z (by simp [hz])) (both_ok (hT y (by simp)) hs) x hx
    · rcases List.mem_cons.1 hx with rfl | hx
      · exact ht
      · exact hT x hx
theorem psh_ok {T : List Tre} {t : Tre} (hT : ∀ x ∈ T, x.ok) (ht : t.ok) : ∀ x ∈ psh T t, x.ok := by
  intro x hx
  unfold psh at hx
  rw [List.mem_reverse] at hx
  exact pshR_ok T.reverse t (fun y hy => hT y (List.mem_reverse.1 hy)) ht x hx
end Go.Proofs.YtkjonddlmiedcaaDoor
