/- The document's cache in memory; a thing becomes the newest. -/
import Derived.Test.YtgdjoaiahigjpaaGreatDoorTq
import Derived.Test.YtgdjoaiahigjpaaGreatDoorIx1
import Derived.Test.YtgdjoaiahigjpaaGreatDoorKh
import Derived.Deep.AppendSrc
import Derived.Laws.AppendOwn
import Derived.WalkSmall
import Derived.Deep.DeepCutAuto
namespace Go.Proofs.YtgdjoaiahigjpaaGreatDoor
namespace RC
open Go.RowKit
set_option linter.unusedVariables false
set_option linter.unusedSimpArgs false
abbrev LT := List (Int × Int)
def flI : LT → List Value
  | [] => []
  | x :: r => .int .i64 x.1 :: .int .i64 x.2 :: flI r
theorem flI_len : ∀ L : LT, (flI L).length = L.length * 2
  | [] => rfl
  | x :: r => by simp only [flI, List.length_cons, flI_len r]; omega
theorem flI_app : ∀ (L M : LT), flI (L ++ M) = flI L ++ flI M
  | [], M => rfl
  | y :: r, M => by simp only [List.cons_append, flI, flI_app r M]
theorem flI_one : ∀ (L : LT), ∀ u ∈ flI L, u.oneCell' = true
  | [], u, h => by simp [flI] at h
  | x :: r, u, h => by
    simp only [flI, List.mem_cons] at h
    rcases h with rfl | rfl | h
    · rfl
    · rfl
    · exact flI_one r u h
theorem flI_at : ∀ (L : LT) (j : Nat) (x : Int × Int), L[j]? = some x → (flI L)[j * 2]? = some (.int .i64 x.1) ∧ (flI L)[j * 2 + 1]? = some (.int .i64 x.2)
  | [], j, x, h => by simp at h
  | y :: r, 0, x, h => by simp at h; subst h; simp [flI]
  | y :: r, j + 1, x, h => by
    have e : (j + 1) * 2 = (j * 2 + 1) + 1 := by omega
    have q := flI_at r j x (by simpa using h)
    rw [e]
    simp only [flI, List.getElem?_cons_succ]
    exact q
theorem flI_take : ∀ (L : LT) (i : Nat), flI (L.take i) = (flI L).take (i * 2)
  | [], i => by simp [flI]
  | y :: r, 0 => by simp [flI]
  | y :: r, i + 1 => by
    have e : (i + 1) * 2 = (i * 2 + 1) + 1 := by omega
    rw [e]
    simp only [List.take_succ_cons, flI, flI_take r i]
theorem flI_drop : ∀ (L : LT) (i : Nat), flI (L.drop i) = (flI L).drop (i * 2)
  | [], i => by simp [flI]
  | y :: r, 0 => by simp [flI]
  | y :: r, i + 1 => by
    have e : (i + 1) * 2 = (i * 2 + 1) + 1 := by omega
    rw [e]
    simp only [List.drop_succ_cons, flI, flI_drop r i]
/-- Items in memory, in a block among S that is not b. -/
def Iw (w : World) (S : Nat → Prop) (b : Nat) (va : Option Addr) (vc : Nat) (L : LT) : Prop :=
  (va = none ∧ vc = 0 ∧ L = []) ∨ ∃ g, va = some ⟨g, 0, none⟩ ∧ S g ∧ g ≠ b ∧ g < w.heap.size ∧ L.length ≤ vc ∧ ∀ j u, (flI L)[j]? = some u → w.cell? ((⟨g, 0, none⟩ : Addr).add j) = some u
theorem Iw.cell {w : World} {S : Nat → Prop} {b : Nat} {va : Option Addr} {vc : Nat} {L : LT} (h : Iw w S b va vc L) {j : Nat} {x : Int × Int} (hx : L[j]? = some x) : ∃ g, va = some ⟨g, 0, none⟩ ∧ w.cell? ⟨g, j * 2, none⟩ = some (.int .i64 x.1) ∧ w.cell? ⟨g, j * 2 + 1, none⟩ = some (.int .i64 x.2) := by
  rcases h with ⟨_, _, rfl⟩ | ⟨g, rfl, _, _, _, _, hc⟩
  · simp at hx
  · obtain ⟨q1, q2⟩ := flI_at L j x hx
    have a1 := hc _ _ q1
    have a2 := hc _ _ q2
    rw [addO, Nat.zero_add] at a1 a2
    exact ⟨g, rfl, a1, a2⟩
theorem Iw.fr {w w' : World} {S T : Nat → Prop} {b : Nat} {va : Option Addr} {vc : Nat} {L : LT} (h : Iw w S b va vc L) (f : Fr T w w') (hT : ∀ k, k < w.heap.size → S k → k ≠ b → ¬ T k) : Iw w' S b va vc L := by
  rcases h with h | ⟨g, e, h1, h2, h3, h4, hc⟩
  · exact .inl h
  · exact .inr ⟨g, e, h1, h2, Nat.lt_of_lt_of_le h3 f.size, h4, fun j u hj => by have := hc j u hj; rw [addO] at this ⊢; exact (f.cell h3 (hT g h3 h1 h2)).trans this⟩
theorem Iw.mono {w : World} {S S' : Nat → Prop} {b : Nat} {va : Option Addr} {vc : Nat} {L : LT} (h : Iw w S b va vc L) (hS : ∀ k, k < w.heap.size → S k → S' k) : Iw w S' b va vc L := by
  rcases h with h | ⟨g, e, h1, h2, h3, h4, hc⟩
  · exact .inl h
  · exact .inr ⟨g, e, hS g h3 h1, h2, h3, h4, hc⟩
abbrev dcc (most : Nat) (v : Value) : Obj := .cells #[.int .i64 (most : Int), v] 50
/-- The document's cache. -/
def Dc (W : World) (S : Nat → Prop) (b most : Nat) (L : LT) : Prop :=
  ∃ va vc, W.heap[b]? = some (dcc most (.slice va L.length vc)) ∧ Iw W S b va vc L ∧ S b
theorem Dc.fr {W W' : World} {S T : Nat → Prop} {b most : Nat} {L : LT} (h : Dc W S b most L) (f : Fr T W W') (hT : ∀ k, k < W.heap.size → S k → ¬ T k) : Dc W' S b most L := by
  obtain ⟨va, vc, h1, h2, h3⟩ := h
  exact ⟨va, vc, (f.block _ (heap_lt h1) (hT _ (heap_lt h1) h3)).trans h1, h2.fr f (fun k a b _ => hT k a b), h3⟩
theorem Dc.nw {W W' : World} {S : Nat → Prop} {b most : Nat} {L : LT} (h : Dc W S b most L) (f : Nw W W') : Dc W' S b most L := h.fr f (fun _ _ _ e => e)
theorem Dc.mono {W : World} {S S' : Nat → Prop} {b most : Nat} {L : LT} (h : Dc W S b most L) (hS : ∀ k, k < W.heap.size → S k → S' k) : Dc W S' b most L := by
  obtain ⟨va, vc, h1, h2, h3⟩ := h
  exact ⟨va, vc, h1, h2.mono hS, hS _ (heap_lt h1) h3⟩
/-- A row of one's own as items. -/
theorem Iw.own {w : World} {base b : Nat} {S : Nat → Prop} {v : Value} {L : LT} (h : w.ownsRow base 84 2 v L.length (flI L)) (hb : b < base) (hS : ∀ k, base ≤ k → S k) : ∃ va vc, v = .slice va L.length vc ∧ Iw w S b va vc L := by
  rcases h.2 with ⟨rfl, h0⟩ | ⟨g, cap, cur, rfl, hg, hh, hn, _⟩
  · exact ⟨none, 0, by rw [h0], .inl ⟨rfl, rfl, List.length_eq_zero_iff.1 h0⟩⟩
  · exact ⟨_, _, rfl, .inr ⟨g, rfl, hS g hg, by omega, heap_lt hh, hn, h.cells (g := g) rfl⟩⟩
theorem run_append_none {P : Program} (w : World) (t ty e : TypeId) (i : TypeInfo) (ht : P.underlying t = some (.slice e)) (hi : P.info? e = some i) {base size : Nat} {v : Value} {n : Nat} {xs : List Value} (hown : w.ownsRow base e size v n xs) :
    (Builtin.append_ #[t, t] ty #[v, .slice none 0 0]).run P w = .ok v w := by
  have hsrc : Src P i.size t (.slice none 0 0) 0 [] w := Src.ofNil w ht 0
  rcases hown.2 with ⟨rfl, rfl⟩ | ⟨g, cap, cur, rfl, _, _, hnc, _⟩
  · rcases hsrc.kind with ⟨e', hk⟩ | hk <;> simp [Builtin.append_, run_underlying ht, run_underlying hk, sizeOf, typeInfo, hi, hsrc.len, hsrc.cells, storeCells]
  · have hr := run_append_room_src (P := P) w t t ty e i ht hi g 0 n cap (.slice none 0 0) 0 [] hsrc (by omega) (fun j hj => by simp at hj) (fun j hj => by simp at hj)
    simpa [World.setCells] using hr
theorem infoI : (Tryz.prog.info? 84).map (fun i => (i.zero, i.size, i.bytes)) = some (some (.agg #[.int .i64 0, .int .i64 0]), 2, 16) := by kernel_rfl
/-- Items appended to a row of one's own: whatever they lie in. -/
theorem run_items (w : World) (base : Nat) (ty : TypeId) (v : Value) (A : LT) (hown : w.ownsRow base 84 2 v A.length (flI A)) (S : Nat → Prop) (b : Nat) (va : Option Addr) (vc : Nat) (L : LT) (hL : Iw w S b va vc L) (hl : A.length + L.length ≤ 1000000) (hbase : base ≤ w.heap.size) :
    ∃ v' w', (Builtin.append_ #[48, 48] ty #[v, .slice va L.length vc]).run Tryz.prog w = .ok v' w' ∧ w'.ownsRow base 84 2 v' (A ++ L).length (flI (A ++ L)) ∧ Fr (fun k => v.ownBlock = some k) w w' := by
  obtain ⟨i0, hi, hz0, hz1, hz2⟩ := IB.info_parts infoI
  rcases hL with ⟨rfl, rfl, rfl⟩ | ⟨g, rfl, _, _, _, _, hc⟩
  · exact ⟨v, w, run_append_none w _ ty _ i0 Tryz.underlying48 hi hown, by rw [List.append_nil]; exact hown, Fr.refl _ _⟩
  · obtain ⟨v', w', hr, ho, ht⟩ := run_two w base 48 ty 84 i0 (.agg #[.int .i64 0, .int .i64 0]) 2 16 Tryz.underlying48 hi hz0 hz1 hz2 rfl (by decide) v A.length (flI A) hown ⟨g, 0, none⟩ L.length vc (flI L) (flI_len L) hc (flI_one L) (by unfold maxLen; omega) (by omega) hbase
    exact ⟨v', w', hr, by rw [List.length_append, flI_app]; exact ho, ht.fr⟩
theorem step_items {ops : Array Oper} {o : Oper} {a : Act} {w : World} {K : Act → World → Prop} {Q : Exit → Act → World → Prop} {E : Prop}
    (hg : o.guard = none) (s x : Operand) (hop : o.op = Op.call { callee := Callee.builtin Builtin.append, args := #[s, x], argTypes := #[48, 48] })
    (base : Nat) (v : Value) (A : LT) (hs : a.eval s = v) (hown : w.ownsRow base 84 2 v A.length (flI A)) (S : Nat → Prop) (b : Nat) (va : Option Addr) (vc n : Nat) (L : LT) (hx : a.eval x = .slice va n vc) (hn : n = L.length) (hL : Iw w S b va vc L) (hl : A.length + L.length ≤ 1000000) (hbase : base ≤ w.heap.size)
    (hK : ∀ v' w', w'.ownsRow base 84 2 v' (A ++ L).length (flI (A ++ L)) → Fr (fun k => v.ownBlock = some k) w w' → K (a.put o.dst v') w') :
    if Region.wanted o (yielded ops a.tmps) = true then Oper.wp Tryz.prog o a w K Q else E := by
  subst hn
  have hw : Region.wanted o (yielded ops a.tmps) = true := by simp [Region.wanted, hg]
  rw [if_pos hw]
  obtain ⟨v', w', hr, ho, hf⟩ := run_items w base o.type v A hown S b va vc L hL hl hbase
  unfold Oper.wp execOp
  simp only [hop, resolve, invoke, builtin, Sem.run_bind, Sem.run_pure, Result.andThen_ok, List.map_toArray, List.map_cons, List.map_nil, hs, hx, hr]
  exact hK _ _ ho hf
theorem wpl_items {w : World} {ops : Array Oper} {rest : List Oper} {o : Oper} {a : Act} {Q : Exit → Act → World → Prop} (hgd : o.guard = none) (s x : Operand)
    (ho : o.op = .call { callee := .builtin .append, args := #[s, x], argTypes := #[48, 48] })
    (base : Nat) (v : Value) (A : LT) (hs : a.eval s = v) (hown : w.ownsRow base 84 2 v A.length (flI A)) (S : Nat → Prop) (b : Nat) (va : Option Addr) (vc n : Nat) (L : LT) (hx : a.eval x = .slice va n vc) (hn : n = L.length) (hL : Iw w S b va vc L) (hl : A.length + L.length ≤ 1000000) (hbase : base ≤ w.heap.size)
    (h : ∀ v' w', w'.ownsRow base 84 2 v' (A ++ L).length (flI (A ++ L)) → Fr (fun k => v.ownBlock = some k) w w' → wpList Tryz.prog ops Q rest (a.put o.dst v') w') :
    wpList Tryz.prog ops Q (o :: rest) a w := by
  subst hn
  refine wpList_plain hgd fun K hK => ?_
  obtain ⟨v', w', hr, h2, h3⟩ := run_items w base o.type v A hown S b va vc L hL hl hbase
  unfold Oper.wp execOp
  simp only [ho, resolve, invoke, builtin, Sem.run_bind, Sem.run_pure, Result.andThen_ok, List.map_toArray, List.map_cons, List.map_nil, hs, hx, hr]
  exact hK _ _ (h v' w' h2 h3)
theorem item_own (w : World) (x y : Int) : (w.alloc (.cells #[.int .i64 x, .int .i64 y] 84)).ownsRow w.heap.size 84 2 (.slice (some ⟨w.heap.size, 0, none⟩) 1 1) 1 (flI [(x, y)]) := by
  refine ⟨rfl, .inr ⟨w.heap.size, 1, #[.int .i64 x, .int .i64 y], rfl, Nat.le_refl _, heap_new _ _, ?_⟩⟩
  refine ⟨by decide, by decide, rfl, rfl⟩
end RC
end Go.Proofs.YtgdjoaiahigjpaaGreatDoor
