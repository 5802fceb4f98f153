/- Rows that are put together; what becomes of neighbours that are both halves of one. -/
import Derived.Test.YtibkmcmgolbhhaaDoorC9
import Derived.Test.YtibkmcmgolbhhaaDoorD2
import Derived.Test.YtibkmcmgolbhhaaDoorM3
import Derived.Deep.AppendSrc
import Derived.Laws.AppendOwn
import Derived.WalkSmall
namespace Go.Proofs.YtibkmcmgolbhhaaDoor
open Go.RowKit
set_option linter.unusedVariables false
set_option linter.unusedSimpArgs false

theorem run_append_none {P : Program} (w : World) (t ty e : TypeId) (i : TypeInfo) (ht : P.underlying t = some (.slice e)) (hi : P.info? e = some i) {base size : Nat} {v : Value} {n : Nat} {xs : List Value} (hown : w.ownsRow base e size v n xs) :
    (Builtin.append_ #[t, t] ty #[v, .slice none 0 0]).run P w = .ok v w := by
  have hsrc : Src P i.size t (.slice none 0 0) 0 [] w := Src.ofNil w ht 0
  rcases hown.2 with ⟨rfl, rfl⟩ | ⟨g, cap, cur, rfl, _, _, hnc, _⟩
  · rcases hsrc.kind with ⟨e', hk⟩ | hk <;> simp [Builtin.append_, run_underlying ht, run_underlying hk, sizeOf, typeInfo, hi, hsrc.len, hsrc.cells, storeCells]
  · have hr := run_append_room_src (P := P) w t t ty e i ht hi g 0 n cap (.slice none 0 0) 0 [] hsrc (by omega) (fun j hj => by simp at hj) (fun j hj => by simp at hj)
    simpa [World.setCells] using hr
theorem wpList_append_none {P : Program} {w : World} {ops : Array Oper} {rest : List Oper} {o : Oper} {a : Act} {Q : Exit → Act → World → Prop} (hgd : o.guard = none) (s x : Operand) (t : TypeId)
    (ho : o.op = .call { callee := .builtin .append, args := #[s, x], argTypes := #[t, t] }) (e : TypeId) (i : TypeInfo) (ht : P.underlying t = some (.slice e)) (hi : P.info? e = some i)
    {base size : Nat} (v : Value) {n : Nat} {xs : List Value} (hs : a.eval s = v) (hown : w.ownsRow base e size v n xs) (hx : a.eval x = .slice none 0 0)
    (h : wpList P ops Q rest (a.put o.dst v) w) : wpList P ops Q (o :: rest) a w := by
  refine wpList_plain hgd fun K hK => ?_
  have hr := run_append_none (P := P) w t o.type e i ht hi hown
  unfold Oper.wp execOp
  simp only [ho, resolve, invoke, builtin, Sem.run_bind, Sem.run_pure, Result.andThen_ok, List.map_toArray, List.map_cons, List.map_nil, hs, hx, hr]
  exact hK _ _ h

/- ### rows -/
theorem row_app : ∀ (l m : List (Nat × Nat)) (a b c : Nat), Row a b l → Row b c m → Row a c (l ++ m)
  | [], m, a, b, c, h, k => by have e : a = b := h; subst e; exact k
  | t :: r, m, a, b, c, h, k => ⟨h.1, row_app r m _ b c h.2 k⟩
theorem row_split : ∀ (l m : List (Nat × Nat)) (a c : Nat), Row a c (l ++ m) → ∃ b, Row a b l ∧ Row b c m
  | [], m, a, c, h => ⟨a, rfl, h⟩
  | t :: r, m, a, c, h => by
    obtain ⟨b, k1, k2⟩ := row_split r m _ c h.2
    exact ⟨b, ⟨h.1, k1⟩, k2⟩
theorem red_app_left : ∀ (l m : List (Nat × Nat)), Red (l ++ m) → Red l
  | [], m, _ => trivial
  | [t], m, _ => trivial
  | t :: u :: r, m, h => ⟨h.1, red_app_left (u :: r) m h.2⟩
theorem red_snoc : ∀ (l : List (Nat × Nat)) (u t : Nat × Nat), Red (l ++ [u]) → ¬ (u.1 = t.1 ∧ u.2 % 2 = 0) → Red (l ++ [u, t])
  | [], u, t, _, h => ⟨h, trivial⟩
  | [x], u, t, k, h => ⟨k.1, h, trivial⟩
  | x :: y :: r, u, t, k, h => ⟨k.1, red_snoc (y :: r) u t k.2 h⟩
/-- Two neighbours that have one parent. -/
theorem same_parent {q c : Nat} {u t : Nat × Nat} (hu : u.2 * 2 ^ u.1 + 2 ^ u.1 = q) (ht : t.2 * 2 ^ t.1 = q) (hL : u.1 = t.1) (hI : u.2 / 2 = t.2 / 2) :
    t.2 / 2 * 2 ^ (t.1 + 1) = u.2 * 2 ^ u.1 ∧ u.2 * 2 ^ u.1 + 2 ^ (t.1 + 1) = q + 2 ^ t.1 := by
  have h1 : t.2 = u.2 + 1 := by
    have h2 : t.2 * 2 ^ t.1 = (u.2 + 1) * 2 ^ t.1 := by rw [ht, ← hu, hL, Nat.add_mul, Nat.one_mul]
    exact Nat.eq_of_mul_eq_mul_right (Nat.two_pow_pos t.1) h2
  have he : u.2 % 2 = 0 := by omega
  have hs : 2 ^ (t.1 + 1) = 2 * 2 ^ t.1 := Nat.pow_succ'
  have hv : t.2 / 2 * 2 = u.2 := by omega
  constructor
  · rw [hs, ← Nat.mul_assoc, hv, hL]
  · rw [hs, ← hu, hL]; omega
theorem parents_meet {q : Nat} {u t : Nat × Nat} (hu : u.2 * 2 ^ u.1 + 2 ^ u.1 = q) (ht : t.2 * 2 ^ t.1 = q) (hmt : may t.1 t.2) (hL : u.1 = t.1) (he : u.2 % 2 = 0) : t.1 < 63 ∧ u.2 / 2 = t.2 / 2 := by
  have h1 : t.2 = u.2 + 1 := by
    have h2 : t.2 * 2 ^ t.1 = (u.2 + 1) * 2 ^ t.1 := by rw [ht, ← hu, hL, Nat.add_mul, Nat.one_mul]
    exact Nat.eq_of_mul_eq_mul_right (Nat.two_pow_pos t.1) h2
  refine ⟨?_, by omega⟩
  rcases Nat.lt_or_ge t.1 63 with k | k
  · exact k
  · exfalso
    have := hmt.1
    have e : t.1 = 63 := by omega
    have h3 := (may_lt hmt.1).1 hmt
    rw [e] at h3
    simp at h3
    omega

/-- One's own row behind which another one is put, nil or not. -/
theorem wpList_append_crd {w : World} {ops : Array Oper} {rest : List Oper} {o : Oper} {a : Act} {Q : Exit → Act → World → Prop} (hgd : o.guard = none) (s x : Operand)
    (ho : o.op = .call { callee := .builtin .append, args := #[s, x], argTypes := #[39, 39] }) (base : Nat)
    (v : Value) (l : List (Nat × Nat)) (hs : a.eval s = v) (hown : w.ownsRow base 24 2 v l.length (fl l)) (u : Value) (m : List (Nat × Nat)) (hx : a.eval x = u) {b2 : Nat} (hu : w.ownsRow b2 24 2 u m.length (fl m))
    (hn : l.length + m.length ≤ 1000) (hbase : base ≤ w.heap.size)
    (h : ∀ v' w', w'.ownsRow base 24 2 v' (l ++ m).length (fl (l ++ m)) → w.grownBy w' v.ownBlock → wpList Tryd.prog ops Q rest (a.put o.dst v') w') : wpList Tryd.prog ops Q (o :: rest) a w := by
  obtain ⟨i0, hi, hz0, hz1, hz2⟩ := info_parts infoC
  rcases hu.2 with ⟨rfl, hm⟩ | ⟨g, cap, cur, rfl, _⟩
  · have hm0 : m = [] := List.length_eq_zero_iff.1 hm
    subst hm0
    refine wpList_append_none hgd s x _ ho _ i0 Tryd.underlying39 hi v hs hown hx ?_
    refine h v w ?_ ⟨rfl, rfl, rfl, Nat.le_refl _, fun _ _ _ => rfl⟩
    rw [List.append_nil]
    exact hown
  · refine wpList_append_own w hgd s x _ ho base _ i0 (cd 0 0) 2 16 Tryd.underlying39 hi hz0 hz1 hz2 rfl (by decide) v l.length (fl l) hs hown ⟨g, 0, none⟩ m.length cap (fl m) hx (fl_len m) (hu.cells (g := g) rfl) (fl_one m) (by unfold maxLen; omega) (by omega) hbase ?_
    intro v' w' h1 h2 _
    refine h v' w' ?_ h2
    rw [List.length_append, fl_app]
    exact h1
/-- An append to memory of the call's own, as one step of a statement whose order is drawn. -/
theorem step_append_own {P : Program} {ops : Array Oper} {o : Oper} {a : Act} {w : World} {K : Act → World → Prop} {Q : Exit → Act → World → Prop} {E : Prop}
    (hg : o.guard = none) (s x : Operand) (t : TypeId) (hop : o.op = Op.call { callee := Callee.builtin Builtin.append, args := #[s, x], argTypes := #[t, t] })
    (base : Nat) (e : TypeId) (i : TypeInfo) (z : Value) (size bytes : Nat) (ht : P.underlying t = some (.slice e)) (hi : P.info? e = some i) (hz : i.zero = some z) (hsize : i.size = size) (hby : i.bytes = bytes) (hzs : z.cells.size = size) (hsz : 0 < size)
    (v : Value) (n : Nat) (xs : List Value) (hs : a.eval s = v) (hown : w.ownsRow base e size v n xs)
    (ad : Addr) (m c : Nat) (news : List Value) (hx : a.eval x = .slice (some ad) m c) (hl : news.length = m * size) (hnews : ∀ j u, news[j]? = some u → w.cell? (ad.add j) = some u) (h1 : ∀ u ∈ news, u.oneCell' = true)
    (h63 : n + m ≤ maxLen) (hbytes : (n + m) * bytes ≤ 140737488355328) (hbase : base ≤ w.heap.size)
    (hK : ∀ v' w', w'.ownsRow base e size v' (n + m) (xs ++ news) → w.grownBy w' v.ownBlock → K (a.put o.dst v') w') :
    if Region.wanted o (yielded ops a.tmps) = true then Oper.wp P o a w K Q else E := by
  have hw : Region.wanted o (yielded ops a.tmps) = true := by simp [Region.wanted, hg]
  rw [if_pos hw]
  exact wp_append_own w s x t hop base e i z size bytes ht hi hz hsize hby hzs hsz v n xs hs hown ad m c news hx hl hnews h1 h63 hbytes hbase (fun v' w' p q _ => hK v' w' p q)
/-- The last two of one's own row are left out. -/
theorem ownsRow_pop2 {w : World} {base g cap m : Nat} {R0 : List (Nat × Nat)} {u t : Nat × Nat} (hm : m = R0.length) (h : w.ownsRow base 24 2 (.slice (some ⟨g, 0, none⟩) (m + 2) cap) (m + 2) (fl (R0 ++ [u, t]))) :
    w.ownsRow base 24 2 (.slice (some ⟨g, 0, none⟩) m cap) m (fl R0) ∧ m + 2 ≤ cap := by
  have hc : m + 2 ≤ cap := by
    rcases h.2 with ⟨k, _⟩ | ⟨g', cap', cur, k, _, _, k2, _⟩
    · cases k
    · simp only [Value.slice.injEq] at k
      omega
  have e : fl (R0 ++ [u, t]) = fl (R0 ++ [u]) ++ fl [t] := by rw [← fl_app, List.append_assoc]; rfl
  rw [e] at h
  have h1 := ownsRow_pop (n := m + 1) (by rw [fl_len, List.length_append, ← hm]; rfl) h
  rw [fl_app] at h1
  exact ⟨ownsRow_pop (n := m) (by rw [fl_len, ← hm]) h1, hc⟩
end Go.Proofs.YtibkmcmgolbhhaaDoor
