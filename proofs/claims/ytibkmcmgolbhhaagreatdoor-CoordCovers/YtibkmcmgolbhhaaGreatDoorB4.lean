/- A row of one's own is appended to: in its own block, or moved into a new one; what a Book's rows are grown to. -/
import Derived.Test.YtibkmcmgolbhhaaGreatDoorB3
import Derived.Deep.DeepAppendRoom
import Derived.ArgAppend
namespace Go.Proofs.YtibkmcmgolbhhaaGreatDoor
open Go.RowKit
set_option linter.unusedVariables false
set_option linter.unusedSimpArgs false

/-- Appended to: in its own block, or in a new one, and all else is left. -/
def Two (w w' : World) (e : TypeId) (size : Nat) (v v' : Value) (n m : Nat) (xs : List Value) : Prop :=
  (∃ g cap, v = .slice (some ⟨g, 0, none⟩) n cap ∧ v' = .slice (some ⟨g, 0, none⟩) (n + m) cap ∧ w.grownBy w' (some g)) ∨ (w'.ownsRow w.heap.size e size v' (n + m) xs ∧ w.grownBy w' none)
theorem own_mono {w : World} {base base' : Nat} {e : TypeId} {size : Nat} {v : Value} {n : Nat} {xs : List Value} (h : w.ownsRow base e size v n xs) (hb : base' ≤ base) : w.ownsRow base' e size v n xs :=
  ⟨h.1, h.2.imp id fun ⟨g, cap, cur, h1, h2, h3⟩ => ⟨g, cap, cur, h1, Nat.le_trans hb h2, h3⟩⟩
theorem run_two {P : Program} (w : World) (base : Nat) (t ty e : TypeId) (i : TypeInfo) (z : Value) (size bytes : Nat) (ht : P.underlying t = some (.slice e)) (hi : P.info? e = some i) (hz : i.zero = some z)
    (hsize : i.size = size) (hby : i.bytes = bytes) (hzs : z.cells.size = size) (hsz : 0 < size)
    (v : Value) (n : Nat) (xs : List Value) (hown : w.ownsRow base e size v n xs)
    (a : Addr) (m c : Nat) (news : List Value) (hl : news.length = m * size) (hnews : ∀ j u, news[j]? = some u → w.cell? (a.add j) = some u) (h1 : ∀ u ∈ news, u.oneCell' = true)
    (h63 : n + m ≤ maxLen) (hbytes : (n + m) * bytes ≤ 140737488355328) (hbase : base ≤ w.heap.size) :
    ∃ v' w', (Builtin.append_ #[t, t] ty #[v, .slice (some a) m c]).run P w = .ok v' w' ∧ w'.ownsRow base e size v' (n + m) (xs ++ news) ∧ Two w w' e size v v' n m (xs ++ news) := by
  have h0 := hown
  rcases hown.2 with ⟨rfl, hn⟩ | ⟨g, cap, cur, rfl, _⟩
  · subst hn
    obtain rfl : xs = [] := List.length_eq_zero_iff.1 (by rw [h0.1]; simp)
    obtain ⟨v', w', hr, h2, h3, _⟩ := run_append_own (P := P) w w.heap.size t ty e i z size bytes ht hi hz hsize hby hzs hsz _ 0 [] (World.ownsRow_nil w _ _ _) a m c news hl hnews h1 h63 hbytes (Nat.le_refl _)
    exact ⟨v', w', hr, own_mono h2 hbase, .inr ⟨h2, h3⟩⟩
  · by_cases hroom : n + m ≤ cap
    · obtain ⟨w', hr, h2, h3⟩ := run_append_own_spare (P := P) w base t ty e i size ht hi hsize g n cap xs h0 a m c news hl hnews h1 hroom
      exact ⟨_, w', hr, h2, .inl ⟨g, cap, rfl, rfl, h3⟩⟩
    · obtain ⟨v', w', hr, h2, h3⟩ := run_append_arg_grows (P := P) w t ty e i z size bytes ht hi hz hsize hby hzs hsz ⟨g, 0, none⟩ n cap xs h0.1 (h0.cells (g := g) rfl) a m c news hl hnews (by omega) h63 hbytes
      exact ⟨v', w', hr, own_mono h2 hbase, .inr ⟨h2, h3⟩⟩
theorem wpList_two {P : Program} (w : World) {ops : Array Oper} {rest : List Oper} {o : Oper} {a : Act} {Q : Exit → Act → World → Prop} (hgd : o.guard = none) (s x : Operand) (t : TypeId)
    (ho : o.op = .call { callee := .builtin .append, args := #[s, x], argTypes := #[t, t] })
    (base : Nat) (e : TypeId) (i : TypeInfo) (z : Value) (size bytes : Nat) (ht : P.underlying t = some (.slice e)) (hi : P.info? e = some i) (hz : i.zero = some z)
    (hsize : i.size = size) (hby : i.bytes = bytes) (hzs : z.cells.size = size) (hsz : 0 < size)
    (v : Value) (n : Nat) (xs : List Value) (hs : a.eval s = v) (hown : w.ownsRow base e size v n xs)
    (ad : Addr) (m c : Nat) (news : List Value) (hx : a.eval x = .slice (some ad) m c) (hl : news.length = m * size) (hnews : ∀ j u, news[j]? = some u → w.cell? (ad.add j) = some u) (h1 : ∀ u ∈ news, u.oneCell' = true)
    (h63 : n + m ≤ maxLen) (hbytes : (n + m) * bytes ≤ 140737488355328) (hbase : base ≤ w.heap.size)
    (h : ∀ v' w', w'.ownsRow base e size v' (n + m) (xs ++ news) → Two w w' e size v v' n m (xs ++ news) → wpList P ops Q rest (a.put o.dst v') w') :
    wpList P ops Q (o :: rest) a w := by
  refine wpList_plain hgd fun K hK => ?_
  obtain ⟨v', w', hr, h2, h3⟩ := run_two (P := P) w base t o.type e i z size bytes ht hi hz hsize hby hzs hsz v n xs hown ad m c news hl hnews h1 h63 hbytes hbase
  unfold Oper.wp execOp
  simp only [ho, resolve, invoke, builtin, Sem.run_bind, Sem.run_pure, Result.andThen_ok, List.map_toArray, List.map_cons, List.map_nil, hs, hx, hr]
  exact hK _ _ (h v' w' h2 h3)
theorem own_shrink {w : World} {base : Nat} {e : TypeId} {size g n cap : Nat} {xs : List Value} (h : w.ownsRow base e size (.slice (some ⟨g, 0, none⟩) n cap) n xs) (k : Nat) (hk : k ≤ n) : w.ownsRow base e size (.slice (some ⟨g, 0, none⟩) k cap) k (xs.take (k * size)) := by
  obtain ⟨h1, h2⟩ := h
  have hkn : k * size ≤ n * size := Nat.mul_le_mul_right _ hk
  rcases h2 with ⟨h2, _⟩ | ⟨g', cap', cur, hv, hb, hh, h3, h4, h5, h6⟩
  · cases h2
  · cases hv
    refine ⟨by rw [List.length_take, h1]; omega, .inr ⟨g, cap, cur, rfl, hb, hh, by omega, h4, h5, ?_⟩⟩
    rw [← h6, List.take_take]
    congr 1
    omega
theorem fl_take : ∀ (l : List (Nat × Nat)) (k : Nat), (fl l).take (k * 2) = fl (l.take k)
  | [], k => by simp [fl]
  | t :: r, 0 => by simp [fl]
  | t :: r, k + 1 => by
    have e : (k + 1) * 2 = k * 2 + 1 + 1 := by omega
    rw [e]
    simp only [fl, List.take_succ_cons, fl_take r k]
/-- So many marks. -/
abbrev mks (n m : Nat) : List Value := fl (List.replicate n (201, m))
theorem mks_take (n k m : Nat) (h : k ≤ n) : (mks n m).take (k * 2) = mks k m := by rw [fl_take, List.take_replicate, Nat.min_eq_left h]
theorem mks_more (n m : Nat) : mks n m ++ [.int .u8 201, .int .u64 (m : Int)] = mks (n + 1) m := by
  show fl (List.replicate n (201, m)) ++ fl [(201, m)] = _
  rw [← fl_app, ← List.replicate_succ']
/-- A row of l marks that is grown by j. -/
structure Gl (w1 w : World) (B0 : Nat) (ra : Option Addr) (l rc m j : Nat) (v : Value) : Prop where
  lng : w.ownsRow B0 59 2 v (l + j) (mks (l + j) m)
  row : w.ownsRow B0 59 2 (.slice ra l rc) l (mks l m)
  at_ : v = .slice ra (l + j) rc ∨ (∃ q, v.ownBlock = some q ∧ w1.heap.size ≤ q)
  fr : Fr (fun q => (Value.slice ra l rc).ownBlock = some q) w1 w
theorem Gl.nw {w1 w w' : World} {B0 : Nat} {ra : Option Addr} {l rc m j : Nat} {v : Value} (h : Gl w1 w B0 ra l rc m j v) (n : Nw w w') : Gl w1 w' B0 ra l rc m j v :=
  ⟨ownsRow_keep h.lng (fun g hg => n.block g (h.lng.lt g hg).2 (fun f => f)), ownsRow_keep h.row (fun g hg => n.block g (h.row.lt g hg).2 (fun f => f)), h.at_, h.fr.trans n (fun _ _ f => f.elim)⟩
theorem Gl.step {w1 w w' : World} {B0 : Nat} {ra : Option Addr} {l rc m j : Nat} {v v' : Value} (h : Gl w1 w B0 ra l rc m j v)
    (ho : w'.ownsRow B0 59 2 v' (l + j + 1) (mks (l + j) m ++ [.int .u8 201, .int .u64 (m : Int)])) (ht : Two w w' 59 2 v v' (l + j) 1 (mks (l + j) m ++ [.int .u8 201, .int .u64 (m : Int)])) : Gl w1 w' B0 ra l rc m (j + 1) v' := by
  rw [mks_more] at ho ht
  rcases ht with ⟨g, cap, rfl, rfl, hg⟩ | ⟨hn, hg⟩
  · rcases h.at_ with he | ⟨q, hq, hq1⟩
    · cases he
      refine ⟨ho, ?_, .inl rfl, h.fr.grown hg (fun k hk _ => hk)⟩
      have := own_shrink ho l (by omega)
      rw [mks_take _ _ _ (by omega)] at this
      exact this
    · have hqg : g = q := by simpa [Value.ownBlock] using hq
      subst hqg
      refine ⟨ho, ?_, .inr ⟨g, rfl, hq1⟩, h.fr.grown hg (fun k hk hlt => by cases hk; omega)⟩
      by_cases hgr : (Value.slice ra l rc).ownBlock = some g
      · have := own_shrink ho l (by omega)
        rw [mks_take _ _ _ (by omega)] at this
        rcases h.row.2 with ⟨h2, _⟩ | ⟨g', cap', cur, hv, hb, hh, h3, h4, h5, h6⟩
        · rw [h2] at hgr; cases hgr
        · cases hv
          have : g' = g := by simpa [Value.ownBlock] using hgr
          subst this
          rcases this with _
          rcases h.lng.2 with ⟨k2, _⟩ | ⟨g2, cap2, cur2, hv2, hb2, hh2, k3, k4, k5, k6⟩
          · cases k2
          · cases hv2
            rw [hh] at hh2
            cases hh2
            obtain rfl : cap = rc := by omega
            assumption
      · exact ownsRow_keep h.row (fun p hp => hg.block p (h.row.lt p hp).2 (fun e => hgr (by rw [hp, e])))
  · refine ⟨ho, ?_, .inr ?_, h.fr.grown hg (fun k hk _ => by cases hk)⟩
    · exact ownsRow_keep h.row (fun p hp => hg.block p (h.row.lt p hp).2 (fun e => by cases e))
    · rcases hn.2 with ⟨_, h0⟩ | ⟨g, cap, cur, rfl, hb, _⟩
      · omega
      · exact ⟨g, rfl, Nat.le_trans h.fr.size hb⟩
theorem Gl.start {w : World} {B0 : Nat} {ra : Option Addr} {l rc m : Nat} (h : w.ownsRow B0 59 2 (.slice ra l rc) l (mks l m)) : Gl w w B0 ra l rc m 0 (.slice ra l rc) := ⟨h, h, .inl rfl, Fr.refl _ _⟩
end Go.Proofs.YtibkmcmgolbhhaaGreatDoor
