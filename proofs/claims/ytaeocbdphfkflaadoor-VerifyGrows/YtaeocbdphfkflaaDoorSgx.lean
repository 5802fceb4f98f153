/- Split of package shape; the two parts of a stretch. -/
import Derived.Test.YtaeocbdphfkflaaDoorCgx
import Derived.Test.YtaeocbdphfkflaaDoorN1
import Derived.Deep.RegionHeld3
import Derived.Deep.DeepAppendRoom
import Derived.ArgAppend
import Derived.Deep.RegionLaw
import Derived.Deep.RegionLawGrows
namespace Go.Proofs.YtaeocbdphfkflaaDoor
open Go.RowKit
set_option linter.unusedVariables false
set_option linter.unusedSimpArgs false

theorem isC_spl {n k : Nat} (h1 : 2 ^ k < n) (h2 : n ≤ 2 * 2 ^ k) : IsC 0 0 0 (n - 1) (k + 1) := by
  refine ⟨by omega, by omega, ?_, fun j _ _ hj => ?_⟩
  · rw [Nat.zero_div, Nat.sub_zero]
    refine (Nat.div_eq_of_lt ?_).symm
    rw [Nat.pow_succ']
    have := Nat.two_pow_pos k
    omega
  · rw [Nat.zero_div, Nat.sub_zero]
    have h3 : 2 ^ j ≤ 2 ^ k := pow_le2 (by omega)
    have h4 := Nat.two_pow_pos j
    have : 0 < (n - 1) / 2 ^ j := Nat.div_pos (by omega) h4
    omega

theorem results_two {P : Program} {w : World} {fn : Func} {i j : Nat} {t : TypeId} {n g k : Nat} {tmps : Array Value} {V U : Array Value} {ty tz : TypeId} {f f2 : Nat × Nat} (hr : fn.results = #[.cell i t, .cell j t]) (hagg : ∀ W : World, (isAgg t).run P W = .ok true W) (hsz : ∀ W : World, (sizeOf t).run P W = .ok n W)
    (hx : tmps.getD i undef = .pointer (some ⟨g, 0, none⟩)) (hy : tmps.getD j undef = .pointer (some ⟨k, 0, none⟩)) (hg : w.heap[g]? = some (.cells V ty f)) (hV : V.size = n) (hk : w.heap[k]? = some (.cells U tz f2)) (hU : U.size = n) : (results fn tmps).run P w = .ok (.tuple #[.agg V, .agg U]) w := by
  have hl : (loadCells ⟨g, 0, none⟩ n).run P w = .ok V w := by
    have := run_loadCells_list (P := P) w ⟨g, 0, none⟩ V.toList (fun j v hv => by
      rw [addZ, cell_of hg]
      simpa using hv)
    simpa [hV] using this
  have hl2 : (loadCells ⟨k, 0, none⟩ n).run P w = .ok U w := by
    have := run_loadCells_list (P := P) w ⟨k, 0, none⟩ U.toList (fun j v hv => by
      rw [addZ, cell_of hk]
      simpa using hv)
    simpa [hU] using this
  have ha : ∀ (g : Nat) (W : World), (asAddr (.pointer (some ⟨g, 0, none⟩))).run P W = .ok ⟨g, 0, none⟩ W := fun g W => by simp [asAddr]
  have hx2 : tmps[i]?.getD undef = .pointer (some ⟨g, 0, none⟩) := by rw [← hx]; simp [Array.getD]; split <;> simp_all
  have hy2 : tmps[j]?.getD undef = .pointer (some ⟨k, 0, none⟩) := by rw [← hy]; simp [Array.getD]; split <;> simp_all
  simp [results, hr, hx2, hy2, ha, loadVar, hagg, hsz, hl, hl2]
end Go.Proofs.YtaeocbdphfkflaaDoor
namespace Go.Proofs.YtaeocbdphfkflaaDoor
open Go.RowKit
set_option linter.unusedVariables false
set_option linter.unusedSimpArgs false

/-- Stretches as cells. -/
def fs : List (Nat × Nat) → List Value
  | [] => []
  | t :: r => .int .u64 (t.1 : Int) :: .int .u64 (t.2 : Int) :: fs r
theorem fs_len : ∀ l, (fs l).length = l.length * 2
  | [] => rfl
  | t :: r => by simp only [fs, List.length_cons, fs_len r]; omega
theorem fs_app : ∀ l m, fs (l ++ m) = fs l ++ fs m
  | [], m => rfl
  | t :: r, m => by simp only [List.cons_append, fs, fs_app r m]
theorem fs_get : ∀ (l : List (Nat × Nat)) (k : Nat) (t : Nat × Nat), l[k]? = some t → (fs l)[k * 2]? = some (.int .u64 (t.1 : Int)) ∧ (fs l)[k * 2 + 1]? = some (.int .u64 (t.2 : Int))
  | [], k, t, h => by simp at h
  | u :: r, 0, t, h => by simp at h; subst h; exact ⟨rfl, rfl⟩
  | u :: r, k + 1, t, h => by
    have := fs_get r k t (by simpa using h)
    have e : (k + 1) * 2 = k * 2 + 1 + 1 := by omega
    rw [e]
    simpa [fs] using this
theorem fs_one : ∀ (l : List (Nat × Nat)), ∀ u ∈ fs l, u.oneCell' = true
  | [], u, h => by cases h
  | t :: r, u, h => by
    simp only [fs, List.mem_cons] at h
    rcases h with rfl | rfl | h
    · rfl
    · rfl
    · exact fs_one r u h
/-- A row of stretches in memory. -/
def Spn (w : World) (v : Value) (l : List (Nat × Nat)) : Prop :=
  ∃ ad cap, v = .slice ad l.length cap ∧ ∀ k t, l[k]? = some t → ∃ g off, ad = some ⟨g, off, none⟩ ∧ g < w.heap.size ∧ w.cell? ⟨g, off + k * 2, none⟩ = some (.int .u64 (t.1 : Int)) ∧ w.cell? ⟨g, off + k * 2 + 1, none⟩ = some (.int .u64 (t.2 : Int))
theorem Spn.nw {w w' : World} {v : Value} {l : List (Nat × Nat)} (h : Spn w v l) (n : Nw w w') : Spn w' v l := by
  obtain ⟨ad, cap, rfl, h⟩ := h
  refine ⟨ad, cap, rfl, fun k t ht => ?_⟩
  obtain ⟨g, off, rfl, h1, h2, h3⟩ := h k t ht
  exact ⟨g, off, rfl, Nat.lt_of_lt_of_le h1 n.size, n.cellOf h2, n.cellOf h3⟩
theorem Spn.len {w : World} {v : Value} {l : List (Nat × Nat)} (h : Spn w v l) : ∃ ad cap, v = .slice ad l.length cap := by
  obtain ⟨ad, cap, rfl, _⟩ := h; exact ⟨ad, cap, rfl⟩

end Go.Proofs.YtaeocbdphfkflaaDoor
namespace Go.Proofs.YtaeocbdphfkflaaDoor
open Go.RowKit
set_option linter.unusedVariables false
set_option linter.unusedSimpArgs false

/-- Appended to: in its own block, or in a new one, and all else is left. -/
def Two (w w' : World) (e : TypeId) (size : Nat) (v v' : Value) (n m : Nat) (xs : List Value) : Prop :=
  (∃ g cap, v = .slice (some ⟨g, 0, none⟩) n cap ∧ v' = .slice (some ⟨g, 0, none⟩) (n + m) cap ∧ w.grownBy w' (some g)) ∨ (w'.ownsRow w.heap.size e size v' (n + m) xs ∧ w.grownBy w' none)
theorem own_mono {w : World} {base base' : Nat} {e : TypeId} {size : Nat} {v : Value} {n : Nat} {xs : List Value} (h : w.ownsRow base e size v n xs) (hb : base' ≤ base) : w.ownsRow base' e size v n xs :=
  ⟨h.1, h.2.imp id fun ⟨g, cap, cur, h1, h2, h3⟩ => ⟨g, cap, cur, h1, Nat.le_trans hb h2, h3⟩⟩
theorem run_two {P : Program} (w : World) (base : Nat) (t ty e : TypeId) (i : TypeInfo) (z : Value) (size bytes : Nat) (ht : P.underlying t = some (.slice e)) (hi : P.info? e = some i) (hz : i.zero = some z)
    (hsize : i.size = size) (hby : i.bytes = bytes) (hzs : z.cells.size = size) (hsz : 0 < size)
    (v : Value) (n : Nat) (xs : List Value) (hown : w.ownsRow base e size v n xs)
    (a : Addr) (m c : Nat) (news : List Value) (hl : news.length = m * size) (hnews : ∀ j u, news[j]? = some u → w.cell? (a.add j) = some u) (h1 : ∀ u ∈ news, u.oneCell' = true)
    (h63 : n + m ≤ maxLen) (hbytes : (n + m) * bytes ≤ 140737488355328) (hbase : base ≤ w.heap.size) :
    ∃ v' w', (Builtin.append_ #[t, t] ty #[v, .slice (some a) m c]).run P w = .ok v' w' ∧ w'.ownsRow base e size v' (n + m) (xs ++ news) ∧ Two w w' e size v v' n m (xs ++ news) := by
  have h0 := hown
  rcases hown.2 with ⟨rfl, hn⟩ | ⟨g, cap, cur, rfl, _⟩
  · subst hn
    obtain rfl : xs = [] := List.length_eq_zero_iff.1 (by rw [h0.1]; simp)
    obtain ⟨v', w', hr, h2, h3, _⟩ := run_append_own (P := P) w w.heap.size t ty e i z size bytes ht hi hz hsize hby hzs hsz _ 0 [] (World.ownsRow_nil w _ _ _) a m c news hl hnews h1 h63 hbytes (Nat.le_refl _)
    exact ⟨v', w', hr, own_mono h2 hbase, .inr ⟨h2, h3⟩⟩
  · by_cases hroom : n + m ≤ cap
    · obtain ⟨w', hr, h2, h3⟩ := run_append_own_spare (P := P) w base t ty e i size ht hi hsize g n cap xs h0 a m c news hl hnews h1 hroom
      exact ⟨_, w', hr, h2, .inl ⟨g, cap, rfl, rfl, h3⟩⟩
    · obtain ⟨v', w', hr, h2, h3⟩ := run_append_arg_grows (P := P) w t ty e i z size bytes ht hi hz hsize hby hzs hsz ⟨g, 0, none⟩ n cap xs h0.1 (h0.cells (g := g) rfl) a m c news hl hnews (by omega) h63 hbytes
      exact ⟨v', w', hr, own_mono h2 hbase, .inr ⟨h2, h3⟩⟩
theorem wpList_two {P : Program} (w : World) {ops : Array Oper} {rest : List Oper} {o : Oper} {a : Act} {Q : Exit → Act → World → Prop} (hgd : o.guard = none) (s x : Operand) (t : TypeId)
    (ho : o.op = .call { callee := .builtin .append, args := #[s, x], argTypes := #[t, t] })
    (base : Nat) (e : TypeId) (i : TypeInfo) (z : Value) (size bytes : Nat) (ht : P.underlying t = some (.slice e)) (hi : P.info? e = some i) (hz : i.zero = some z)
    (hsize : i.size = size) (hby : i.bytes = bytes) (hzs : z.cells.size = size) (hsz : 0 < size)
    (v : Value) (n : Nat) (xs : List Value) (hs : a.eval s = v) (hown : w.ownsRow base e size v n xs)
    (ad : Addr) (m c : Nat) (news : List Value) (hx : a.eval x = .slice (some ad) m c) (hl : news.length = m * size) (hnews : ∀ j u, news[j]? = some u → w.cell? (ad.add j) = some u) (h1 : ∀ u ∈ news, u.oneCell' = true)
    (h63 : n + m ≤ maxLen) (hbytes : (n + m) * bytes ≤ 140737488355328) (hbase : base ≤ w.heap.size)
    (h : ∀ v' w', w'.ownsRow base e size v' (n + m) (xs ++ news) → Two w w' e size v v' n m (xs ++ news) → wpList P ops Q rest (a.put o.dst v') w') :
    wpList P ops Q (o :: rest) a w := by
  refine wpList_plain hgd fun K hK => ?_
  obtain ⟨v', w', hr, h2, h3⟩ := run_two (P := P) w base t o.type e i z size bytes ht hi hz hsize hby hzs hsz v n xs hown ad m c news hl hnews h1 h63 hbytes hbase
  unfold Oper.wp execOp
  simp only [ho, resolve, invoke, builtin, Sem.run_bind, Sem.run_pure, Result.andThen_ok, List.map_toArray, List.map_cons, List.map_nil, hs, hx, hr]
  exact hK _ _ (h v' w' h2 h3)
theorem own_shrink {w : World} {base : Nat} {e : TypeId} {size g n cap : Nat} {xs : List Value} (h : w.ownsRow base e size (.slice (some ⟨g, 0, none⟩) n cap) n xs) (k : Nat) (hk : k ≤ n) : w.ownsRow base e size (.slice (some ⟨g, 0, none⟩) k cap) k (xs.take (k * size)) := by
  obtain ⟨h1, h2⟩ := h
  have hkn : k * size ≤ n * size := Nat.mul_le_mul_right _ hk
  rcases h2 with ⟨h2, _⟩ | ⟨g', cap', cur, hv, hb, hh, h3, h4, h5, h6⟩
  · cases h2
  · cases hv
    refine ⟨by rw [List.length_take, h1]; omega, .inr ⟨g, cap, cur, rfl, hb, hh, by omega, h4, h5, ?_⟩⟩
    rw [← h6, List.take_take]
    congr 1
    omega
/-- Where a row lies behind an append: where it lay, or in a block that was not there. -/
def Stays (w : World) (v v' : Value) : Prop := v'.ownBlock = v.ownBlock ∨ ∃ g, v'.ownBlock = some g ∧ w.heap.size ≤ g
theorem Stays.refl (w : World) (v : Value) : Stays w v v := .inl rfl
theorem Stays.tr {a b : World} {x y z : Value} (h : Stays a x y) (k : Stays b y z) (hs : a.heap.size ≤ b.heap.size) : Stays a x z := by
  rcases k with e | ⟨g, hg, hl⟩
  · rcases h with e2 | ⟨g, hg, hl⟩
    · exact .inl (e.trans e2)
    · exact .inr ⟨g, e.trans hg, hl⟩
  · exact .inr ⟨g, hg, by omega⟩
theorem Two.stays {w w' : World} {e : TypeId} {size : Nat} {v v' : Value} {n m : Nat} {xs : List Value} (h : Two w w' e size v v' n m xs) (hm : 0 < n + m) : Stays w v v' := by
  rcases h with ⟨g, cap, rfl, rfl, _⟩ | ⟨ho, _⟩
  · exact .inl rfl
  · rcases ho.2 with ⟨_, h0⟩ | ⟨g, cap, cur, rfl, hb, _⟩
    · omega
    · exact .inr ⟨g, rfl, hb⟩
theorem Two.fr {w w' : World} {e : TypeId} {size : Nat} {v v' : Value} {n m : Nat} {xs : List Value} (h : Two w w' e size v v' n m xs) : Fr (fun k => v.ownBlock = some k) w w' := by
  rcases h with ⟨g, cap, rfl, rfl, hg⟩ | ⟨_, hg⟩
  · exact (Fr.refl _ w).grown hg (fun k hk _ => hk)
  · exact (Fr.refl _ w).grown hg (fun k hk _ => by cases hk)
/-- All that is left of what a row's writer may turn. -/
theorem Fr.stays {bp : Nat} {a b c : World} {x y : Value} (h : Fr (fun k => k = bp ∨ x.ownBlock = some k) a b) (k : Fr (fun k => k = bp ∨ y.ownBlock = some k) b c) (hs : Stays a x y) : Fr (fun k => k = bp ∨ x.ownBlock = some k) a c := by
  refine h.trans k (fun j hj q => ?_)
  rcases q with q | q
  · exact .inl q
  · rcases hs with e | ⟨g, hg, hl⟩
    · exact .inr (by rw [← e]; exact q)
    · rw [hg] at q; injection q with q; omega
theorem step_append_own {P : Program} {ops : Array Oper} {o : Oper} {a : Act} {w : World} {K : Act → World → Prop} {Q : Exit → Act → World → Prop} {E : Prop}
    (hg : o.guard = none) (s x : Operand) (t : TypeId) (hop : o.op = Op.call { callee := Callee.builtin Builtin.append, args := #[s, x], argTypes := #[t, t] })
    (base : Nat) (e : TypeId) (i : TypeInfo) (z : Value) (size bytes : Nat) (ht : P.underlying t = some (.slice e)) (hi : P.info? e = some i) (hz : i.zero = some z) (hsize : i.size = size) (hby : i.bytes = bytes) (hzs : z.cells.size = size) (hsz : 0 < size)
    (v : Value) (n : Nat) (xs : List Value) (hs : a.eval s = v) (hown : w.ownsRow base e size v n xs)
    (ad : Addr) (m c : Nat) (news : List Value) (hx : a.eval x = .slice (some ad) m c) (hl : news.length = m * size) (hnews : ∀ j u, news[j]? = some u → w.cell? (ad.add j) = some u) (h1 : ∀ u ∈ news, u.oneCell' = true)
    (h63 : n + m ≤ maxLen) (hbytes : (n + m) * bytes ≤ 140737488355328) (hbase : base ≤ w.heap.size)
    (hK : ∀ v' w', w'.ownsRow base e size v' (n + m) (xs ++ news) → w.grownBy w' v.ownBlock → K (a.put o.dst v') w') :
    if Region.wanted o (yielded ops a.tmps) = true then Oper.wp P o a w K Q else E := by
  have hw : Region.wanted o (yielded ops a.tmps) = true := by simp [Region.wanted, hg]
  rw [if_pos hw]
  exact wp_append_own w s x t hop base e i z size bytes ht hi hz hsize hby hzs hsz v n xs hs hown ad m c news hx hl hnews h1 h63 hbytes hbase (fun v' w' p q _ => hK v' w' p q)

end Go.Proofs.YtaeocbdphfkflaaDoor
namespace Go.Proofs.YtaeocbdphfkflaaDoor
open Go.RowKit
set_option linter.unusedVariables false
set_option linter.unusedSimpArgs false

theorem sp_new {w : World} (b e : Int) (t : TypeId) : ∀ j u, [Value.int .u64 b, .int .u64 e][j]? = some u → (w.alloc (.cells #[.int .u64 b, .int .u64 e] t)).cell? ((⟨w.heap.size, 0, none⟩ : Addr).add j) = some u := by
  intro j u h
  rw [addZ, cell_of (heap_new w _)]
  match j, h with
  | 0, h => exact h
  | 1, h => exact h
section
variable {bi bd bp base i : Nat} {fv : Value} {tf : TypeId} {v : Value} {l : List (Nat × Nat)}
theorem Stays.mono {a b : World} {x y : Value} (h : Stays b x y) (hs : a.heap.size ≤ b.heap.size) : Stays a x y := h.imp id fun ⟨g, hg, hl⟩ => ⟨g, hg, by omega⟩
end

theorem fs_nil : fs [] = [] := rfl

end Go.Proofs.YtaeocbdphfkflaaDoor
namespace Go.Proofs.YtaeocbdphfkflaaDoor
open Go.RowKit
set_option linter.unusedVariables false
set_option linter.unusedSimpArgs false

end Go.Proofs.YtaeocbdphfkflaaDoor
namespace Go.Proofs.YtaeocbdphfkflaaDoor
open Go.RowKit
set_option linter.unusedVariables false
set_option linter.unusedSimpArgs false

/-- A number that lies in memory. -/
def natAt (W : World) (b o : Nat) : Nat := match W.cell? ⟨b, o, none⟩ with
  | some v => (intOf v).toNat
  | none => 0
/-- The stretches that a slice holds. -/
def rdS (W : World) : Value → List (Nat × Nat)
  | .slice (some ⟨g, off, none⟩) n _ => (List.range n).map fun k => (natAt W g (off + k * 2), natAt W g (off + k * 2 + 1))
  | _ => []
/-- A row of stretches that is only read; none of it in what N says. -/
def Lst (w : World) (N : Nat → Prop) (v : Value) (l : List (Nat × Nat)) : Prop :=
  ∃ ad cap, v = .slice ad l.length cap ∧ l.length ≤ cap ∧ ∀ k t, l[k]? = some t → ∃ g off, ad = some ⟨g, off, none⟩ ∧ g < w.heap.size ∧ ¬ N g ∧ w.cell? ⟨g, off + k * 2, none⟩ = some (.int .u64 (t.1 : Int)) ∧ w.cell? ⟨g, off + k * 2 + 1, none⟩ = some (.int .u64 (t.2 : Int))
theorem Lst.rd {w : World} {N : Nat → Prop} {v : Value} {l : List (Nat × Nat)} (h : Lst w N v l) : rdS w v = l := by
  obtain ⟨ad, cap, rfl, hc, h⟩ := h
  cases hl : l with
  | nil =>
    subst hl
    rcases ad with _ | ⟨g, off, x⟩
    · rfl
    · cases x <;> rfl
  | cons s r =>
    obtain ⟨g, off, rfl, _⟩ := h 0 s (by rw [hl]; rfl)
    rw [← hl]
    apply List.ext_getElem?
    intro k
    simp only [rdS, List.getElem?_map, List.getElem?_range']
    by_cases hk : k < l.length
    · obtain ⟨t, ht⟩ : ∃ t, l[k]? = some t := ⟨_, List.getElem?_eq_getElem hk⟩
      obtain ⟨g', off', e, _, _, c0, c1⟩ := h k t ht
      cases e
      rw [ht]
      simp [List.getElem?_range hk, natAt, c0, c1, intOf]
    · simp [List.getElem?_eq_none (Nat.le_of_not_lt hk), List.getElem?_eq_none (show (List.range l.length).length ≤ k by simpa using hk)]
theorem Lst.fr {w w' : World} {N M S : Nat → Prop} {v : Value} {l : List (Nat × Nat)} (h : Lst w N v l) (hf : Fr S w w') (hS : ∀ g, g < w.heap.size → S g → N g) (hM : ∀ g, g < w.heap.size → M g → N g) : Lst w' M v l := by
  obtain ⟨ad, cap, rfl, hc, h⟩ := h
  refine ⟨ad, cap, rfl, hc, fun k t ht => ?_⟩
  obtain ⟨g, off, rfl, h1, h2, c0, c1⟩ := h k t ht
  have hn : ¬ S g := fun q => h2 (hS g h1 q)
  exact ⟨g, off, rfl, Nat.lt_of_lt_of_le h1 hf.size, fun q => h2 (hM g h1 q), (hf.cell (p := ⟨g, _, none⟩) h1 hn).trans c0, (hf.cell (p := ⟨g, _, none⟩) h1 hn).trans c1⟩
theorem Lst.news {w : World} {N : Nat → Prop} {g off cap n : Nat} {l : List (Nat × Nat)} (h : Lst w N (.slice (some ⟨g, off, none⟩) n cap) l) : ∀ j u, (fs l)[j]? = some u → w.cell? ((⟨g, off, none⟩ : Addr).add j) = some u := by
  obtain ⟨ad, cap', e, _, h⟩ := h
  cases e
  intro j u hj
  have hl : j < l.length * 2 := by have := (List.getElem?_eq_some_iff.1 hj).1; rwa [fs_len] at this
  obtain ⟨t, ht⟩ : ∃ t, l[j / 2]? = some t := ⟨_, List.getElem?_eq_getElem (by omega)⟩
  obtain ⟨g', off', e, _, _, c0, c1⟩ := h (j / 2) t ht
  cases e
  have hg := fs_get l (j / 2) t ht
  rw [addO]
  rcases Nat.mod_two_eq_zero_or_one j with hm | hm
  · have ej : j = j / 2 * 2 := by omega
    rw [← ej] at hg c0
    rw [hg.1] at hj
    rw [c0, ← hj]
  · have ej : j = j / 2 * 2 + 1 := by omega
    have ej2 : off + j / 2 * 2 + 1 = off + j := by omega
    rw [ej2] at c1
    rw [← ej] at hg
    rw [hg.2] at hj
    rw [c1, ← hj]
theorem ne_all {s : Nat × Nat} {r : List (Nat × Nat)} (h : ∀ t ∈ s :: r, t.1 < t.2) : s.1 < s.2 ∧ ∀ t ∈ r, t.1 < t.2 := ⟨h s (by simp), fun t ht => h t (by simp [ht])⟩

/-- None is empty, or ends behind n. -/
def Nes (n : Nat) (l : List (Nat × Nat)) : Prop := ∀ s ∈ l, s.1 < s.2 ∧ s.2 ≤ n

end Go.Proofs.YtaeocbdphfkflaaDoor
