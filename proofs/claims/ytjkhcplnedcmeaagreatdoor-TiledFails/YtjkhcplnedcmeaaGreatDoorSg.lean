/- Split of package shape; the two parts of a stretch. -/
import Derived.Test.YtjkhcplnedcmeaaGreatDoorCg
import Derived.Test.YtjkhcplnedcmeaaGreatDoorN1
import Derived.Deep.RegionHeld3
import Derived.Deep.DeepAppendRoom
import Derived.ArgAppend
import Derived.Deep.RegionLaw
import Derived.Deep.RegionLawGrows
namespace Go.Proofs.YtjkhcplnedcmeaaGreatDoor
open Go.RowKit
set_option linter.unusedVariables false
set_option linter.unusedSimpArgs false

theorem isC_spl {n k : Nat} (h1 : 2 ^ k < n) (h2 : n ≤ 2 * 2 ^ k) : IsC 0 0 0 (n - 1) (k + 1) := by
  refine ⟨by omega, by omega, ?_, fun j _ _ hj => ?_⟩
  · rw [Nat.zero_div, Nat.sub_zero]
    refine (Nat.div_eq_of_lt ?_).symm
    rw [Nat.pow_succ']
    have := Nat.two_pow_pos k
    omega
  · rw [Nat.zero_div, Nat.sub_zero]
    have h3 : 2 ^ j ≤ 2 ^ k := pow_le2 (by omega)
    have h4 := Nat.two_pow_pos j
    have : 0 < (n - 1) / 2 ^ j := Nat.div_pos (by omega) h4
    omega

set_option maxHeartbeats 2000000 in
theorem split_yes (n : Nat) (h1 : 2 ≤ n) (h2 : n ≤ 9223372036854775808) (w : World) :
    Calls Tryz.prog 134 #[.int .u64 (n : Int)] w fun x w' => x = .returned (.tuple #[.int .u64 (spl n : Int), .bool true]) ∧ Nw w w' := by
  obtain ⟨k, e, k1, k2⟩ := spl_ex h1
  have hk : k < 63 := pow_lt_inv (by rw [p63]; omega)
  have q := common_yes 0 0 0 (n - 1) (k + 1) ⟨by omega, by simp⟩ ⟨by omega, by rw [p63]; simp; omega⟩ (isC_spl k1 k2)
  simp only [Nat.zero_div] at q
  have Q := show Hid _ from q
  have hs : IntKind.u64.wrap (2 ^ k) = ((2 ^ k : Nat) : Int) := by
    rw [w64, ← pow_cast]
    have := two_le (L := k) (by omega)
    omega
  rw [e]
  have hn1 : ((n : Int) - 1) = ((n - 1 : Nat) : Int) := by omega
  clear q e k1 k2
  go_enter Tryz.func134, Tryz.ntmps134
  go_wp2_with fail
  refine (Q.out _).mono ?_
  rintro x w1 ⟨rfl, n1⟩
  obtain ⟨⟨l0, l1⟩, b0, b1, n2⟩ := two_made n1
  clear n1
  have e1 : ((k + 1 : Nat) : Int) - 1 = (k : Int) := by omega
  go_wp2
  go_ret2
  refine ⟨?_, (by repeat first | with_reducible exact n2 | with_reducible refine Fr.alloc ?_ _ | with_reducible refine Fr.drew ?_ | (with_reducible refine Fr.setCell ?_ _ _ (fun h => ?_); rotate_left; focus (simp only at h; omega)))⟩
  rw [pow_cast]; rfl
theorem split_no (n : Nat) (h1 : ¬ (2 ≤ n ∧ n ≤ 9223372036854775808)) (h2 : n < 18446744073709551616) (w : World) :
    Calls Tryz.prog 134 #[.int .u64 (n : Int)] w fun x w' => x = .returned (.tuple #[.int .u64 0, .bool false]) ∧ Nw w w' := by
  by_cases h : n < 2
  · go_enter Tryz.func134, Tryz.ntmps134
    go_wp2
    go_ret2
    exact ⟨rfl, nwr w⟩
  · have h3 : 9223372036854775808 < n := by omega
    clear h1
    go_enter Tryz.func134, Tryz.ntmps134
    go_wp2
    go_ret2
    exact ⟨rfl, nwr w⟩

theorem results_two {P : Program} {w : World} {fn : Func} {i j : Nat} {t : TypeId} {n g k : Nat} {tmps : Array Value} {V U : Array Value} {ty tz : TypeId} {f f2 : Nat × Nat} (hr : fn.results = #[.cell i t, .cell j t]) (hagg : ∀ W : World, (isAgg t).run P W = .ok true W) (hsz : ∀ W : World, (sizeOf t).run P W = .ok n W)
    (hx : tmps.getD i undef = .pointer (some ⟨g, 0, none⟩)) (hy : tmps.getD j undef = .pointer (some ⟨k, 0, none⟩)) (hg : w.heap[g]? = some (.cells V ty f)) (hV : V.size = n) (hk : w.heap[k]? = some (.cells U tz f2)) (hU : U.size = n) : (results fn tmps).run P w = .ok (.tuple #[.agg V, .agg U]) w := by
  have hl : (loadCells ⟨g, 0, none⟩ n).run P w = .ok V w := by
    have := run_loadCells_list (P := P) w ⟨g, 0, none⟩ V.toList (fun j v hv => by
      rw [addZ, cell_of hg]
      simpa using hv)
    simpa [hV] using this
  have hl2 : (loadCells ⟨k, 0, none⟩ n).run P w = .ok U w := by
    have := run_loadCells_list (P := P) w ⟨k, 0, none⟩ U.toList (fun j v hv => by
      rw [addZ, cell_of hk]
      simpa using hv)
    simpa [hU] using this
  have ha : ∀ (g : Nat) (W : World), (asAddr (.pointer (some ⟨g, 0, none⟩))).run P W = .ok ⟨g, 0, none⟩ W := fun g W => by simp [asAddr]
  have hx2 : tmps[i]?.getD undef = .pointer (some ⟨g, 0, none⟩) := by rw [← hx]; simp [Array.getD]; split <;> simp_all
  have hy2 : tmps[j]?.getD undef = .pointer (some ⟨k, 0, none⟩) := by rw [← hy]; simp [Array.getD]; split <;> simp_all
  simp [results, hr, hx2, hy2, ha, loadVar, hagg, hsz, hl, hl2]
set_option maxRecDepth 100000 in
set_option maxHeartbeats 2000000 in
theorem cut_any (b e : Nat) (h1 : 2 ≤ e - b) (h2 : e ≤ 9223372036854775808) (w : World) :
    Calls Tryz.prog 144 #[sp b e] w fun x w' => x = .returned (.tuple #[sp b (b + spl (e - b)), sp (b + spl (e - b)) e]) ∧ Nw w w' := by
  have q := split_yes (e - b) h1 (by omega)
  have Q := show Hid _ from q
  have h3 := spl_lt h1
  have he : (e : Int) - (b : Int) = ((e - b : Nat) : Int) := by omega
  obtain ⟨k, hk⟩ : ∃ k, k = spl (e - b) := ⟨_, rfl⟩
  rw [← hk] at h3 Q ⊢
  have hk0 : 0 < k := by rw [hk]; exact spl_pos _
  clear q hk
  go_enter Tryz.func144, Tryz.ntmps144
  go_wp2_with fail
  refine (Q.out _).mono ?_
  rintro x w1 ⟨rfl, n1⟩
  obtain ⟨⟨l0, l1, l2⟩, b0, b1, b2, n2⟩ := three_made n1
  have c0 := cell2a b0
  have c1 := cell2b b0
  have d0 := cell2a b1
  have d1 := cell2b b1
  have z0 := frozen_of b1 0
  have z1 := frozen_of b1 1
  have g0 := cell2a b2
  have g1 := cell2b b2
  have x0 := frozen_of b2 0
  have x1 := frozen_of b2 1
  clear n1
  go_wp2
  go_region
  go_wp2
  (refine bodyPost_ret (results_two (V := #[.int .u64 (b : Int), .int .u64 ((b : Int) + (k : Int))]) (ty := 123) (f := (0, 0)) (U := #[.int .u64 ((b : Int) + (k : Int)), .int .u64 (e : Int)]) (tz := 123) (f2 := (0, 0)) Tryz.results144 Tryz.isAgg123 Tryz.sizeOf123 rfl rfl ?hg rfl ?hk rfl) rfl ⟨rfl, (by repeat first | with_reducible exact n2 | with_reducible refine Fr.alloc ?_ _ | with_reducible refine Fr.drew ?_ | (with_reducible refine Fr.setCell ?_ _ _ (fun h => ?_); rotate_left; focus (simp only at h; omega)))⟩; (case hg => ((repeat first | with_reducible exact b1 | with_reducible exact heap_new _ _ | with_reducible exact heap_next _ _ _ | with_reducible exact heap_third _ _ _ _ | with_reducible refine hp_dr ?_ | (with_reducible refine hp_ne ?_ ?_; focus omega) | (with_reducible refine hp_al ?_ ?_; focus (first | omega | (simp <;> omega))) | with_reducible apply hp_set) <;> rfl)); (case hk => ((repeat first | with_reducible exact b2 | with_reducible exact heap_new _ _ | with_reducible exact heap_next _ _ _ | with_reducible exact heap_third _ _ _ _ | with_reducible refine hp_dr ?_ | (with_reducible refine hp_ne ?_ ?_; focus omega) | (with_reducible refine hp_al ?_ ?_; focus (first | omega | (simp <;> omega))) | with_reducible apply hp_set) <;> rfl)))
end Go.Proofs.YtjkhcplnedcmeaaGreatDoor
namespace Go.Proofs.YtjkhcplnedcmeaaGreatDoor
open Go.RowKit
set_option linter.unusedVariables false
set_option linter.unusedSimpArgs false

/-- Stretches as cells. -/
def fs : List (Nat × Nat) → List Value
  | [] => []
  | t :: r => .int .u64 (t.1 : Int) :: .int .u64 (t.2 : Int) :: fs r
theorem fs_len : ∀ l, (fs l).length = l.length * 2
  | [] => rfl
  | t :: r => by simp only [fs, List.length_cons, fs_len r]; omega
theorem fs_app : ∀ l m, fs (l ++ m) = fs l ++ fs m
  | [], m => rfl
  | t :: r, m => by simp only [List.cons_append, fs, fs_app r m]
theorem fs_get : ∀ (l : List (Nat × Nat)) (k : Nat) (t : Nat × Nat), l[k]? = some t → (fs l)[k * 2]? = some (.int .u64 (t.1 : Int)) ∧ (fs l)[k * 2 + 1]? = some (.int .u64 (t.2 : Int))
  | [], k, t, h => by simp at h
  | u :: r, 0, t, h => by simp at h; subst h; exact ⟨rfl, rfl⟩
  | u :: r, k + 1, t, h => by
    have := fs_get r k t (by simpa using h)
    have e : (k + 1) * 2 = k * 2 + 1 + 1 := by omega
    rw [e]
    simpa [fs] using this
theorem fs_one : ∀ (l : List (Nat × Nat)), ∀ u ∈ fs l, u.oneCell' = true
  | [], u, h => by cases h
  | t :: r, u, h => by
    simp only [fs, List.mem_cons] at h
    rcases h with rfl | rfl | h
    · rfl
    · rfl
    · exact fs_one r u h
/-- A row of stretches in memory. -/
def Spn (w : World) (v : Value) (l : List (Nat × Nat)) : Prop :=
  ∃ ad cap, v = .slice ad l.length cap ∧ ∀ k t, l[k]? = some t → ∃ g off, ad = some ⟨g, off, none⟩ ∧ g < w.heap.size ∧ w.cell? ⟨g, off + k * 2, none⟩ = some (.int .u64 (t.1 : Int)) ∧ w.cell? ⟨g, off + k * 2 + 1, none⟩ = some (.int .u64 (t.2 : Int))
theorem Spn.nw {w w' : World} {v : Value} {l : List (Nat × Nat)} (h : Spn w v l) (n : Nw w w') : Spn w' v l := by
  obtain ⟨ad, cap, rfl, h⟩ := h
  refine ⟨ad, cap, rfl, fun k t ht => ?_⟩
  obtain ⟨g, off, rfl, h1, h2, h3⟩ := h k t ht
  exact ⟨g, off, rfl, Nat.lt_of_lt_of_le h1 n.size, n.cellOf h2, n.cellOf h3⟩
theorem Spn.of {w : World} {base : Nat} {v : Value} {l : List (Nat × Nat)} (h : w.ownsRow base 123 2 v l.length (fs l)) : Spn w v l := by
  have hlt := h.lt
  rcases h.2 with ⟨rfl, hn⟩ | ⟨g, cap, cur, rfl, _⟩
  · have : l = [] := List.length_eq_zero_iff.1 hn
    subst this
    exact ⟨none, 0, rfl, fun k t ht => by simp at ht⟩
  · refine ⟨_, _, rfl, fun k t ht => ⟨g, 0, rfl, (hlt g rfl).2, ?_, ?_⟩⟩
    · have := h.cells (g := g) rfl (k * 2) _ (fs_get l k t ht).1
      rw [addZ] at this
      rw [Nat.zero_add]; exact this
    · have := h.cells (g := g) rfl (k * 2 + 1) _ (fs_get l k t ht).2
      rw [addZ] at this
      rw [Nat.zero_add]; exact this
theorem Spn.len {w : World} {v : Value} {l : List (Nat × Nat)} (h : Spn w v l) : ∃ ad cap, v = .slice ad l.length cap := by
  obtain ⟨ad, cap, rfl, _⟩ := h; exact ⟨ad, cap, rfl⟩

end Go.Proofs.YtjkhcplnedcmeaaGreatDoor
namespace Go.Proofs.YtjkhcplnedcmeaaGreatDoor
open Go.RowKit
set_option linter.unusedVariables false
set_option linter.unusedSimpArgs false

/-- Appended to: in its own block, or in a new one, and all else is left. -/
def Two (w w' : World) (e : TypeId) (size : Nat) (v v' : Value) (n m : Nat) (xs : List Value) : Prop :=
  (∃ g cap, v = .slice (some ⟨g, 0, none⟩) n cap ∧ v' = .slice (some ⟨g, 0, none⟩) (n + m) cap ∧ w.grownBy w' (some g)) ∨ (w'.ownsRow w.heap.size e size v' (n + m) xs ∧ w.grownBy w' none)
theorem own_mono {w : World} {base base' : Nat} {e : TypeId} {size : Nat} {v : Value} {n : Nat} {xs : List Value} (h : w.ownsRow base e size v n xs) (hb : base' ≤ base) : w.ownsRow base' e size v n xs :=
  ⟨h.1, h.2.imp id fun ⟨g, cap, cur, h1, h2, h3⟩ => ⟨g, cap, cur, h1, Nat.le_trans hb h2, h3⟩⟩
theorem run_two {P : Program} (w : World) (base : Nat) (t ty e : TypeId) (i : TypeInfo) (z : Value) (size bytes : Nat) (ht : P.underlying t = some (.slice e)) (hi : P.info? e = some i) (hz : i.zero = some z)
    (hsize : i.size = size) (hby : i.bytes = bytes) (hzs : z.cells.size = size) (hsz : 0 < size)
    (v : Value) (n : Nat) (xs : List Value) (hown : w.ownsRow base e size v n xs)
    (a : Addr) (m c : Nat) (news : List Value) (hl : news.length = m * size) (hnews : ∀ j u, news[j]? = some u → w.cell? (a.add j) = some u) (h1 : ∀ u ∈ news, u.oneCell' = true)
    (h63 : n + m ≤ maxLen) (hbytes : (n + m) * bytes ≤ 140737488355328) (hbase : base ≤ w.heap.size) :
    ∃ v' w', (Builtin.append_ #[t, t] ty #[v, .slice (some a) m c]).run P w = .ok v' w' ∧ w'.ownsRow base e size v' (n + m) (xs ++ news) ∧ Two w w' e size v v' n m (xs ++ news) := by
  have h0 := hown
  rcases hown.2 with ⟨rfl, hn⟩ | ⟨g, cap, cur, rfl, _⟩
  · subst hn
    obtain rfl : xs = [] := List.length_eq_zero_iff.1 (by rw [h0.1]; simp)
    obtain ⟨v', w', hr, h2, h3, _⟩ := run_append_own (P := P) w w.heap.size t ty e i z size bytes ht hi hz hsize hby hzs hsz _ 0 [] (World.ownsRow_nil w _ _ _) a m c news hl hnews h1 h63 hbytes (Nat.le_refl _)
    exact ⟨v', w', hr, own_mono h2 hbase, .inr ⟨h2, h3⟩⟩
  · by_cases hroom : n + m ≤ cap
    · obtain ⟨w', hr, h2, h3⟩ := run_append_own_spare (P := P) w base t ty e i size ht hi hsize g n cap xs h0 a m c news hl hnews h1 hroom
      exact ⟨_, w', hr, h2, .inl ⟨g, cap, rfl, rfl, h3⟩⟩
    · obtain ⟨v', w', hr, h2, h3⟩ := run_append_arg_grows (P := P) w t ty e i z size bytes ht hi hz hsize hby hzs hsz ⟨g, 0, none⟩ n cap xs h0.1 (h0.cells (g := g) rfl) a m c news hl hnews (by omega) h63 hbytes
      exact ⟨v', w', hr, own_mono h2 hbase, .inr ⟨h2, h3⟩⟩
theorem wpList_two {P : Program} (w : World) {ops : Array Oper} {rest : List Oper} {o : Oper} {a : Act} {Q : Exit → Act → World → Prop} (hgd : o.guard = none) (s x : Operand) (t : TypeId)
    (ho : o.op = .call { callee := .builtin .append, args := #[s, x], argTypes := #[t, t] })
    (base : Nat) (e : TypeId) (i : TypeInfo) (z : Value) (size bytes : Nat) (ht : P.underlying t = some (.slice e)) (hi : P.info? e = some i) (hz : i.zero = some z)
    (hsize : i.size = size) (hby : i.bytes = bytes) (hzs : z.cells.size = size) (hsz : 0 < size)
    (v : Value) (n : Nat) (xs : List Value) (hs : a.eval s = v) (hown : w.ownsRow base e size v n xs)
    (ad : Addr) (m c : Nat) (news : List Value) (hx : a.eval x = .slice (some ad) m c) (hl : news.length = m * size) (hnews : ∀ j u, news[j]? = some u → w.cell? (ad.add j) = some u) (h1 : ∀ u ∈ news, u.oneCell' = true)
    (h63 : n + m ≤ maxLen) (hbytes : (n + m) * bytes ≤ 140737488355328) (hbase : base ≤ w.heap.size)
    (h : ∀ v' w', w'.ownsRow base e size v' (n + m) (xs ++ news) → Two w w' e size v v' n m (xs ++ news) → wpList P ops Q rest (a.put o.dst v') w') :
    wpList P ops Q (o :: rest) a w := by
  refine wpList_plain hgd fun K hK => ?_
  obtain ⟨v', w', hr, h2, h3⟩ := run_two (P := P) w base t o.type e i z size bytes ht hi hz hsize hby hzs hsz v n xs hown ad m c news hl hnews h1 h63 hbytes hbase
  unfold Oper.wp execOp
  simp only [ho, resolve, invoke, builtin, Sem.run_bind, Sem.run_pure, Result.andThen_ok, List.map_toArray, List.map_cons, List.map_nil, hs, hx, hr]
  exact hK _ _ (h v' w' h2 h3)
/-- Where a row lies behind an append: where it lay, or in a block that was not there. -/
def Stays (w : World) (v v' : Value) : Prop := v'.ownBlock = v.ownBlock ∨ ∃ g, v'.ownBlock = some g ∧ w.heap.size ≤ g
theorem Stays.refl (w : World) (v : Value) : Stays w v v := .inl rfl
theorem Stays.tr {a b : World} {x y z : Value} (h : Stays a x y) (k : Stays b y z) (hs : a.heap.size ≤ b.heap.size) : Stays a x z := by
  rcases k with e | ⟨g, hg, hl⟩
  · rcases h with e2 | ⟨g, hg, hl⟩
    · exact .inl (e.trans e2)
    · exact .inr ⟨g, e.trans hg, hl⟩
  · exact .inr ⟨g, hg, by omega⟩
theorem Two.stays {w w' : World} {e : TypeId} {size : Nat} {v v' : Value} {n m : Nat} {xs : List Value} (h : Two w w' e size v v' n m xs) (hm : 0 < n + m) : Stays w v v' := by
  rcases h with ⟨g, cap, rfl, rfl, _⟩ | ⟨ho, _⟩
  · exact .inl rfl
  · rcases ho.2 with ⟨_, h0⟩ | ⟨g, cap, cur, rfl, hb, _⟩
    · omega
    · exact .inr ⟨g, rfl, hb⟩
theorem Two.fr {w w' : World} {e : TypeId} {size : Nat} {v v' : Value} {n m : Nat} {xs : List Value} (h : Two w w' e size v v' n m xs) : Fr (fun k => v.ownBlock = some k) w w' := by
  rcases h with ⟨g, cap, rfl, rfl, hg⟩ | ⟨_, hg⟩
  · exact (Fr.refl _ w).grown hg (fun k hk _ => hk)
  · exact (Fr.refl _ w).grown hg (fun k hk _ => by cases hk)
/-- All that is left of what a row's writer may turn. -/
theorem Fr.stays {bp : Nat} {a b c : World} {x y : Value} (h : Fr (fun k => k = bp ∨ x.ownBlock = some k) a b) (k : Fr (fun k => k = bp ∨ y.ownBlock = some k) b c) (hs : Stays a x y) : Fr (fun k => k = bp ∨ x.ownBlock = some k) a c := by
  refine h.trans k (fun j hj q => ?_)
  rcases q with q | q
  · exact .inl q
  · rcases hs with e | ⟨g, hg, hl⟩
    · exact .inr (by rw [← e]; exact q)
    · rw [hg] at q; injection q with q; omega
theorem step_append_own {P : Program} {ops : Array Oper} {o : Oper} {a : Act} {w : World} {K : Act → World → Prop} {Q : Exit → Act → World → Prop} {E : Prop}
    (hg : o.guard = none) (s x : Operand) (t : TypeId) (hop : o.op = Op.call { callee := Callee.builtin Builtin.append, args := #[s, x], argTypes := #[t, t] })
    (base : Nat) (e : TypeId) (i : TypeInfo) (z : Value) (size bytes : Nat) (ht : P.underlying t = some (.slice e)) (hi : P.info? e = some i) (hz : i.zero = some z) (hsize : i.size = size) (hby : i.bytes = bytes) (hzs : z.cells.size = size) (hsz : 0 < size)
    (v : Value) (n : Nat) (xs : List Value) (hs : a.eval s = v) (hown : w.ownsRow base e size v n xs)
    (ad : Addr) (m c : Nat) (news : List Value) (hx : a.eval x = .slice (some ad) m c) (hl : news.length = m * size) (hnews : ∀ j u, news[j]? = some u → w.cell? (ad.add j) = some u) (h1 : ∀ u ∈ news, u.oneCell' = true)
    (h63 : n + m ≤ maxLen) (hbytes : (n + m) * bytes ≤ 140737488355328) (hbase : base ≤ w.heap.size)
    (hK : ∀ v' w', w'.ownsRow base e size v' (n + m) (xs ++ news) → w.grownBy w' v.ownBlock → K (a.put o.dst v') w') :
    if Region.wanted o (yielded ops a.tmps) = true then Oper.wp P o a w K Q else E := by
  have hw : Region.wanted o (yielded ops a.tmps) = true := by simp [Region.wanted, hg]
  rw [if_pos hw]
  exact wp_append_own w s x t hop base e i z size bytes ht hi hz hsize hby hzs hsz v n xs hs hown ad m c news hx hl hnews h1 h63 hbytes hbase (fun v' w' p q _ => hK v' w' p q)

end Go.Proofs.YtjkhcplnedcmeaaGreatDoor
namespace Go.Proofs.YtjkhcplnedcmeaaGreatDoor
open Go.RowKit
set_option linter.unusedVariables false
set_option linter.unusedSimpArgs false

theorem infoS : (Tryz.prog.info? 123).map (fun i => (i.zero, i.size, i.bytes)) = some (some (sp 0 0), 2, 16) := by kernel_rfl
theorem sp_new {w : World} (b e : Int) (t : TypeId) : ∀ j u, [Value.int .u64 b, .int .u64 e][j]? = some u → (w.alloc (.cells #[.int .u64 b, .int .u64 e] t)).cell? ((⟨w.heap.size, 0, none⟩ : Addr).add j) = some u := by
  intro j u h
  rw [addZ, cell_of (heap_new w _)]
  match j, h with
  | 0, h => exact h
  | 1, h => exact h
/-- The function that Path makes. -/
abbrev dnP (bi bd bp : Nat) : Value := .func (.func 143) #[] #[.pointer (some ⟨bi, 0, none⟩), .pointer (some ⟨bd, 0, none⟩), .pointer (some ⟨bp, 0, none⟩)]
/-- The variables that it shares with Path: a number, itself (of a type), the row. -/
structure Pst (w : World) (bi bd bp base : Nat) (fv : Value) (tf : TypeId) (i : Nat) (v : Value) (l : List (Nat × Nat)) : Prop where
  idx : w.heap[bi]? = some (.cells #[.int .u64 (i : Int)] 41)
  dn : w.heap[bd]? = some (.cells #[fv] tf)
  pt : w.heap[bp]? = some (.cells #[v] 199)
  own : w.ownsRow base 123 2 v l.length (fs l)
  lt : bi < base ∧ bd < base ∧ bp < base ∧ bi ≠ bp ∧ bd ≠ bp ∧ base ≤ w.heap.size
section
variable {bi bd bp base i : Nat} {fv : Value} {tf : TypeId} {v : Value} {l : List (Nat × Nat)}
theorem Pst.nw {w w' : World} (h : Pst w bi bd bp base fv tf i v l) (n : Nw w w') : Pst w' bi bd bp base fv tf i v l :=
  ⟨(n.block _ (heap_lt h.idx) (fun f => f)).trans h.idx, (n.block _ (heap_lt h.dn) (fun f => f)).trans h.dn, (n.block _ (heap_lt h.pt) (fun f => f)).trans h.pt, ownsRow_keep h.own (fun g hg => n.block g (h.own.lt g hg).2 (fun f => f)), by have := h.lt; have := n.size; omega⟩
theorem Pst.ci {w : World} (h : Pst w bi bd bp base fv tf i v l) : w.cell? ⟨bi, 0, none⟩ = some (.int .u64 (i : Int)) := (cell_of h.idx 0).trans rfl
theorem Pst.cd {w : World} (h : Pst w bi bd bp base fv tf i v l) : w.cell? ⟨bd, 0, none⟩ = some fv := (cell_of h.dn 0).trans rfl
theorem Pst.cp {w : World} (h : Pst w bi bd bp base fv tf i v l) : w.cell? ⟨bp, 0, none⟩ = some v := (cell_of h.pt 0).trans rfl
/-- What the function leaves: blocks of its caller's. -/
theorem Pst.keeps {w w' : World} (h : Pst w bi bd bp base fv tf i v l) (hf : Fr (fun k => k = bp ∨ v.ownBlock = some k) w w') {W : World} (hW : Nw W w) {k : Nat} (hk : W.heap.size ≤ k) (hk2 : k < w.heap.size) (hb : base ≤ W.heap.size) (ho : ∀ g, v.ownBlock = some g → g < W.heap.size) : w'.heap[k]? = w.heap[k]? :=
  hf.block k hk2 (fun q => by
    rcases q with q | q
    · have := h.lt; omega
    · have := ho k q; omega)
/-- One more stretch is put behind them. -/
theorem Pst.put {w w' : World} {b e : Nat} {v' : Value} (h : Pst w bi bd bp base fv tf i v l) (ho : w'.ownsRow base 123 2 v' (l.length + 1) (fs l ++ [.int .u64 (b : Int), .int .u64 (e : Int)])) (ht : Fr (fun k => v.ownBlock = some k) w w') :
    Pst (w'.setCell ⟨bp, 0, none⟩ v') bi bd bp base fv tf i v' (l ++ [(b, e)]) ∧ Fr (fun k => k = bp ∨ v.ownBlock = some k) w (w'.setCell ⟨bp, 0, none⟩ v') := by
  have hk : ∀ k, k < base → k < w.heap.size → w'.heap[k]? = w.heap[k]? := fun k hk hk2 => ht.block k hk2 (fun q => by have := (h.own.lt k q).1; omega)
  have hl := h.lt
  refine ⟨⟨?_, ?_, ?_, ?_, ?_⟩, ?_⟩
  · rw [heap_set_ne hl.2.2.2.1]; exact (hk _ hl.1 (heap_lt h.idx)).trans h.idx
  · rw [heap_set_ne hl.2.2.2.2.1]; exact (hk _ hl.2.1 (heap_lt h.dn)).trans h.dn
  · exact hp_set ((hk _ hl.2.2.1 (heap_lt h.pt)).trans h.pt) rfl
  · rw [List.length_append, fs_app]
    exact ownsRow_setCell_other ho (fun q => by have := (ho.lt _ q).1; simp only at this; omega) _
  · have := ht.size
    simp only [World.setCell, Array.size_modify]
    omega
  · exact (ht.mono (fun j _ q => .inr q)).setCell _ _ (fun _ => .inl rfl)
theorem Stays.mono {a b : World} {x y : Value} (h : Stays b x y) (hs : a.heap.size ≤ b.heap.size) : Stays a x y := h.imp id fun ⟨g, hg, hl⟩ => ⟨g, hg, by omega⟩
/-- Behind the call of itself one more stretch is put there. -/
theorem Pst.fin {w wA w2 w3 w5 : World} {b e : Nat} {v2 v' : Value} {m : List (Nat × Nat)} (nA : Nw w wA) (s2 : Stays wA v v2) (f2 : Fr (fun k => k = bp ∨ v.ownBlock = some k) wA w2) (p2 : Pst w2 bi bd bp base fv tf i v2 m) (n2 : Nw w2 w3)
    (o5 : w5.ownsRow base 123 2 v' (m.length + 1) (fs m ++ [.int .u64 (b : Int), .int .u64 (e : Int)])) (t5 : Two w3 w5 123 2 v2 v' m.length 1 (fs m ++ [.int .u64 (b : Int), .int .u64 (e : Int)])) :
    Pst (w5.setCell ⟨bp, 0, none⟩ v') bi bd bp base fv tf i v' (m ++ [(b, e)]) ∧ Stays w v v' ∧ Fr (fun k => k = bp ∨ v.ownBlock = some k) w (w5.setCell ⟨bp, 0, none⟩ v') := by
  obtain ⟨a, c⟩ := (p2.nw n2).put o5 t5.fr
  have sz := nA.size
  have sz2 := f2.size
  have sz3 := n2.size
  have s2' : Stays w v v2 := s2.mono sz
  refine ⟨a, s2'.tr (t5.stays (by omega)) (by omega), ?_⟩
  have f2' : Fr (fun k => k = bp ∨ v.ownBlock = some k) w w3 := ((nA.mono (fun _ _ f => f.elim)).trans f2 (fun _ _ h => h)).trans n2 (fun _ _ f => f.elim)
  exact f2'.stays c s2'
end

set_option maxRecDepth 100000 in
set_option maxHeartbeats 2000000 in
theorem down_any (bi bd bp base i : Nat) : ∀ (n b e : Nat) (w : World) (v : Value) (l : List (Nat × Nat)), e - b ≤ n → b ≤ i → i < e → e ≤ 9223372036854775808 → l.length + (pth i b e).length ≤ 200 → Pst w bi bd bp base (dnP bi bd bp) 243 i v l →
    Calls Tryz.prog 143 #[sp b e, .pointer (some ⟨bi, 0, none⟩), .pointer (some ⟨bd, 0, none⟩), .pointer (some ⟨bp, 0, none⟩)] w fun x w' => x = .returned (.tuple #[]) ∧ ∃ v', Pst w' bi bd bp base (dnP bi bd bp) 243 i v' (l ++ pth i b e) ∧ Stays w v v' ∧ Fr (fun k => k = bp ∨ v.ownBlock = some k) w w' := by
  obtain ⟨i0, hi, hz0, hz1, hz2⟩ := info_parts infoS
  intro n
  induction n with
  | zero => intro b e w v l h1 h2 h3; omega
  | succ n ih =>
    intro b e w v l hn hb he h63 hlen hP
    have IH := show Hid _ from ih
    clear ih
    have HP : Hid (Pst w bi bd bp base (dnP bi bd bp) 243 i v l) := hP
    clear hP
    by_cases h2 : 2 ≤ e - b
    · have h1 := spl_lt h2
      have h0 := spl_pos (e - b)
      have hq : ((e : Int) - (b : Int) == 1) = false := by simp; omega
      have QC := show Hid _ from cut_any b e h2 h63
      by_cases hlt : i < b + spl (e - b)
      · have HL : Hid (pth i b e = pth i b (b + spl (e - b)) ++ [(b + spl (e - b), e)]) := pth_left h2 hlt
        rw [HL.out]
        rw [HL.out] at hlen
        obtain ⟨k, hk⟩ : ∃ k, k = b + spl (e - b) := ⟨_, rfl⟩
        rw [← hk] at QC hlt hlen HL ⊢
        have hkb : b < k ∧ k < e := by omega
        have hik : (i : Int) < (k : Int) := by omega
        clear hk h1 h0 HL
        obtain ⟨m, hm⟩ : ∃ m, m = l ++ pth i b k := ⟨_, rfl⟩
        have hml : m.length ≤ 199 := by rw [hm]; simp at hlen ⊢; omega
        rw [← List.append_assoc, ← hm]
        have HM : Hid (l ++ pth i b k = m) := hm.symm
        clear hm
        go_enter Tryz.func143, Tryz.ntmps143
        go_wp2_with fail
        refine (QC.out _).mono ?_
        rintro x w1 ⟨rfl, n1⟩
        have nA : Nw w w1 := Nw.tr (nwa w _) n1
        have HP1 : Hid (Pst w1 bi bd bp base (dnP bi bd bp) 243 i v l) := HP.out.nw nA
        have ci := HP1.out.ci
        have cdn := HP1.out.cd
        have li := heap_lt HP1.out.idx
        have ld := heap_lt HP1.out.dn
        have NA : Hid (Nw w w1) := nA
        clear n1 nA
        go_wp2_with fail
        refine (IH.out b k _ v l (by omega) hb hlt (by omega) (by simp at hlen; omega) (HP1.out.nw ((nwa w1 _).alloc _))).mono ?_
        rintro x w2 ⟨rfl, v2, p2, s2, f2⟩
        have hb2 := HP1.out.lt.2.2.2.2.2
        have hr : w2.heap[w1.heap.size + 1]? = some (.cells #[.int .u64 (k : Int), .int .u64 (e : Int)] 123) := ((HP1.out.nw ((nwa w1 _).alloc _)).keeps f2 ((nwa w1 _).alloc _) (by omega) (by simp; try omega) hb2 (fun g hg => (HP1.out.own.lt g hg).2)).trans (by first | exact heap_next _ _ _ | (repeat first | with_reducible exact heap_new _ _ | with_reducible exact heap_new _ _ | with_reducible exact heap_next _ _ _ | with_reducible exact heap_third _ _ _ _ | with_reducible refine hp_dr ?_ | (with_reducible refine hp_ne ?_ ?_; focus omega) | (with_reducible refine hp_al ?_ ?_; focus (first | omega | (simp <;> omega))) | with_reducible apply hp_set) <;> rfl)
        rw [HM.out] at p2
        clear hlen
        obtain ⟨va, vc, rfl⟩ := ownsRow_form p2.own
        have cp := p2.cp
        have lp := heap_lt p2.pt
        have r0 := cell2a hr
        have r1 := cell2b hr
        have lr := heap_lt hr
        have own5 : Hid ((w2.alloc (.cells #[.int .u64 (k : Int), .int .u64 (e : Int)] 123)).ownsRow base 123 2 (.slice va m.length vc) m.length (fs m)) := p2.own.alloc _
        have HNew : Hid (∀ j u, [Value.int .u64 (k : Int), .int .u64 (e : Int)][j]? = some u → (w2.alloc (.cells #[.int .u64 (k : Int), .int .u64 (e : Int)] 123)).cell? ((⟨w2.heap.size, 0, none⟩ : Addr).add j) = some u) := sp_new (w := w2) (k : Int) (e : Int) 123
        have HB5 : Hid (base ≤ (w2.alloc (.cells #[.int .u64 (k : Int), .int .u64 (e : Int)] 123)).heap.size) := (p2.nw (nwa w2 _)).lt.2.2.2.2.2
        have HF : Hid (∀ v' w5, w5.ownsRow base 123 2 v' (m.length + 1) (fs m ++ [.int .u64 (k : Int), .int .u64 (e : Int)]) → Two (w2.alloc (.cells #[.int .u64 (k : Int), .int .u64 (e : Int)] 123)) w5 123 2 (.slice va m.length vc) v' m.length 1 (fs m ++ [.int .u64 (k : Int), .int .u64 (e : Int)]) → Pst (w5.setCell ⟨bp, 0, none⟩ v') bi bd bp base (dnP bi bd bp) 243 i v' (m ++ [(k, e)]) ∧ Stays w v v' ∧ Fr (fun k => k = bp ∨ v.ownBlock = some k) w (w5.setCell ⟨bp, 0, none⟩ v')) := fun v' w5 o5 t5 => Pst.fin ((NA.out.alloc _).alloc _) s2 f2 p2 (nwa w2 _) o5 t5
        have HC : Hid (∀ w5, Fr (fun k => (Value.slice va m.length vc).ownBlock = some k) (w2.alloc (.cells #[.int .u64 (k : Int), .int .u64 (e : Int)] 123)) w5 → w5.heap[bp]? = some (.cells #[.slice va m.length vc] 199)) := fun w5 f5 => (f5.block bp (by simp; omega) (fun q => by have := (p2.own.lt bp q).1; have := p2.lt; omega)).trans (by (repeat first | with_reducible exact p2.pt | with_reducible exact heap_new _ _ | with_reducible exact heap_next _ _ _ | with_reducible exact heap_third _ _ _ _ | with_reducible refine hp_dr ?_ | (with_reducible refine hp_ne ?_ ?_; focus omega) | (with_reducible refine hp_al ?_ ?_; focus (first | omega | (simp <;> omega))) | with_reducible apply hp_set) <;> rfl)
        clear p2 s2 f2 hr
        go_wp2_with (at_builtin; refine wpList_two _ rfl (.tmp 25) (.tmp 27) 199 rfl base 123 i0 (sp 0 0) 2 16 Tryz.underlying199 hi hz0 hz1 hz2 rfl (by decide) (.slice va m.length vc) m.length (fs m) rfl own5.out ⟨w2.heap.size, 0, none⟩ 1 1 [.int .u64 (k : Int), .int .u64 (e : Int)] rfl rfl HNew.out (by simp [Value.oneCell']) (by unfold maxLen; omega) (by omega) HB5.out ?_; intro v' w5 o5 t5; have hb5 := HC.out w5 t5.fr; have cb5 : w5.cell? ⟨bp, 0, none⟩ = some (.slice va m.length vc) := (cell_of hb5 0).trans rfl; have fb5 := frozen_of hb5 0; have HF5 := show Hid _ from HF.out v' w5 o5 t5; obtain ⟨xa, xc, rfl⟩ := ownsRow_form o5; clear o5 t5 hb5)
        go_end0
        exact ⟨rfl, _, HF5.out⟩
      · have HL : Hid (pth i b e = pth i (b + spl (e - b)) e ++ [(b, b + spl (e - b))]) := pth_right h2 hlt
        rw [HL.out]
        rw [HL.out] at hlen
        obtain ⟨k, hk⟩ : ∃ k, k = b + spl (e - b) := ⟨_, rfl⟩
        rw [← hk] at QC hlt hlen HL ⊢
        have hkb : b < k ∧ k < e := by omega
        have hik : ¬ (i : Int) < (k : Int) := by omega
        clear hk h1 h0 HL
        obtain ⟨m, hm⟩ : ∃ m, m = l ++ pth i k e := ⟨_, rfl⟩
        have hml : m.length ≤ 199 := by rw [hm]; simp at hlen ⊢; omega
        rw [← List.append_assoc, ← hm]
        have HM : Hid (l ++ pth i k e = m) := hm.symm
        clear hm
        go_enter Tryz.func143, Tryz.ntmps143
        go_wp2_with fail
        refine (QC.out _).mono ?_
        rintro x w1 ⟨rfl, n1⟩
        have nA : Nw w w1 := Nw.tr (nwa w _) n1
        have HP1 : Hid (Pst w1 bi bd bp base (dnP bi bd bp) 243 i v l) := HP.out.nw nA
        have ci := HP1.out.ci
        have cdn := HP1.out.cd
        have li := heap_lt HP1.out.idx
        have ld := heap_lt HP1.out.dn
        have NA : Hid (Nw w w1) := nA
        clear n1 nA
        go_wp2_with fail
        refine (IH.out k e _ v l (by omega) (by omega) he h63 (by simp at hlen; omega) (HP1.out.nw ((nwa w1 _).alloc _))).mono ?_
        rintro x w2 ⟨rfl, v2, p2, s2, f2⟩
        have hb2 := HP1.out.lt.2.2.2.2.2
        have hr : w2.heap[w1.heap.size]? = some (.cells #[.int .u64 (b : Int), .int .u64 (k : Int)] 123) := ((HP1.out.nw ((nwa w1 _).alloc _)).keeps f2 ((nwa w1 _).alloc _) (by omega) (by simp; try omega) hb2 (fun g hg => (HP1.out.own.lt g hg).2)).trans (by first | exact heap_next _ _ _ | (repeat first | with_reducible exact heap_new _ _ | with_reducible exact heap_new _ _ | with_reducible exact heap_next _ _ _ | with_reducible exact heap_third _ _ _ _ | with_reducible refine hp_dr ?_ | (with_reducible refine hp_ne ?_ ?_; focus omega) | (with_reducible refine hp_al ?_ ?_; focus (first | omega | (simp <;> omega))) | with_reducible apply hp_set) <;> rfl)
        rw [HM.out] at p2
        clear hlen
        obtain ⟨va, vc, rfl⟩ := ownsRow_form p2.own
        have cp := p2.cp
        have lp := heap_lt p2.pt
        have r0 := cell2a hr
        have r1 := cell2b hr
        have lr := heap_lt hr
        have own5 : Hid ((w2.alloc (.cells #[.int .u64 (b : Int), .int .u64 (k : Int)] 123)).ownsRow base 123 2 (.slice va m.length vc) m.length (fs m)) := p2.own.alloc _
        have HNew : Hid (∀ j u, [Value.int .u64 (b : Int), .int .u64 (k : Int)][j]? = some u → (w2.alloc (.cells #[.int .u64 (b : Int), .int .u64 (k : Int)] 123)).cell? ((⟨w2.heap.size, 0, none⟩ : Addr).add j) = some u) := sp_new (w := w2) (b : Int) (k : Int) 123
        have HB5 : Hid (base ≤ (w2.alloc (.cells #[.int .u64 (b : Int), .int .u64 (k : Int)] 123)).heap.size) := (p2.nw (nwa w2 _)).lt.2.2.2.2.2
        have HF : Hid (∀ v' w5, w5.ownsRow base 123 2 v' (m.length + 1) (fs m ++ [.int .u64 (b : Int), .int .u64 (k : Int)]) → Two (w2.alloc (.cells #[.int .u64 (b : Int), .int .u64 (k : Int)] 123)) w5 123 2 (.slice va m.length vc) v' m.length 1 (fs m ++ [.int .u64 (b : Int), .int .u64 (k : Int)]) → Pst (w5.setCell ⟨bp, 0, none⟩ v') bi bd bp base (dnP bi bd bp) 243 i v' (m ++ [(b, k)]) ∧ Stays w v v' ∧ Fr (fun k => k = bp ∨ v.ownBlock = some k) w (w5.setCell ⟨bp, 0, none⟩ v')) := fun v' w5 o5 t5 => Pst.fin ((NA.out.alloc _).alloc _) s2 f2 p2 (nwa w2 _) o5 t5
        have HC : Hid (∀ w5, Fr (fun k => (Value.slice va m.length vc).ownBlock = some k) (w2.alloc (.cells #[.int .u64 (b : Int), .int .u64 (k : Int)] 123)) w5 → w5.heap[bp]? = some (.cells #[.slice va m.length vc] 199)) := fun w5 f5 => (f5.block bp (by simp; omega) (fun q => by have := (p2.own.lt bp q).1; have := p2.lt; omega)).trans (by (repeat first | with_reducible exact p2.pt | with_reducible exact heap_new _ _ | with_reducible exact heap_next _ _ _ | with_reducible exact heap_third _ _ _ _ | with_reducible refine hp_dr ?_ | (with_reducible refine hp_ne ?_ ?_; focus omega) | (with_reducible refine hp_al ?_ ?_; focus (first | omega | (simp <;> omega))) | with_reducible apply hp_set) <;> rfl)
        clear p2 s2 f2 hr
        go_wp2_with (at_builtin; refine wpList_two _ rfl (.tmp 32) (.tmp 34) 199 rfl base 123 i0 (sp 0 0) 2 16 Tryz.underlying199 hi hz0 hz1 hz2 rfl (by decide) (.slice va m.length vc) m.length (fs m) rfl own5.out ⟨w2.heap.size, 0, none⟩ 1 1 [.int .u64 (b : Int), .int .u64 (k : Int)] rfl rfl HNew.out (by simp [Value.oneCell']) (by unfold maxLen; omega) (by omega) HB5.out ?_; intro v' w5 o5 t5; have hb5 := HC.out w5 t5.fr; have cb5 : w5.cell? ⟨bp, 0, none⟩ = some (.slice va m.length vc) := (cell_of hb5 0).trans rfl; have fb5 := frozen_of hb5 0; have HF5 := show Hid _ from HF.out v' w5 o5 t5; obtain ⟨xa, xc, rfl⟩ := ownsRow_form o5; clear o5 t5 hb5)
        go_end0
        exact ⟨rfl, _, HF5.out⟩
    · have hq : (e : Int) - (b : Int) = 1 := by omega
      rw [pth_one h2, List.append_nil]
      go_enter Tryz.func143, Tryz.ntmps143
      go_wp2_with fail
      exact bodyPost_ret (v := .tuple #[]) (by simp [results, Tryz.results143]) rfl ⟨rfl, v, HP.out.nw (nwa w _), Stays.refl _ _, (Fr.refl _ w).alloc _⟩
set_option maxRecDepth 100000 in
set_option maxHeartbeats 2000000 in
theorem path_yes (i n : Nat) (h : i < n) (hn : n ≤ 9223372036854775808) (w : World) :
    Calls Tryz.prog 105 #[.int .u64 (i : Int), .int .u64 (n : Int)] w fun x w' => ∃ v, x = .returned (.tuple #[v, .nilIface]) ∧ w'.ownsRow w.heap.size 123 2 v (pth i 0 n).length (fs (pth i 0 n)) ∧ Nw w w' := by
  have hin : (i : Int) < (n : Int) := by omega
  have hl : Hid ((pth i 0 n).length ≤ 63) := pth_len 63 i 0 n (by rw [p63]; omega)
  have hst : ∀ (W : World) (ad : Addr) (fn : Fn) (f c : Array Value), (store ad (.func fn f c)).run Tryz.prog W = stored Tryz.prog W ad (.func fn f c) .plain := fun W ad fn f c => run_store _ W ad _ .plain rfl
  go_enter Tryz.func105, Tryz.ntmps105
  go_wp2_with fail
  refine (down_any w.heap.size (w.heap.size + 1 + 1) (w.heap.size + 1) (w.heap.size + 1 + 1 + 1) i n 0 n _ (.slice none 0 0) [] (by omega) (by omega) h hn (by have := hl.out; simp; omega) ⟨by (repeat first | with_reducible exact heap_new _ _ | with_reducible exact heap_new _ _ | with_reducible exact heap_next _ _ _ | with_reducible exact heap_third _ _ _ _ | with_reducible refine hp_dr ?_ | (with_reducible refine hp_ne ?_ ?_; focus omega) | (with_reducible refine hp_al ?_ ?_; focus (first | omega | (simp <;> omega))) | with_reducible apply hp_set) <;> rfl, heap_third _ _ _ _, by (repeat first | with_reducible exact heap_next _ _ _ | with_reducible exact heap_new _ _ | with_reducible exact heap_next _ _ _ | with_reducible exact heap_third _ _ _ _ | with_reducible refine hp_dr ?_ | (with_reducible refine hp_ne ?_ ?_; focus omega) | (with_reducible refine hp_al ?_ ?_; focus (first | omega | (simp <;> omega))) | with_reducible apply hp_set) <;> rfl, World.ownsRow_nil _ _ _ _, by simp; omega⟩).mono ?_
  rintro x w1 ⟨rfl, v1, p1, s1, f1⟩
  rw [List.nil_append] at p1
  have cp := p1.cp
  have n1 : Hid (Nw w w1) := ((((nwa w _).alloc _).alloc _).mono (S' := fun k => w.heap.size ≤ k) (fun _ _ f => f.elim)).trans (f1.mono (S' := fun k => w.heap.size ≤ k) (fun j hj q => by
    rcases q with q | q
    · omega
    · cases q)) (fun _ _ h => h) |>.mono (fun j hj (q : w.heap.size ≤ j) => by omega)
  have ho : Hid (w1.ownsRow w.heap.size 123 2 v1 (pth i 0 n).length (fs (pth i 0 n))) := ownsRow_base p1.own (by omega)
  obtain ⟨va, vc, rfl⟩ := ownsRow_form p1.own
  have lp := heap_lt p1.pt
  clear p1 s1 f1
  go_wp2_with fail
  exact bodyPost_ret (v := .tuple #[.slice va (pth i 0 n).length vc, .nilIface]) (by simp [results, Tryz.results105]) rfl ⟨_, rfl, ho.out, n1.out⟩
end Go.Proofs.YtjkhcplnedcmeaaGreatDoor
