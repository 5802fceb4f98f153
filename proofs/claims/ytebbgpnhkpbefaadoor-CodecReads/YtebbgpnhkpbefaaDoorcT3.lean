/- Things that came in, all their fields told, where all of it together is of a bounded bulk. -/
import Derived.Test.YtebbgpnhkpbefaaDoorcY3
import Derived.Test.YtebbgpnhkpbefaaDoorcT2
namespace Go.Proofs.YtebbgpnhkpbefaaDoor
open Go.RowKit Go.ChangeShapes Go.WideShapes
set_option linter.unusedVariables false
set_option linter.unusedSimpArgs false
theorem bulk_mem {H : Type} {d : DataW H} : ∀ {l : List (DataW H)}, d ∈ l → Rows.uptoBulk d ≤ Rows.uptoBulkAll l
  | x :: r, h => by
    simp only [Rows.uptoBulkAll]
    rcases List.mem_cons.1 h with rfl | h
    · omega
    · have := bulk_mem h; omega
theorem bulk_all {H : Type} (k : Nat) : ∀ (l : List (DataW H)), (∀ d ∈ l, k ≤ Rows.uptoBulk d) → k * l.length ≤ Rows.uptoBulkAll l
  | [], _ => by simp
  | x :: r, h => by
    have h1 := bulk_all k r (fun d hd => h d (List.mem_cons_of_mem _ hd))
    have h2 := h x (List.mem_cons_self ..)
    simp only [Rows.uptoBulkAll, List.length_cons, Nat.mul_add, Nat.mul_one]
    omega
theorem tf_bulk {H : Type} {enc : TypeId × Value → H} {W : World} {sp : Nat → Bool} {held : Bool} {m : Nat} {cs : List Value} {x : DataW H × List MemPlace} (h : DataW.trod enc Tryd.prog W 0 sp held m 40 cs = some x) : (∃ kd n wd t lh, Tf cs.toArray kd n wd t lh ∧ t.size ≤ Rows.uptoBulk x.1) ∧ 7 ≤ Rows.uptoBulk x.1 := by
  obtain ⟨kd, n, wd, t, lh, hT⟩ := tf_of h
  obtain ⟨xs, m', _, hx, hl, hxl, hf⟩ := DataW.trod_struct Tryd.underlying40 h
  have hxl' : xs.length = 6 := hxl
  have h4 : DataW.trod enc Tryd.prog W 0 sp held m' 9 ((cs.drop 4).take (Tryd.prog.cellsOf 9)) = xs[4]? := hf 4 _ rfl
  rw [cells9, List.getElem?_eq_getElem (show 4 < xs.length by omega)] at h4
  obtain ⟨t', ht, hy, _⟩ := DataW.trod_string Tryd.underlying9 h4
  have c4 := get_of ht
  have c4' := hT.ct
  simp only [List.getElem?_toArray] at c4'
  rw [c4] at c4'
  cases c4'
  have hm : (DataW.lit (.string t.data.toList) : DataW H) ∈ xs.map (·.1) := List.mem_map.2 ⟨xs[4], List.getElem_mem _, by rw [hy]⟩
  have hb := bulk_mem hm
  have hlen := bulk_len (xs.map (·.1))
  rw [List.length_map, hxl'] at hlen
  have e : x.1 = .agg (xs.map (·.1)) := by rw [hx]
  have e2 : t.data.toList.length = t.size := by rw [Array.length_toList]; rfl
  rw [e]
  simp only [Rows.uptoBulk] at hb ⊢
  exact ⟨⟨kd, n, wd, t, lh, hT, by omega⟩, by omega⟩

theorem thf_of {H : Type} {enc : TypeId × Value → H} {W : World} {v : Value} {d : DataW H} {p : List MemPlace} (hv : ∃ a l c, v = .slice a l c) (h : DataW.Trod enc Tryd.prog W 0 (fun _ => true) true 22 v d p) (hb : Rows.uptoBulk d ≤ 1048576) : ∃ n A, Thf W v n A ∧ n ≤ 150000 := by
  obtain ⟨fuel, hf⟩ := h
  obtain ⟨a0, l0, c0, rfl⟩ := hv
  rcases Deep.open_slice Tryd.underlying22 hf with ⟨hcs, _⟩ | ⟨a, len, cap, m, n, D, Pl, hcs, _, hl, hm, hmm, hx, hel⟩
  · simp [Value.cells] at hcs
    obtain ⟨rfl, rfl, rfl⟩ := hcs
    exact ⟨0, fun _ => #[], ⟨fun i hi => absurd hi (by omega), fun i hi => absurd hi (by omega), none, 0, rfl, by omega, fun h0 => absurd h0 (by omega)⟩, by omega⟩
  · simp [Value.cells] at hcs
    obtain ⟨rfl, rfl, rfl⟩ := hcs
    simp only [if_true] at hmm
    subst hmm
    rw [cells34] at hel
    have e := congrArg Prod.fst hx
    simp only at e
    subst e
    simp only [Rows.uptoBulk] at hb
    have hmem : ∀ i, i < l0 → D i ∈ (List.range l0).map D := fun i hi => List.mem_map.2 ⟨i, List.mem_range.2 hi, rfl⟩
    have hch : ∀ i, i < l0 → ∃ cs : List Value, (∀ j, j < 37 → W.cell? ((a.add (i * 37)).add j) = cs[j]?) ∧ cs.length = 37 ∧ ∃ kd n wd t lh, Tf cs.toArray kd n wd t lh ∧ t.size ≤ 1048576 := by
      intro i hi
      obtain ⟨cs, hc, ht⟩ := hel i (by omega)
      obtain ⟨⟨kd, n, wd, t, lh, hT, hts⟩, _⟩ := tf_bulk ht
      have hbm := bulk_mem (hmem i hi)
      unfold World.cells? at hc
      rw [if_pos (Nat.zero_le _)] at hc
      exact ⟨cs, fun j hj => mapM_some_get hc j j (by simp [hj]), by simpa using hT.g.size, kd, n, wd, t, lh, hT, by simp only at hts; omega⟩
    have h7 := bulk_all 7 ((List.range l0).map D) (fun x hx => by
      obtain ⟨i, hi, rfl⟩ := List.mem_map.1 hx
      obtain ⟨cs, _, ht⟩ := hel i (by have := List.mem_range.1 hi; omega)
      exact (tf_bulk ht).2)
    simp only [List.length_map, List.length_range] at h7
    obtain ⟨f, hfun⟩ := Deep.choose_lt hch
    refine ⟨l0, fun i => (f i).toArray, ⟨fun i hi => (hfun i hi).2.2, fun i hi => by obtain ⟨kd, n, wd, t, lh, hT, _⟩ := (hfun i hi).2.2; exact ⟨kd, wd, hT.g⟩, some a, _, rfl, by unfold maxLen at hm; omega, fun h0 => ?_⟩, by omega⟩
    have hc0 := (hfun 0 h0).1 0 (by omega)
    obtain ⟨y, hy⟩ : ∃ y, (f 0)[0]? = some y := ⟨_, List.getElem?_eq_getElem (by rw [(hfun 0 h0).2.1]; omega)⟩
    rw [hy] at hc0
    obtain ⟨g, off, spot⟩ := a
    have hspot : spot = none := by simpa [Addr.add] using World.cell?_spot hc0
    subst hspot
    rw [addO, addO] at hc0
    refine ⟨g, off, rfl, World.block_lt_of_cell? W ⟨g, off + 0 * 37 + 0, none⟩ hc0, fun i hi j u hu => ?_⟩
    have hj : j < 37 := by
      have h1 := (Array.getElem?_eq_some_iff.1 hu).1
      have h2 := (hfun i hi).2.1
      simpa [h2] using h1
    have := (hfun i hi).1 j hj
    rw [addO, addO] at this
    rw [this]
    simpa using hu
end Go.Proofs.YtebbgpnhkpbefaaDoor
