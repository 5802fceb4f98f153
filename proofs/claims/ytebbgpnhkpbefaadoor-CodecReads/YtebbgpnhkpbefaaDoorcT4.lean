/- Things that came in, who they are for told besides. -/
import Derived.Test.YtebbgpnhkpbefaaDoorcT3
namespace Go.Proofs.YtebbgpnhkpbefaaDoor
open Go.RowKit Go.ChangeShapes Go.WideShapes
set_option linter.unusedVariables false
set_option linter.unusedSimpArgs false
def Thw (w : World) (v : Value) (n : Nat) (A : Nat → Array Value) : Prop :=
  (∀ i, i < n → ∃ who : Int, (A i)[0]? = some (.int .i64 who) ∧ -9223372036854775808 ≤ who ∧ who ≤ 9223372036854775807) ∧ Thf w v n A
theorem who_of {H : Type} {enc : TypeId × Value → H} {W : World} {sp : Nat → Bool} {held : Bool} {m : Nat} {cs : List Value} {x : DataW H × List MemPlace} (h : DataW.trod enc Tryd.prog W 0 sp held m 40 cs = some x) : ∃ who : Int, cs.toArray[0]? = some (.int .i64 who) ∧ -9223372036854775808 ≤ who ∧ who ≤ 9223372036854775807 := by
  obtain ⟨xs, m', _, _, hl, hxl, hf⟩ := DataW.trod_struct Tryd.underlying40 h
  have hxl' : xs.length = 6 := hxl
  have h0 : DataW.trod enc Tryd.prog W 0 sp held m' 3 ((cs.drop 0).take (Tryd.prog.cellsOf 3)) = xs[0]? := hf 0 _ rfl
  rw [cells3, List.getElem?_eq_getElem (show 0 < xs.length by omega)] at h0
  obtain ⟨who, hw, _, ww⟩ := DataW.trod_int Tryd.underlying3 h0
  have b := bounds_i64 ww
  exact ⟨who, by simpa using get_of hw, b.1, b.2⟩
theorem thw_of {H : Type} {enc : TypeId × Value → H} {W : World} {v : Value} {d : DataW H} {p : List MemPlace} (hv : ∃ a l c, v = .slice a l c) (h : DataW.Trod enc Tryd.prog W 0 (fun _ => true) true 22 v d p) (hb : Rows.uptoBulk d ≤ 1048576) : ∃ n A, Thw W v n A ∧ n ≤ 150000 := by
  obtain ⟨fuel, hf⟩ := h
  obtain ⟨a0, l0, c0, rfl⟩ := hv
  rcases Deep.open_slice Tryd.underlying22 hf with ⟨hcs, _⟩ | ⟨a, len, cap, m, n, D, Pl, hcs, _, hl, hm, hmm, hx, hel⟩
  · simp [Value.cells] at hcs
    obtain ⟨rfl, rfl, rfl⟩ := hcs
    exact ⟨0, fun _ => #[], ⟨fun i hi => absurd hi (by omega), fun i hi => absurd hi (by omega), fun i hi => absurd hi (by omega), none, 0, rfl, by omega, fun h0 => absurd h0 (by omega)⟩, by omega⟩
  · simp [Value.cells] at hcs
    obtain ⟨rfl, rfl, rfl⟩ := hcs
    simp only [if_true] at hmm
    subst hmm
    rw [cells34] at hel
    have e := congrArg Prod.fst hx
    simp only at e
    subst e
    simp only [Rows.uptoBulk] at hb
    have hmem : ∀ i, i < l0 → D i ∈ (List.range l0).map D := fun i hi => List.mem_map.2 ⟨i, List.mem_range.2 hi, rfl⟩
    have hch : ∀ i, i < l0 → ∃ cs : List Value, (∀ j, j < 37 → W.cell? ((a.add (i * 37)).add j) = cs[j]?) ∧ cs.length = 37 ∧ (∃ kd n wd t lh, Tf cs.toArray kd n wd t lh ∧ t.size ≤ 1048576) ∧ ∃ who : Int, cs.toArray[0]? = some (.int .i64 who) ∧ -9223372036854775808 ≤ who ∧ who ≤ 9223372036854775807 := by
      intro i hi
      obtain ⟨cs, hc, ht⟩ := hel i (by omega)
      obtain ⟨⟨kd, n, wd, t, lh, hT, hts⟩, _⟩ := tf_bulk ht
      have hbm := bulk_mem (hmem i hi)
      unfold World.cells? at hc
      rw [if_pos (Nat.zero_le _)] at hc
      exact ⟨cs, fun j hj => mapM_some_get hc j j (by simp [hj]), by simpa using hT.g.size, ⟨kd, n, wd, t, lh, hT, by simp only at hts; omega⟩, who_of ht⟩
    have h7 := bulk_all 7 ((List.range l0).map D) (fun x hx => by
      obtain ⟨i, hi, rfl⟩ := List.mem_map.1 hx
      obtain ⟨cs, _, ht⟩ := hel i (by have := List.mem_range.1 hi; omega)
      exact (tf_bulk ht).2)
    simp only [List.length_map, List.length_range] at h7
    obtain ⟨f, hfun⟩ := Deep.choose_lt hch
    refine ⟨l0, fun i => (f i).toArray, ⟨fun i hi => (hfun i hi).2.2.2, fun i hi => (hfun i hi).2.2.1, fun i hi => by obtain ⟨kd, n, wd, t, lh, hT, _⟩ := (hfun i hi).2.2.1; exact ⟨kd, wd, hT.g⟩, some a, _, rfl, by unfold maxLen at hm; omega, fun h0 => ?_⟩, by omega⟩
    have hc0 := (hfun 0 h0).1 0 (by omega)
    obtain ⟨y, hy⟩ : ∃ y, (f 0)[0]? = some y := ⟨_, List.getElem?_eq_getElem (by rw [(hfun 0 h0).2.1]; omega)⟩
    rw [hy] at hc0
    obtain ⟨g, off, spot⟩ := a
    have hspot : spot = none := by simpa [Addr.add] using World.cell?_spot hc0
    subst hspot
    rw [addO, addO] at hc0
    refine ⟨g, off, rfl, World.block_lt_of_cell? W ⟨g, off + 0 * 37 + 0, none⟩ hc0, fun i hi j u hu => ?_⟩
    have hj : j < 37 := by
      have h1 := (Array.getElem?_eq_some_iff.1 hu).1
      have h2 := (hfun i hi).2.1
      simpa [h2] using h1
    have := (hfun i hi).1 j hj
    rw [addO, addO] at this
    rw [this]
    simpa using hu
end Go.Proofs.YtebbgpnhkpbefaaDoor
