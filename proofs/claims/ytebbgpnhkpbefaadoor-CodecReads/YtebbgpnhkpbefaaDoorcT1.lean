/- Things that came in, as they lie in memory. -/
import Derived.Test.YtebbgpnhkpbefaaDoorcS3
import Derived.Deep.Slices
import Derived.OpenShut
namespace Go.Proofs.YtebbgpnhkpbefaaDoor
open Go.RowKit Go.ChangeShapes Go.WideShapes
set_option linter.unusedVariables false
set_option linter.unusedSimpArgs false

theorem cells34 : Tryd.prog.cellsOf 40 = 37 := by kernel_rfl
theorem cells3 : Tryd.prog.cellsOf 3 = 1 := by kernel_rfl

theorem tg_of {H : Type} {enc : TypeId × Value → H} {W : World} {sp : Nat → Bool} {held : Bool} {m : Nat} {cs : List Value} {x : DataW H × List MemPlace} (h : DataW.trod enc Tryd.prog W 0 sp held m 40 cs = some x) : ∃ kd wd, Tg cs.toArray kd wd := by
  obtain ⟨xs, n, _, _, hl, hxl, hf⟩ := DataW.trod_struct Tryd.underlying40 h
  rw [cells34] at hl
  have hk : DataW.trod enc Tryd.prog W 0 sp held n 3 ((cs.drop 1).take (Tryd.prog.cellsOf 3)) = xs[1]? := hf 1 _ rfl
  have hw : DataW.trod enc Tryd.prog W 0 sp held n 3 ((cs.drop 3).take (Tryd.prog.cellsOf 3)) = xs[3]? := hf 3 _ rfl
  rw [cells3] at hk hw
  have hxl' : xs.length = 6 := hxl
  rw [List.getElem?_eq_getElem (show 1 < xs.length by omega)] at hk
  rw [List.getElem?_eq_getElem (show 3 < xs.length by omega)] at hw
  obtain ⟨kd, hkd, _, wk⟩ := DataW.trod_int Tryd.underlying3 hk
  obtain ⟨wd, hwd, _, ww⟩ := DataW.trod_int Tryd.underlying3 hw
  have b1 := bounds_i64 wk
  have b2 := bounds_i64 ww
  refine ⟨kd, wd, by simp [hl], ?_, ?_, b1.1, b1.2, b2.1, b2.2⟩
  · have : ((cs.drop 1).take 1)[0]? = some (.int .i64 kd) := by rw [hkd]; rfl
    simpa using this
  · have : ((cs.drop 3).take 1)[0]? = some (.int .i64 wd) := by rw [hwd]; rfl
    simpa using this

theorem ths_of {H : Type} {enc : TypeId × Value → H} {W : World} {v : Value} {d : DataW H} {p : List MemPlace} (hv : ∃ a l c, v = .slice a l c) (h : DataW.Trod enc Tryd.prog W 0 (fun _ => true) true 22 v d p) : ∃ n A, Ths W v n A := by
  obtain ⟨fuel, hf⟩ := h
  obtain ⟨a0, l0, c0, rfl⟩ := hv
  rcases Deep.open_slice Tryd.underlying22 hf with ⟨hcs, _⟩ | ⟨a, len, cap, m, n, D, Pl, hcs, _, hl, hm, hmm, _, hel⟩
  · simp [Value.cells] at hcs
    obtain ⟨rfl, rfl, rfl⟩ := hcs
    exact ⟨0, fun _ => #[], fun i hi => absurd hi (by omega), none, 0, rfl, by omega, fun h0 => absurd h0 (by omega)⟩
  · simp [Value.cells] at hcs
    obtain ⟨rfl, rfl, rfl⟩ := hcs
    simp only [if_true] at hmm
    subst hmm
    rw [cells34] at hel
    have hch : ∀ i, i < l0 → ∃ cs : List Value, (∀ j, j < 37 → W.cell? ((a.add (i * 37)).add j) = cs[j]?) ∧ cs.length = 37 ∧ ∃ kd wd, Tg cs.toArray kd wd := by
      intro i hi
      obtain ⟨cs, hc, ht⟩ := hel i (by omega)
      have hg := tg_of ht
      unfold World.cells? at hc
      rw [if_pos (Nat.zero_le _)] at hc
      refine ⟨cs, fun j hj => mapM_some_get hc j j (by simp [hj]), ?_, hg⟩
      obtain ⟨kd, wd, hT⟩ := hg
      simpa using hT.size
    obtain ⟨f, hfun⟩ := Deep.choose_lt hch
    refine ⟨l0, fun i => (f i).toArray, fun i hi => (hfun i hi).2.2, some a, _, rfl, by unfold maxLen at hm; omega, fun h0 => ?_⟩
    have hc0 := (hfun 0 h0).1 0 (by omega)
    obtain ⟨y, hy⟩ : ∃ y, (f 0)[0]? = some y := ⟨_, List.getElem?_eq_getElem (by rw [(hfun 0 h0).2.1]; omega)⟩
    rw [hy] at hc0
    obtain ⟨g, off, spot⟩ := a
    have hspot : spot = none := by simpa [Addr.add] using World.cell?_spot hc0
    subst hspot
    rw [addO, addO] at hc0
    refine ⟨g, off, rfl, World.block_lt_of_cell? W ⟨g, off + 0 * 37 + 0, none⟩ hc0, fun i hi j u hu => ?_⟩
    have hj : j < 37 := by
      have h1 := (Array.getElem?_eq_some_iff.1 hu).1
      have h2 := (hfun i hi).2.1
      simpa [h2] using h1
    have := (hfun i hi).1 j hj
    rw [addO, addO] at this
    rw [this]
    simpa using hu
end Go.Proofs.YtebbgpnhkpbefaaDoor
