/- Hashes that came in, with the room that they have. -/
import Derived.Test.YtgobdjdaehlgdaaGreatDoorUh
import Derived.Test.YtgobdjdaehlgdaaGreatDoorLh
namespace Go.Proofs.YtgobdjdaehlgdaaGreatDoor
open Go.RowKit Go.ChangeShapes Go.WideShapes Go.ChangeAt
set_option linter.unusedVariables false
set_option linter.unusedSimpArgs false
/-- Hashes that came in. -/
theorem hashes_of3 {H : Type} {enc : TypeId × Value → H} {W : World} {v : Value} {d : DataW H} {p : List MemPlace} (hv : ∃ a l c, v = .slice a l c) (h : DataW.Trod enc Tryz.prog W 0 (fun _ => true) true 66 v d p) {ts : List TypeId} {ds : List (DataW H)} (hsz : (DataW.weightsEach Tryz.prog ts ds).all (· ≤ reachBytes) = true) (j : Nat) (ht : ts[j]? = some 66) (hd : ds[j]? = some d) :
    ∃ (L : List (List UInt8)) (ad : Option Addr) (cap : Nat), v = .slice ad L.length cap ∧ Rw W ad cap L ∧ (∀ x ∈ L, x.length = 32) ∧ L.length < 4611686018427387904 := by
  obtain ⟨fuel, hf⟩ := h
  obtain ⟨a0, l0, c0, rfl⟩ := hv
  rcases Deep.open_slice Tryz.underlying66 hf with ⟨hcs, _⟩ | ⟨a, len, cap, m, n, D, Pl, hcs, _, hl, hm, hmm, hx, hel⟩
  · simp [Value.cells] at hcs
    obtain ⟨rfl, rfl, rfl⟩ := hcs
    exact ⟨[], none, 0, rfl, ⟨by simp, Hss.nil _⟩, by simp, by simp⟩
  · simp [Value.cells] at hcs
    obtain ⟨rfl, rfl, rfl⟩ := hcs
    simp only [if_true] at hmm
    subst hmm
    rw [cellsH] at hel
    have hxd : d = .slice ((List.range l0).map D) ((List.range (m - l0)).map fun j => D (l0 + j)) := congrArg Prod.fst hx
    have hch : ∀ i, i < l0 → ∃ A : List UInt8, (∀ j, j < 32 → W.cell? ((a.add (i * 32)).add j) = (hbs A)[j]?) ∧ A.length = 32 := by
      intro i hi
      obtain ⟨cs, hc, htr⟩ := hel i (by omega)
      obtain ⟨A, hoc, hok⟩ := hashc_of htr
      unfold World.cells? at hc
      rw [if_pos (Nat.zero_le _)] at hc
      exact ⟨A, fun j hj => by rw [← Array.getElem?_toList, ← hoc]; exact mapM_some_get hc j j (by simp [hj]), hok⟩
    obtain ⟨f, hfun⟩ := Deep.choose_lt hch
    have hw := sized_slice hsz ht (by rw [hd, hxd]) Tryz.underlying66
    have h4 := reachBytes_lt
    have hb1 : Tryz.prog.bytesOf 96 = 32 := by kernel_rfl
    rw [hb1] at hw
    simp only [List.length_map, List.length_range] at hw
    refine ⟨(List.range l0).map f, some a, m, by simp, ⟨by simp; omega, some a, m, rfl, fun k h hk => ?_⟩, fun x hx => ?_, by simp; omega⟩
    · have hkl : k < l0 := by
        have := (List.getElem?_eq_some_iff.1 hk).1
        simpa using this
      have hfk : f k = h := by simpa [hkl] using hk
      have hc0 := (hfun 0 (by omega)).1 0 (by omega)
      obtain ⟨g, off, spot⟩ := a
      have hspot : spot = none := by
        rw [hbs_get _ 0 (by rw [(hfun 0 (by omega)).2]; omega)] at hc0
        simpa [Addr.add] using World.cell?_spot hc0
      subst hspot
      refine ⟨g, off, rfl, fun j hj => ?_⟩
      have := (hfun k hkl).1 j hj
      rw [addO, addO, hfk] at this
      exact this
    · obtain ⟨i, hi, rfl⟩ := List.mem_map.1 hx
      exact (hfun i (List.mem_range.1 hi)).2
end Go.Proofs.YtgobdjdaehlgdaaGreatDoor
