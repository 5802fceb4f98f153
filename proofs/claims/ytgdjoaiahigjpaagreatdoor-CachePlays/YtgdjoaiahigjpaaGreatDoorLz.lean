/- What came in: a script. -/
import Derived.Test.YtgdjoaiahigjpaaGreatDoorLx
import Derived.Test.YtgdjoaiahigjpaaGreatDoorPl6
import Derived.SizedLaws
namespace Go.Proofs.YtgdjoaiahigjpaaGreatDoor
open Go.RowKit Go.ChangeShapes Go.WideShapes Go.ChangeAt
set_option linter.unusedVariables false
set_option linter.unusedSimpArgs false
theorem sized_elemU {H : Type} {P : Program} {ts : List TypeId} {ds : List (DataW H)} (h : (DataW.weightsEach P ts ds).all (· ≤ reachBytes) = true) {j : Nat} {t e : TypeId} {elems spare : List (DataW H)} (ht : ts[j]? = some t) (hd : ds[j]? = some (.slice elems spare)) (hu : P.underlying t = some (.slice e)) (d : DataW H) (hm : d ∈ elems) (n : Nat) (hn : n ∈ d.weights P e) : n ≤ reachBytes := by
  have := List.all_eq_true.1 h _ (DataW.weights_mem_each ht hd n (by
    simp only [DataW.weights, hu]
    exact List.mem_cons_of_mem _ (List.mem_append_left _ (weights_all_mem hm n hn))))
  simpa using this
theorem cellsU : Tryz.prog.cellsOf 40 = 4 := by kernel_rfl
set_option maxRecDepth 100000 in
theorem op_of {H : Type} {enc : TypeId × Value → H} {W : World} {m : Nat} {cs : List Value} {x : DataW H × List MemPlace} (h : DataW.trod enc Tryz.prog W 0 (fun _ => true) true m 40 cs = some x) : ∃ o : RC.OT, cs = [.int .i64 o.1, .int .i64 o.2.1, .int .i64 o.2.2.1, .int .i64 o.2.2.2] ∧ CI.kok o.2.2.1 := by
  obtain ⟨xs, n, _, hx, hl, hxl, hf⟩ := DataW.trod_struct Tryz.underlying40 h
  rw [cellsU] at hl
  have h0 : DataW.trod enc Tryz.prog W 0 (fun _ => true) true n 3 ((cs.drop 0).take (Tryz.prog.cellsOf 3)) = xs[0]? := hf 0 _ rfl
  have h1 : DataW.trod enc Tryz.prog W 0 (fun _ => true) true n 3 ((cs.drop 1).take (Tryz.prog.cellsOf 3)) = xs[1]? := hf 1 _ rfl
  have h2 : DataW.trod enc Tryz.prog W 0 (fun _ => true) true n 3 ((cs.drop 2).take (Tryz.prog.cellsOf 3)) = xs[2]? := hf 2 _ rfl
  have h3 : DataW.trod enc Tryz.prog W 0 (fun _ => true) true n 3 ((cs.drop 3).take (Tryz.prog.cellsOf 3)) = xs[3]? := hf 3 _ rfl
  rw [cells1I] at h0 h1 h2 h3
  have hxl' : xs.length = 4 := hxl
  rw [List.getElem?_eq_getElem (show 0 < xs.length by omega)] at h0
  rw [List.getElem?_eq_getElem (show 1 < xs.length by omega)] at h1
  rw [List.getElem?_eq_getElem (show 2 < xs.length by omega)] at h2
  rw [List.getElem?_eq_getElem (show 3 < xs.length by omega)] at h3
  obtain ⟨s0, hs0, _⟩ := DataW.trod_int Tryz.underlying3 h0
  obtain ⟨s1, hs1, _⟩ := DataW.trod_int Tryz.underlying3 h1
  obtain ⟨s2, hs2, hw2⟩ := DataW.trod_int Tryz.underlying3 h2
  obtain ⟨s3, hs3, _⟩ := DataW.trod_int Tryz.underlying3 h3
  refine ⟨(s0, s1, s2, s3), ?_, ?_⟩
  · match cs, hl, hs0, hs1, hs2, hs3 with
    | [x0, x1, x2, x3], _, hs0, hs1, hs2, hs3 =>
      simp at hs0 hs1 hs2 hs3
      simp [hs0, hs1, hs2, hs3]
  · exact hw2.2
theorem ops_of {H : Type} {enc : TypeId × Value → H} {W : World} {v : Value} {d : DataW H} {p : List MemPlace} (hv : ∃ a l c, v = .slice a l c) (h : DataW.Trod enc Tryz.prog W 0 (fun _ => true) true 22 v d p) {ts : List TypeId} {ds : List (DataW H)} (hsz : (DataW.weightsEach Tryz.prog ts ds).all (· ≤ reachBytes) = true) (j : Nat) (ht : ts[j]? = some 22) (hd : ds[j]? = some d) :
    ∃ a c ls, v = .slice a (List.length ls) c ∧ RC.Ops W a ls ∧ (∀ x ∈ ls, CI.kok x.2.2.1) ∧ ls.length ≤ 140737488355328 := by
  obtain ⟨fuel, hf⟩ := h
  obtain ⟨a0, l0, c0, rfl⟩ := hv
  rcases Deep.open_slice Tryz.underlying22 hf with ⟨hcs, _⟩ | ⟨a, len, cap, m, n, D, Pl, hcs, _, hl, hm, hmm, hx, hel⟩
  · simp [Value.cells] at hcs
    obtain ⟨rfl, rfl, rfl⟩ := hcs
    exact ⟨none, 0, [], rfl, fun i hi => absurd hi (by simp), by simp, by simp⟩
  · simp [Value.cells] at hcs
    obtain ⟨rfl, rfl, rfl⟩ := hcs
    simp only [if_true] at hmm
    subst hmm
    rw [cellsU] at hel
    have hxd : d = .slice ((List.range l0).map D) ((List.range (m - l0)).map fun j => D (l0 + j)) := congrArg Prod.fst hx
    have hch : ∀ i, i < l0 → ∃ o : RC.OT, (∀ j, j < 4 → W.cell? ((a.add (i * 4)).add j) = [Value.int .i64 o.1, .int .i64 o.2.1, .int .i64 o.2.2.1, .int .i64 o.2.2.2][j]?) ∧ CI.kok o.2.2.1 := by
      intro i hi
      obtain ⟨cs, hc, htr⟩ := hel i (by omega)
      obtain ⟨o, hoc, hok⟩ := op_of htr
      unfold World.cells? at hc
      rw [if_pos (Nat.zero_le _)] at hc
      exact ⟨o, fun j hj => by rw [← hoc]; exact mapM_some_get hc j j (by simp [hj]), hok⟩
    obtain ⟨f, hfun⟩ := Deep.choose_lt hch
    have hw := sized_slice hsz ht (by rw [hd, hxd]) Tryz.underlying22
    have h4 := reachBytes_lt
    have hb1 : Tryz.prog.bytesOf 40 = 32 := by kernel_rfl
    rw [hb1] at hw
    simp only [List.length_map, List.length_range] at hw
    refine ⟨some a, m, (List.range l0).map f, by simp, fun i hi => ?_, fun x hx => ?_, by simp; omega⟩
    · have hil : i < l0 := by simpa using hi
      have hc0 := (hfun 0 (by omega)).1 0 (by omega)
      obtain ⟨g, off, spot⟩ := a
      have hspot : spot = none := by
        have : ([Value.int .i64 (f 0).1, .int .i64 (f 0).2.1, .int .i64 (f 0).2.2.1, .int .i64 (f 0).2.2.2])[0]? = some (.int .i64 (f 0).1) := rfl
        rw [this] at hc0
        simpa [Addr.add] using World.cell?_spot hc0
      subst hspot
      have hg : ((List.range l0).map f).getD i RC.o0t = f i := by simp [List.getD_eq_getElem?_getD, hil]
      refine ⟨g, off, rfl, ?_, ?_, ?_, ?_⟩
      · have := (hfun i hil).1 0 (by omega)
        rw [addO, addO] at this
        rw [hg]; exact this
      · have := (hfun i hil).1 1 (by omega)
        rw [addO, addO] at this
        rw [hg]; exact this
      · have := (hfun i hil).1 2 (by omega)
        rw [addO, addO] at this
        rw [hg]; exact this
      · have := (hfun i hil).1 3 (by omega)
        rw [addO, addO] at this
        rw [hg]; exact this
    · obtain ⟨i, hi, rfl⟩ := List.mem_map.1 hx
      exact (hfun i (List.mem_range.1 hi)).2
end Go.Proofs.YtgdjoaiahigjpaaGreatDoor
