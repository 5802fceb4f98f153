/- What came in: a log: its leaves' hashes, three numbers. -/
import Derived.Test.YtlaiomgebkeldaaDoorLa
import Derived.Test.YtlaiomgebkeldaaDoorLh
import Derived.Test.YtlaiomgebkeldaaDoorYv
import Derived.Deep.Slices
namespace Go.Proofs.YtlaiomgebkeldaaDoor
open Go.RowKit Go.ChangeShapes Go.WideShapes Go.ChangeAt
set_option linter.unusedVariables false
set_option linter.unusedSimpArgs false
/-- Hashes that came in within something else. -/
theorem hashes_in {H : Type} {enc : TypeId × Value → H} {W : World} {m0 : Nat} {x : Value} {y : DataW H × List MemPlace} (h : DataW.trod enc Tryd.prog W 0 (fun _ => true) true m0 22 [x] = some y) :
    ∃ (L : List (List UInt8)) (ad : Option Addr) (cap : Nat), x = .slice ad L.length cap ∧ L.length ≤ cap ∧ Hrs W ad L ∧ (∀ x ∈ L, x.length = 32) := by
  rcases Deep.open_slice Tryd.underlying22 h with ⟨hcs, _⟩ | ⟨a, l0, cap, m, n, D, Pl, hcs, _, hl, hm, hmm, hx, hel⟩
  · simp at hcs
    subst hcs
    exact ⟨[], none, 0, rfl, by simp, fun k h hk => by simp at hk, by simp⟩
  · simp at hcs
    subst hcs
    simp only [if_true] at hmm
    subst hmm
    rw [cellsH] at hel
    have hch : ∀ i, i < l0 → ∃ A : List UInt8, (∀ j, j < 32 → W.cell? ((a.add (i * 32)).add j) = (hbs A)[j]?) ∧ A.length = 32 := by
      intro i hi
      obtain ⟨cs, hc, htr⟩ := hel i (by omega)
      obtain ⟨A, hoc, hok⟩ := hashc_of htr
      unfold World.cells? at hc
      rw [if_pos (Nat.zero_le _)] at hc
      exact ⟨A, fun j hj => by rw [← Array.getElem?_toList, ← hoc]; exact mapM_some_get hc j j (by simp [hj]), hok⟩
    obtain ⟨f, hfun⟩ := Deep.choose_lt hch
    refine ⟨(List.range l0).map f, some a, m, by simp, by simp; omega, fun k h hk => ?_, fun x hx => ?_⟩
    · have hkl : k < l0 := by
        have := (List.getElem?_eq_some_iff.1 hk).1
        simpa using this
      have hfk : f k = h := by simpa [hkl] using hk
      have hc0 := (hfun 0 (by omega)).1 0 (by omega)
      obtain ⟨g, off, spot⟩ := a
      have hspot : spot = none := by
        rw [hbs_get _ 0 (by rw [(hfun 0 (by omega)).2]; omega)] at hc0
        simpa [Addr.add] using World.cell?_spot hc0
      subst hspot
      refine ⟨g, off, rfl, fun j hj => ?_⟩
      have := (hfun k hkl).1 j hj
      rw [addO, addO, hfk] at this
      exact this
    · obtain ⟨i, hi, rfl⟩ := List.mem_map.1 hx
      exact (hfun i (List.mem_range.1 hi)).2
theorem cellsLog : Tryd.prog.cellsOf 40 = 4 := by kernel_rfl
theorem cellsHsL : Tryd.prog.cellsOf 22 = 1 := by kernel_rfl
theorem cellsI6L : Tryd.prog.cellsOf 3 = 1 := by kernel_rfl
set_option maxRecDepth 100000 in
theorem plog_of {H : Type} {enc : TypeId × Value → H} {W : World} {r : Reach} {b0 : Nat} {v : Value} {d : DataW H} {p : List MemPlace} (hv : Value.okWide Tryd.prog W r b0 40 v) (h : DataW.Trod enc Tryd.prog W 0 (fun _ => true) true 40 v d p) :
    ∃ (L : List (List UInt8)) (ad : Option Addr) (cap : Nat) (x y z : Int), v = .agg #[.slice ad L.length cap, .int .i64 x, .int .i64 y, .int .i64 z] ∧ L.length ≤ cap ∧ Hrs W ad L ∧ (∀ x ∈ L, x.length = 32) ∧ (-9223372036854775808 ≤ x ∧ x ≤ 9223372036854775807) ∧ (-9223372036854775808 ≤ y ∧ y ≤ 9223372036854775807) ∧ (-9223372036854775808 ≤ z ∧ z ≤ 9223372036854775807) := by
  simp only [Value.okWide, Tryd.underlying40] at hv
  obtain ⟨arr, rfl, hn, _⟩ := hv
  obtain ⟨fuel, hf0⟩ := h
  obtain ⟨xs, n, _, hx, hl, hxl, hf⟩ := DataW.trod_struct Tryd.underlying40 hf0
  rw [cellsLog] at hl
  obtain ⟨cs, hcs⟩ : ∃ cs, cs = (Value.agg arr).cells.toList := ⟨_, rfl⟩
  have hca : cs = arr.toList := by rw [hcs]; rfl
  rw [← hcs] at hl hf
  have h0 : DataW.trod enc Tryd.prog W 0 (fun _ => true) true n 22 ((cs.drop 0).take (Tryd.prog.cellsOf 22)) = xs[0]? := hf 0 _ rfl
  have h1 : DataW.trod enc Tryd.prog W 0 (fun _ => true) true n 3 ((cs.drop 1).take (Tryd.prog.cellsOf 3)) = xs[1]? := hf 1 _ rfl
  have h2 : DataW.trod enc Tryd.prog W 0 (fun _ => true) true n 3 ((cs.drop 2).take (Tryd.prog.cellsOf 3)) = xs[2]? := hf 2 _ rfl
  have h3 : DataW.trod enc Tryd.prog W 0 (fun _ => true) true n 3 ((cs.drop 3).take (Tryd.prog.cellsOf 3)) = xs[3]? := hf 3 _ rfl
  rw [cellsHsL] at h0
  rw [cellsI6L] at h1 h2 h3
  have hxl' : xs.length = 4 := hxl
  rw [List.getElem?_eq_getElem (show 0 < xs.length by omega)] at h0
  rw [List.getElem?_eq_getElem (show 1 < xs.length by omega)] at h1
  rw [List.getElem?_eq_getElem (show 2 < xs.length by omega)] at h2
  rw [List.getElem?_eq_getElem (show 3 < xs.length by omega)] at h3
  match cs, hl, h0, h1, h2, h3, hca with
  | [c0, c1, c2, c3], _, h0, h1, h2, h3, hca =>
    simp only [List.drop_zero, List.drop_succ_cons, List.take_succ_cons, List.take_zero] at h0 h1 h2 h3
    obtain ⟨L, ad, cap, hL, hlc, hrs, h32⟩ := hashes_in h0
    obtain ⟨X, hX, _, wX⟩ := DataW.trod_int Tryd.underlying3 h1
    obtain ⟨Y, hY, _, wY⟩ := DataW.trod_int Tryd.underlying3 h2
    obtain ⟨Z, hZ, _, wZ⟩ := DataW.trod_int Tryd.underlying3 h3
    have bX : -9223372036854775808 ≤ X ∧ X ≤ 9223372036854775807 := by simpa [Lit.wf, IntKind.min, IntKind.max, IntKind.signed, IntKind.bits] using wX
    have bY : -9223372036854775808 ≤ Y ∧ Y ≤ 9223372036854775807 := by simpa [Lit.wf, IntKind.min, IntKind.max, IntKind.signed, IntKind.bits] using wY
    have bZ : -9223372036854775808 ≤ Z ∧ Z ≤ 9223372036854775807 := by simpa [Lit.wf, IntKind.min, IntKind.max, IntKind.signed, IntKind.bits] using wZ
    refine ⟨L, ad, cap, X, Y, Z, ?_, hlc, hrs, h32, bX, bY, bZ⟩
    congr 1
    apply Array.ext'
    rw [← hca, hL, List.singleton_inj.1 hX, List.singleton_inj.1 hY, List.singleton_inj.1 hZ]
end Go.Proofs.YtlaiomgebkeldaaDoor
