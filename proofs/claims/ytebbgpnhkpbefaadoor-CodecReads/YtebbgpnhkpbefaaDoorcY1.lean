/- What put does with a thing that came in, whatever its kind; the thing's fields in memory. -/
import Derived.Test.YtebbgpnhkpbefaaDoorcT1
import Derived.Test.YtebbgpnhkpbefaaDoorcM1
import Derived.Test.YtebbgpnhkpbefaaDoorcX2
namespace Go.Proofs.YtebbgpnhkpbefaaDoor
open Go.RowKit Go.ChangeShapes Go.WideShapes
set_option linter.unusedVariables false
set_option linter.unusedSimpArgs false

/-- A thing, all its fields told. -/
structure Tf (A : Array Value) (kd n wd : Int) (t : ByteArray) (lh : List UInt8) : Prop where
  g : Tg A kd wd
  cn : A[2]? = some (.int .u64 n)
  ct : A[4]? = some (.string t)
  hl : lh.length = 32
  ch : ∀ j, j < 32 → A[5 + j]? = (bc lh)[j]?
  n1 : 0 ≤ n
  n2 : n ≤ 18446744073709551615
  one : ∀ u ∈ A.toList, u.oneCell' = true

theorem cells30 : Tryd.prog.cellsOf 36 = 1 := by kernel_rfl
theorem cells9 : Tryd.prog.cellsOf 9 = 1 := by kernel_rfl
theorem cells32 : Tryd.prog.cellsOf 38 = 32 := by kernel_rfl
theorem cells5 : Tryd.prog.cellsOf 5 = 1 := by kernel_rfl

theorem get_of {α : Type} {cs : List α} {i : Nat} {x : α} (h : (cs.drop i).take 1 = [x]) : cs[i]? = some x := by
  have : ((cs.drop i).take 1)[0]? = some x := by rw [h]; rfl
  simpa using this

theorem tf_of {H : Type} {enc : TypeId × Value → H} {W : World} {sp : Nat → Bool} {held : Bool} {m : Nat} {cs : List Value} {x : DataW H × List MemPlace} (h : DataW.trod enc Tryd.prog W 0 sp held m 40 cs = some x) : ∃ kd n wd t lh, Tf cs.toArray kd n wd t lh := by
  obtain ⟨kd, wd, hg⟩ := tg_of h
  obtain ⟨xs, m', _, _, hl, hxl, hf⟩ := DataW.trod_struct Tryd.underlying40 h
  rw [cells34] at hl
  have hxl' : xs.length = 6 := hxl
  have h0 : DataW.trod enc Tryd.prog W 0 sp held m' 3 ((cs.drop 0).take (Tryd.prog.cellsOf 3)) = xs[0]? := hf 0 _ rfl
  have h2 : DataW.trod enc Tryd.prog W 0 sp held m' 36 ((cs.drop 2).take (Tryd.prog.cellsOf 36)) = xs[2]? := hf 2 _ rfl
  have h4 : DataW.trod enc Tryd.prog W 0 sp held m' 9 ((cs.drop 4).take (Tryd.prog.cellsOf 9)) = xs[4]? := hf 4 _ rfl
  have h5 : DataW.trod enc Tryd.prog W 0 sp held m' 38 ((cs.drop 5).take (Tryd.prog.cellsOf 38)) = xs[5]? := hf 5 _ rfl
  rw [cells3, List.getElem?_eq_getElem (show 0 < xs.length by omega)] at h0
  rw [cells30, List.getElem?_eq_getElem (show 2 < xs.length by omega)] at h2
  rw [cells9, List.getElem?_eq_getElem (show 4 < xs.length by omega)] at h4
  rw [cells32, List.getElem?_eq_getElem (show 5 < xs.length by omega)] at h5
  obtain ⟨w0, hw0, _, _⟩ := DataW.trod_int Tryd.underlying3 h0
  obtain ⟨n, hn, _, wn⟩ := DataW.trod_int Tryd.underlying36 h2
  obtain ⟨t, ht, _, _⟩ := DataW.trod_string Tryd.underlying9 h4
  obtain ⟨ys, m'', _, _, hyl, hys, hye⟩ := DataW.trod_array Tryd.underlying38 h5
  have bn := bounds_u64 wn
  have hch : ∀ j, j < 32 → ∃ c : UInt8, cs[5 + j]? = some (.int .u8 c.toNat) := by
    intro j hj
    have hj1 := hye j hj
    rw [cells5, List.getElem?_eq_getElem (by omega)] at hj1
    obtain ⟨z, hz, _, wz⟩ := DataW.trod_int Tryd.underlying5 hj1
    have bz := bounds_u8 wz
    have hz1 := get_of (by simpa using hz)
    rw [List.getElem?_take, if_pos (by omega), List.getElem?_drop] at hz1
    refine ⟨UInt8.ofNat z.toNat, ?_⟩
    rw [show 5 + j = 5 + j * 1 by omega] at *
    have e : (z : Int) = ((UInt8.ofNat z.toNat).toNat : Int) := by rw [UInt8.toNat_ofNat']; omega
    rw [← e]
    simpa using hz1
  obtain ⟨f, hfun⟩ := Deep.choose_lt hch
  refine ⟨kd, n, wd, t, (List.range 32).map f, hg, by simpa using get_of hn, by simpa using get_of ht, by simp, fun j hj => ?_, bn.1, bn.2, ?_⟩
  · rw [List.getElem?_toArray, hfun j hj]
    simp [bc, hj]
  · intro u hu
    obtain ⟨i, hi⟩ := List.mem_iff_getElem?.1 hu
    have hi37 : i < 37 := by
      have := (List.getElem?_eq_some_iff.1 hi).1
      simpa [hl] using this
    have hget : cs[i]? = some u := by simpa using hi
    have c0 := get_of hw0
    have c2 := get_of hn
    have c4 := get_of ht
    have c1 := hg.k
    have c3 := hg.w
    simp only [List.getElem?_toArray] at c1 c3
    by_cases h5 : 5 ≤ i
    · have := hfun (i - 5) (by omega)
      rw [show 5 + (i - 5) = i by omega, hget] at this
      cases this; rfl
    · have hi4 : i = 0 ∨ i = 1 ∨ i = 2 ∨ i = 3 ∨ i = 4 := by omega
      rcases hi4 with rfl | rfl | rfl | rfl | rfl
      · rw [hget] at c0; cases c0; rfl
      · rw [hget] at c1; cases c1; rfl
      · rw [hget] at c2; cases c2; rfl
      · rw [hget] at c3; cases c3; rfl
      · rw [hget] at c4; cases c4; rfl
end Go.Proofs.YtebbgpnhkpbefaaDoor
