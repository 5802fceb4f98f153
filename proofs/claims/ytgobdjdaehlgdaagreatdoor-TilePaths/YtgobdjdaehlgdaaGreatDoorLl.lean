/- A tile that came in. -/
import Derived.Test.YtgobdjdaehlgdaaGreatDoorLc
import Derived.Deep.Slices
namespace Go.Proofs.YtgobdjdaehlgdaaGreatDoor
open Go.RowKit Go.ChangeShapes Go.WideShapes Go.ChangeAt
set_option linter.unusedVariables false
set_option linter.unusedSimpArgs false
theorem cellsTi : Tryz.prog.cellsOf 56 = 3 := by kernel_rfl
theorem cellsIn : Tryz.prog.cellsOf 3 = 1 := by kernel_rfl
set_option maxRecDepth 100000 in
theorem tile_of {H : Type} {enc : TypeId × Value → H} {W : World} {r : Reach} {b0 : Nat} {v : Value} {d : DataW H} {p : List MemPlace} (hv : Value.okWide Tryz.prog W r b0 56 v) (h : DataW.Trod enc Tryz.prog W 0 (fun _ => true) true 56 v d p) :
    ∃ (L I : Nat) (z : Int), v = Value.agg #[.int .u8 (L : Int), .int .u64 (I : Int), .int .i64 z] ∧ L ≤ 255 ∧ I < 18446744073709551616 := by
  simp only [Value.okWide, Tryz.underlying56] at hv
  obtain ⟨arr, rfl, hn, _⟩ := hv
  obtain ⟨fuel, hf0⟩ := h
  obtain ⟨xs, n, _, hx, hl, hxl, hf⟩ := DataW.trod_struct Tryz.underlying56 hf0
  rw [cellsTi] at hl
  obtain ⟨cs, hcs⟩ : ∃ cs, cs = (Value.agg arr).cells.toList := ⟨_, rfl⟩
  have hca : cs = arr.toList := by rw [hcs]; rfl
  rw [← hcs] at hl hf
  have h0 : DataW.trod enc Tryz.prog W 0 (fun _ => true) true n 5 ((cs.drop 0).take (Tryz.prog.cellsOf 5)) = xs[0]? := hf 0 _ rfl
  have h1 : DataW.trod enc Tryz.prog W 0 (fun _ => true) true n 22 ((cs.drop 1).take (Tryz.prog.cellsOf 22)) = xs[1]? := hf 1 _ rfl
  have h2 : DataW.trod enc Tryz.prog W 0 (fun _ => true) true n 3 ((cs.drop 2).take (Tryz.prog.cellsOf 3)) = xs[2]? := hf 2 _ rfl
  rw [cE8] at h0
  rw [cells64] at h1
  rw [cellsIn] at h2
  have hxl' : xs.length = 3 := hxl
  rw [List.getElem?_eq_getElem (show 0 < xs.length by omega)] at h0
  rw [List.getElem?_eq_getElem (show 1 < xs.length by omega)] at h1
  rw [List.getElem?_eq_getElem (show 2 < xs.length by omega)] at h2
  match cs, hl, h0, h1, h2, hca with
  | [c0, c1, c2], _, h0, h1, h2, hca =>
    simp only [List.drop_succ_cons, List.drop_zero, List.take_succ_cons, List.take_zero] at h0 h1 h2
    obtain ⟨a, ea, _, wa⟩ := DataW.trod_int Tryz.underlying5 h0
    obtain ⟨b, eb, _, wb⟩ := DataW.trod_int Tryz.underlying22 h1
    obtain ⟨z, ez, _, _⟩ := DataW.trod_int Tryz.underlying3 h2
    have ha : 0 ≤ a ∧ a ≤ 255 := by simpa [Lit.wf, IntKind.min, IntKind.max, IntKind.signed, IntKind.bits] using wa
    have hb : 0 ≤ b ∧ b ≤ 18446744073709551615 := by simpa [Lit.wf, IntKind.min, IntKind.max, IntKind.signed, IntKind.bits] using wb
    have e1 : ((a.toNat : Nat) : Int) = a := by omega
    have e2 : ((b.toNat : Nat) : Int) = b := by omega
    refine ⟨a.toNat, b.toNat, z, ?_, by omega, by omega⟩
    show Value.agg arr = .agg #[_, _, _]
    congr 1
    apply Array.ext'
    rw [← hca, List.singleton_inj.1 ea, List.singleton_inj.1 eb, List.singleton_inj.1 ez, e1, e2]
end Go.Proofs.YtgobdjdaehlgdaaGreatDoor
