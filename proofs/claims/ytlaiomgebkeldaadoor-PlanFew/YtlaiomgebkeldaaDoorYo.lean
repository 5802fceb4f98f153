/- Five numbers that came in. -/
import Derived.Test.YtlaiomgebkeldaaDoorLa
import Derived.Test.YtlaiomgebkeldaaDoorCg
import Derived.Deep.Slices
namespace Go.Proofs.YtlaiomgebkeldaaDoor
open Go.RowKit Go.ChangeShapes Go.WideShapes Go.ChangeAt
set_option linter.unusedVariables false
set_option linter.unusedSimpArgs false
theorem cellsAs : Tryd.prog.cellsOf 60 = 5 := by kernel_rfl
theorem cellsU64 : Tryd.prog.cellsOf 46 = 1 := by kernel_rfl
set_option maxRecDepth 100000 in
theorem asked_of {H : Type} {enc : TypeId × Value → H} {W : World} {r : Reach} {b0 : Nat} {v : Value} {d : DataW H} {p : List MemPlace} (hv : Value.okWide Tryd.prog W r b0 60 v) (h : DataW.Trod enc Tryd.prog W 0 (fun _ => true) true 60 v d p) :
    ∃ (i o b e n : Nat), v = .agg #[.int .u64 (i : Int), .int .u64 (o : Int), .int .u64 (b : Int), .int .u64 (e : Int), .int .u64 (n : Int)] ∧ i < 18446744073709551616 ∧ o < 18446744073709551616 ∧ b < 18446744073709551616 ∧ e < 18446744073709551616 ∧ n < 18446744073709551616 := by
  simp only [Value.okWide, Tryd.underlying60] at hv
  obtain ⟨arr, rfl, hn, _⟩ := hv
  obtain ⟨fuel, hf0⟩ := h
  obtain ⟨xs, n, _, hx, hl, hxl, hf⟩ := DataW.trod_struct Tryd.underlying60 hf0
  rw [cellsAs] at hl
  obtain ⟨cs, hcs⟩ : ∃ cs, cs = (Value.agg arr).cells.toList := ⟨_, rfl⟩
  have hca : cs = arr.toList := by rw [hcs]; rfl
  rw [← hcs] at hl hf
  have h0 : DataW.trod enc Tryd.prog W 0 (fun _ => true) true n 46 ((cs.drop 0).take (Tryd.prog.cellsOf 46)) = xs[0]? := hf 0 _ rfl
  have h1 : DataW.trod enc Tryd.prog W 0 (fun _ => true) true n 46 ((cs.drop 1).take (Tryd.prog.cellsOf 46)) = xs[1]? := hf 1 _ rfl
  have h2 : DataW.trod enc Tryd.prog W 0 (fun _ => true) true n 46 ((cs.drop 2).take (Tryd.prog.cellsOf 46)) = xs[2]? := hf 2 _ rfl
  have h3 : DataW.trod enc Tryd.prog W 0 (fun _ => true) true n 46 ((cs.drop 3).take (Tryd.prog.cellsOf 46)) = xs[3]? := hf 3 _ rfl
  have h4 : DataW.trod enc Tryd.prog W 0 (fun _ => true) true n 46 ((cs.drop 4).take (Tryd.prog.cellsOf 46)) = xs[4]? := hf 4 _ rfl
  rw [cellsU64] at h0 h1 h2 h3 h4
  have hxl' : xs.length = 5 := hxl
  rw [List.getElem?_eq_getElem (show 0 < xs.length by omega)] at h0
  rw [List.getElem?_eq_getElem (show 1 < xs.length by omega)] at h1
  rw [List.getElem?_eq_getElem (show 2 < xs.length by omega)] at h2
  rw [List.getElem?_eq_getElem (show 3 < xs.length by omega)] at h3
  rw [List.getElem?_eq_getElem (show 4 < xs.length by omega)] at h4
  match cs, hl, h0, h1, h2, h3, h4, hca with
  | [c0, c1, c2, c3, c4], _, h0, h1, h2, h3, h4, hca =>
    simp only [List.drop_succ_cons, List.drop_zero, List.take_succ_cons, List.take_zero] at h0 h1 h2 h3 h4
    obtain ⟨a, ea, _, wa⟩ := DataW.trod_int Tryd.underlying46 h0
    obtain ⟨b, eb, _, wb⟩ := DataW.trod_int Tryd.underlying46 h1
    obtain ⟨c, ec, _, wc⟩ := DataW.trod_int Tryd.underlying46 h2
    obtain ⟨d, ed, _, wd⟩ := DataW.trod_int Tryd.underlying46 h3
    obtain ⟨f, ef, _, wf⟩ := DataW.trod_int Tryd.underlying46 h4
    have ha : 0 ≤ a ∧ a ≤ 18446744073709551615 := by simpa [Lit.wf, IntKind.min, IntKind.max, IntKind.signed, IntKind.bits] using wa
    have hb : 0 ≤ b ∧ b ≤ 18446744073709551615 := by simpa [Lit.wf, IntKind.min, IntKind.max, IntKind.signed, IntKind.bits] using wb
    have hc : 0 ≤ c ∧ c ≤ 18446744073709551615 := by simpa [Lit.wf, IntKind.min, IntKind.max, IntKind.signed, IntKind.bits] using wc
    have hd : 0 ≤ d ∧ d ≤ 18446744073709551615 := by simpa [Lit.wf, IntKind.min, IntKind.max, IntKind.signed, IntKind.bits] using wd
    have hf9 : 0 ≤ f ∧ f ≤ 18446744073709551615 := by simpa [Lit.wf, IntKind.min, IntKind.max, IntKind.signed, IntKind.bits] using wf
    refine ⟨a.toNat, b.toNat, c.toNat, d.toNat, f.toNat, ?_, by omega, by omega, by omega, by omega, by omega⟩
    have e1 : ((a.toNat : Nat) : Int) = a := by omega
    have e2 : ((b.toNat : Nat) : Int) = b := by omega
    have e3 : ((c.toNat : Nat) : Int) = c := by omega
    have e4 : ((d.toNat : Nat) : Int) = d := by omega
    have e5 : ((f.toNat : Nat) : Int) = f := by omega
    show Value.agg arr = .agg #[_, _, _, _, _]
    congr 1
    apply Array.ext'
    rw [← hca, List.singleton_inj.1 ea, List.singleton_inj.1 eb, List.singleton_inj.1 ec, List.singleton_inj.1 ed, List.singleton_inj.1 ef, e1, e2, e3, e4, e5]
end Go.Proofs.YtlaiomgebkeldaaDoor
