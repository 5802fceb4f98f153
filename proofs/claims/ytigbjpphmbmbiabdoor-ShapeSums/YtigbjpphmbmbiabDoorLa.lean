/- What is laid: the table of package math/bits; trees and stretches that came in. -/
import Derived.Test.YtigbjpphmbmbiabDoorRows
import Derived.Test.YtigbjpphmbmbiabDoorC8
import Derived.LaidLaws
import Derived.LaidSub
import Derived.LaidHandle
import Derived.Lib.LaidTab
import Derived.ProofKit
import Derived.OpenShut
import Derived.ChangeOld
import Derived.SizedLaws
namespace Go.Proofs.YtigbjpphmbmbiabDoor
open Go.RowKit Go.ChangeShapes Go.WideShapes Go.ChangeAt
set_option linter.unusedVariables false
set_option linter.unusedSimpArgs false

theorem gTab : Tryd.prog.globalNamed "math/bits.deBruijn64tab" = some 17 := by kernel_rfl
theorem tTab : (Tryd.prog.globals[17]?).map (·.type) = some 104 := by kernel_rfl
theorem cE8 : Tryd.prog.cellsOf 5 = 1 := by kernel_rfl
theorem cG64 : Tryd.prog.cellsOf 104 = 64 := by kernel_rfl
def keepT (x : String × DataW Unit) : Bool := x.1 == "math/bits.deBruijn64tab"
def tabI : List Int := (List.range 64).map fun j => ((Lib.deBruijn64tab.getD j 0 : Nat) : Int)
theorem dataT : (Rows.laid_math_bits_deBruijn64tab : DataW Unit) = Lib.tabData .u8 tabI := by kernel_rfl
theorem tab_of {l : List (String × DataW Unit)} {W : World} (h : laidMetH Tryd.prog l W) (e1 : l.filter keepT = [("math/bits.deBruijn64tab", Rows.laid_math_bits_deBruijn64tab)]) : TabAt W := by
  have h1 := h.filter keepT
  rw [e1, MakeChecks.laidMetH_plain _ _ _ (by kernel_rfl), dataT] at h1
  have t1 := Lib.tabIs_of_head gTab tTab Tryd.underlying104 Tryd.underlying5 cE8 cG64 h1
  intro j hj
  rw [t1.cell gTab j hj]
  have e : ∀ j : Fin 64, tabI.getD j.val 0 = ((Lib.deBruijn64tab.getD j.val 0 : Nat) : Int) := by decide +kernel
  rw [e ⟨j, hj⟩]

theorem cellsC : Tryd.prog.cellsOf 45 = 2 := by kernel_rfl
theorem cellsSp : Tryd.prog.cellsOf 33 = 2 := by kernel_rfl
theorem cells64 : Tryd.prog.cellsOf 22 = 1 := by kernel_rfl
theorem two_of {xs : Array Value} {a b : Value} (h : xs.toList.length = 2) (h0 : (xs.toList.drop 0).take 1 = [a]) (h1 : (xs.toList.drop 1).take 1 = [b]) : xs = #[a, b] := by
  apply Array.ext'
  match hx : xs.toList, h, h0, h1 with
  | [x, y], _, h0, h1 => simp at h0 h1; subst h0 h1; rfl
set_option maxRecDepth 100000 in
/-- A tree that came in. -/
theorem coord_of {H : Type} {enc : TypeId × Value → H} {W : World} {r : Reach} {b0 : Nat} {v : Value} {d : DataW H} {p : List MemPlace} (hv : Value.okWide Tryd.prog W r b0 45 v) (h : DataW.Trod enc Tryd.prog W 0 (fun _ => true) true 45 v d p) :
    ∃ L I : Nat, v = cd L I ∧ L ≤ 255 ∧ I < 18446744073709551616 := by
  simp only [Value.okWide, Tryd.underlying45] at hv
  obtain ⟨xs, rfl, hn, _⟩ := hv
  obtain ⟨fuel, hf⟩ := h
  obtain ⟨y0, y1, n, _, hl, h0, h1⟩ := trod_struct2 Tryd.underlying45 hf
  obtain ⟨a, ea, _, wa⟩ := DataW.trod_int Tryd.underlying5 h0
  obtain ⟨b, eb, _, wb⟩ := DataW.trod_int Tryd.underlying22 h1
  have ha : 0 ≤ a ∧ a ≤ 255 := by simpa [Lit.wf, IntKind.min, IntKind.max, IntKind.signed, IntKind.bits] using wa
  have hb : 0 ≤ b ∧ b ≤ 18446744073709551615 := by simpa [Lit.wf, IntKind.min, IntKind.max, IntKind.signed, IntKind.bits] using wb
  rw [cE8] at ea
  rw [cells64] at eb
  rw [cellsC] at hl
  refine ⟨a.toNat, b.toNat, ?_, by omega, by omega⟩
  have e1 : ((a.toNat : Nat) : Int) = a := by omega
  have e2 : ((b.toNat : Nat) : Int) = b := by omega
  unfold cd
  rw [e1, e2]
  exact congrArg Value.agg (two_of hl ea eb)
set_option maxRecDepth 100000 in
/-- A stretch that came in. -/
theorem span_of {H : Type} {enc : TypeId × Value → H} {W : World} {r : Reach} {b0 : Nat} {v : Value} {d : DataW H} {p : List MemPlace} (hv : Value.okWide Tryd.prog W r b0 33 v) (h : DataW.Trod enc Tryd.prog W 0 (fun _ => true) true 33 v d p) :
    ∃ b e : Nat, v = sp b e ∧ b < 18446744073709551616 ∧ e < 18446744073709551616 := by
  simp only [Value.okWide, Tryd.underlying33] at hv
  obtain ⟨xs, rfl, hn, _⟩ := hv
  obtain ⟨fuel, hf⟩ := h
  obtain ⟨y0, y1, n, _, hl, h0, h1⟩ := trod_struct2 Tryd.underlying33 hf
  obtain ⟨a, ea, _, wa⟩ := DataW.trod_int Tryd.underlying22 h0
  obtain ⟨b, eb, _, wb⟩ := DataW.trod_int Tryd.underlying22 h1
  have ha : 0 ≤ a ∧ a ≤ 18446744073709551615 := by simpa [Lit.wf, IntKind.min, IntKind.max, IntKind.signed, IntKind.bits] using wa
  have hb : 0 ≤ b ∧ b ≤ 18446744073709551615 := by simpa [Lit.wf, IntKind.min, IntKind.max, IntKind.signed, IntKind.bits] using wb
  rw [cells64] at ea
  rw [cells64] at eb
  rw [cellsSp] at hl
  refine ⟨a.toNat, b.toNat, ?_, by omega, by omega⟩
  have e1 : ((a.toNat : Nat) : Int) = a := by omega
  have e2 : ((b.toNat : Nat) : Int) = b := by omega
  unfold sp
  rw [e1, e2]
  exact congrArg Value.agg (two_of hl ea eb)
end Go.Proofs.YtigbjpphmbmbiabDoor
