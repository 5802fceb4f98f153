/- A tree that came in. -/
import Derived.Test.YtbkhdnceblgljaaGreatDoorLa
import Derived.Test.YtbkhdnceblgljaaGreatDoorCg
import Derived.LaidLaws
import Derived.ProofKit
import Derived.OpenShut
import Derived.ChangeOld
import Derived.SizedLaws
namespace Go.Proofs.YtbkhdnceblgljaaGreatDoor
open Go.RowKit Go.ChangeShapes Go.WideShapes Go.ChangeAt
set_option linter.unusedVariables false
set_option linter.unusedSimpArgs false
theorem cE8 : Tryz.prog.cellsOf 5 = 1 := by kernel_rfl
theorem cellsC : Tryz.prog.cellsOf 47 = 2 := by kernel_rfl
theorem cells64 : Tryz.prog.cellsOf 45 = 1 := by kernel_rfl
theorem two_of {xs : Array Value} {a b : Value} (h : xs.toList.length = 2) (h0 : (xs.toList.drop 0).take 1 = [a]) (h1 : (xs.toList.drop 1).take 1 = [b]) : xs = #[a, b] := by
  apply Array.ext'
  match hx : xs.toList, h, h0, h1 with
  | [x, y], _, h0, h1 => simp at h0 h1; subst h0 h1; rfl
set_option maxRecDepth 100000 in
/-- A tree that came in. -/
theorem coord_of {H : Type} {enc : TypeId × Value → H} {W : World} {r : Reach} {b0 : Nat} {v : Value} {d : DataW H} {p : List MemPlace} (hv : Value.okWide Tryz.prog W r b0 47 v) (h : DataW.Trod enc Tryz.prog W 0 (fun _ => true) true 47 v d p) :
    ∃ L I : Nat, v = cd L I ∧ L ≤ 255 ∧ I < 18446744073709551616 := by
  simp only [Value.okWide, Tryz.underlying47] at hv
  obtain ⟨xs, rfl, hn, _⟩ := hv
  obtain ⟨fuel, hf⟩ := h
  obtain ⟨y0, y1, n, _, hl, h0, h1⟩ := trod_struct2 Tryz.underlying47 hf
  obtain ⟨a, ea, _, wa⟩ := DataW.trod_int Tryz.underlying5 h0
  obtain ⟨b, eb, _, wb⟩ := DataW.trod_int Tryz.underlying45 h1
  have ha : 0 ≤ a ∧ a ≤ 255 := by simpa [Lit.wf, IntKind.min, IntKind.max, IntKind.signed, IntKind.bits] using wa
  have hb : 0 ≤ b ∧ b ≤ 18446744073709551615 := by simpa [Lit.wf, IntKind.min, IntKind.max, IntKind.signed, IntKind.bits] using wb
  rw [cE8] at ea
  rw [cells64] at eb
  rw [cellsC] at hl
  refine ⟨a.toNat, b.toNat, ?_, by omega, by omega⟩
  have e1 : ((a.toNat : Nat) : Int) = a := by omega
  have e2 : ((b.toNat : Nat) : Int) = b := by omega
  unfold cd
  rw [e1, e2]
  exact congrArg Value.agg (two_of hl ea eb)
end Go.Proofs.YtbkhdnceblgljaaGreatDoor
