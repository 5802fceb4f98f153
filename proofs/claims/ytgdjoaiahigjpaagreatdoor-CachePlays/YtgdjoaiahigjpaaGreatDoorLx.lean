/- What came in. -/
import Derived.Test.YtgdjoaiahigjpaaGreatDoorLs
import Derived.Deep.Slices
import Derived.OpenShut
import Derived.SliceStrings
namespace Go.Proofs.YtgdjoaiahigjpaaGreatDoor
open Go.RowKit Go.ChangeShapes Go.WideShapes Go.ChangeAt
set_option linter.unusedVariables false
set_option linter.unusedSimpArgs false
theorem weights_all_mem {H : Type} {P : Program} {e : TypeId} : ∀ {l : List (DataW H)} {d : DataW H}, d ∈ l → ∀ n ∈ d.weights P e, n ∈ DataW.weightsAll P e l
  | x :: l, d, hd, n, hn => by
    simp only [DataW.weightsAll, List.mem_append]
    rcases List.mem_cons.1 hd with rfl | hd
    · exact .inl hn
    · exact .inr (weights_all_mem hd n hn)
  | [], d, hd, n, hn => by simp at hd
theorem cells1S : Tryz.prog.cellsOf 9 = 1 := by kernel_rfl
theorem cells1I : Tryz.prog.cellsOf 3 = 1 := by kernel_rfl
end Go.Proofs.YtgdjoaiahigjpaaGreatDoor
