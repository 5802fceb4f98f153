/- Small facts on lists and arrays. -/
import Derived.Test.YtebbgpnhkpbefaaDoorcS3
namespace Go.Proofs.YtebbgpnhkpbefaaDoor
set_option linter.unusedVariables false
set_option linter.unusedSimpArgs false
theorem fold_list {α : Type} : ∀ (l : List α) (k : Nat) (Z : Array α) (pre : List α), pre.length = k → Z.size = k + l.length → Z.toList.take k = pre → ((l.zipIdx k).foldl (fun cs x => cs.setIfInBounds x.2 x.1) Z).toList = pre ++ l
  | [], k, Z, pre, hp, hz, ht => by
    simp only [List.zipIdx_nil, List.foldl_nil, List.append_nil]
    rw [← ht, List.take_of_length_le (by simp at hz; simp; omega)]
  | x :: r, k, Z, pre, hp, hz, ht => by
    rw [List.zipIdx_cons, List.foldl_cons]
    simp only [List.length_cons] at hz
    have h1 : (Z.setIfInBounds k x).toList.take (k + 1) = pre ++ [x] := by
      rw [Array.toList_setIfInBounds, List.take_succ_eq_append_getElem (by simp; omega)]
      rw [List.take_set_of_le (by omega), ht]
      simp
    have := fold_list r (k + 1) (Z.setIfInBounds k x) (pre ++ [x]) (by simp [hp]) (by simp; omega) h1
    rw [this]
    simp
theorem fold_all {A Z : Array Value} (hA : A.size = 37) (hZ : Z.size = 37) : Array.foldl (fun cs x => cs.setIfInBounds x.snd x.fst) Z A.zipIdx 0 37 = A := by
  have h := fold_list A.toList 0 Z [] rfl (by simp [hA, hZ]) (by simp)
  apply Array.ext'
  rw [show (37 : Nat) = A.zipIdx.size by simp [hA], ← Array.foldl_toList, Array.toList_zipIdx]
  simpa using h
end Go.Proofs.YtebbgpnhkpbefaaDoor
