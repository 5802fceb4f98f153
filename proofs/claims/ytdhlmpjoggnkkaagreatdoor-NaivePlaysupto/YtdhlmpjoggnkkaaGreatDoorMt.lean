/- MTH of leaves, as bytes; the leaves of a stretch. -/
import Derived.Test.YtdhlmpjoggnkkaaGreatDoorH1
import Derived.Test.YtdhlmpjoggnkkaaGreatDoorN1
namespace Go.Proofs.YtdhlmpjoggnkkaaGreatDoor
open Go.RowKit
set_option linter.unusedVariables false
set_option linter.unusedSimpArgs false

/-- MTH of leaves. -/
def mth (l : List ByteArray) : List UInt8 :=
  if h : 2 ≤ l.length then Sh (1 :: (mth (l.take (spl l.length)) ++ mth (l.drop (spl l.length))))
  else match l with
    | [] => Sh []
    | x :: _ => Sh (0 :: x.data.toList)
termination_by l.length
decreasing_by
  · have := spl_lt h
    rw [List.length_take]; omega
  · have := spl_pos l.length
    rw [List.length_drop]; omega
theorem mth_cut {l : List ByteArray} (h : 2 ≤ l.length) : mth l = Sh (1 :: (mth (l.take (spl l.length)) ++ mth (l.drop (spl l.length)))) := by rw [mth, dif_pos h]
theorem mth_nil : mth [] = Sh [] := by rw [mth, dif_neg (by simp)]
theorem mth_one (x : ByteArray) : mth [x] = Sh (0 :: x.data.toList) := by rw [mth, dif_neg (by simp)]
theorem mth_len (l : List ByteArray) : (mth l).length = 32 := by
  rw [mth]
  split
  · exact Sh_len _
  · split <;> exact Sh_len _
/-- The leaves from b to e. -/
def sbl (L : List ByteArray) (b e : Nat) : List ByteArray := (L.take e).drop b
theorem sbl_len (L : List ByteArray) (b e : Nat) : (sbl L b e).length = min e L.length - b := by simp [sbl]
theorem sbl_take {L : List ByteArray} {b e k : Nat} (h : b + k ≤ e) : (sbl L b e).take k = sbl L b (b + k) := by
  unfold sbl
  rw [List.take_drop, List.take_take, Nat.min_eq_left h]
theorem sbl_drop (L : List ByteArray) (b e k : Nat) : (sbl L b e).drop k = sbl L (b + k) e := by
  unfold sbl
  rw [List.drop_drop]
theorem sbl_all (L : List ByteArray) : sbl L 0 L.length = L := by unfold sbl; rw [List.drop_zero, List.take_length]
theorem sbl_app {L M : List ByteArray} {b e : Nat} (h : e ≤ L.length) : sbl (L ++ M) b e = sbl L b e := by
  unfold sbl
  rw [List.take_append_of_le_length h]
theorem sbl_mem {L : List ByteArray} {b e : Nat} {x : ByteArray} (h : x ∈ sbl L b e) : x ∈ L := List.mem_of_mem_take (List.mem_of_mem_drop h)
theorem sbl_get {L : List ByteArray} {b e j : Nat} {x : ByteArray} (h : (sbl L b e)[j]? = some x) : L[b + j]? = some x := by
  unfold sbl at h
  rw [List.getElem?_drop, List.getElem?_take] at h
  split at h
  · exact h
  · cases h
/-- The hash of a stretch. -/
def hst (L : List ByteArray) (t : Nat × Nat) : List UInt8 := mth (sbl L t.1 t.2)
theorem hst_len (L : List ByteArray) (t : Nat × Nat) : (hst L t).length = 32 := mth_len _
theorem mth_sbl {L : List ByteArray} {b e : Nat} (h : 2 ≤ e - b) (he : e ≤ L.length) : mth (sbl L b e) = Sh (1 :: (mth (sbl L b (b + spl (e - b))) ++ mth (sbl L (b + spl (e - b)) e))) := by
  have hl : (sbl L b e).length = e - b := by rw [sbl_len]; omega
  have := spl_lt h
  rw [mth_cut (by omega), hl, sbl_take (by omega), sbl_drop]
end Go.Proofs.YtdhlmpjoggnkkaaGreatDoor
