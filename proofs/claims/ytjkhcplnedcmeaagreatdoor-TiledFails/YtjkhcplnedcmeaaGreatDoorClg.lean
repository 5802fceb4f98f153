/- MTH of leaves, as bytes; the leaves of a stretch. -/
import Derived.Test.YtjkhcplnedcmeaaGreatDoorHg
import Derived.Test.YtjkhcplnedcmeaaGreatDoorN1
import Derived.Shelf.LaysM
import Derived.Shelf.Strconv.Clone
import Derived.Test.YtjkhcplnedcmeaaGreatDoorProg
import Derived.Test.YtjkhcplnedcmeaaGreatDoorSg
namespace Go.Proofs.YtjkhcplnedcmeaaGreatDoor
open Go.RowKit
set_option linter.unusedVariables false
set_option linter.unusedSimpArgs false

/-- MTH of leaves. -/
def mth (l : List ByteArray) : List UInt8 :=
  if h : 2 ≤ l.length then Sh (1 :: (mth (l.take (spl l.length)) ++ mth (l.drop (spl l.length))))
  else match l with
    | [] => Sh []
    | x :: _ => Sh (0 :: x.data.toList)
termination_by l.length
decreasing_by
  · have := spl_lt h
    rw [List.length_take]; omega
  · have := spl_pos l.length
    rw [List.length_drop]; omega
theorem mth_cut {l : List ByteArray} (h : 2 ≤ l.length) : mth l = Sh (1 :: (mth (l.take (spl l.length)) ++ mth (l.drop (spl l.length)))) := by rw [mth, dif_pos h]
theorem mth_nil : mth [] = Sh [] := by rw [mth, dif_neg (by simp)]
theorem mth_one (x : ByteArray) : mth [x] = Sh (0 :: x.data.toList) := by rw [mth, dif_neg (by simp)]
theorem mth_len (l : List ByteArray) : (mth l).length = 32 := by
  rw [mth]
  split
  · exact Sh_len _
  · split <;> exact Sh_len _
/-- The leaves from b to e. -/
def sbl (L : List ByteArray) (b e : Nat) : List ByteArray := (L.take e).drop b
theorem sbl_len (L : List ByteArray) (b e : Nat) : (sbl L b e).length = min e L.length - b := by simp [sbl]
theorem sbl_take {L : List ByteArray} {b e k : Nat} (h : b + k ≤ e) : (sbl L b e).take k = sbl L b (b + k) := by
  unfold sbl
  rw [List.take_drop, List.take_take, Nat.min_eq_left h]
theorem sbl_drop (L : List ByteArray) (b e k : Nat) : (sbl L b e).drop k = sbl L (b + k) e := by
  unfold sbl
  rw [List.drop_drop]
theorem sbl_mem {L : List ByteArray} {b e : Nat} {x : ByteArray} (h : x ∈ sbl L b e) : x ∈ L := List.mem_of_mem_take (List.mem_of_mem_drop h)
theorem sbl_get {L : List ByteArray} {b e j : Nat} {x : ByteArray} (h : (sbl L b e)[j]? = some x) : L[b + j]? = some x := by
  unfold sbl at h
  rw [List.getElem?_drop, List.getElem?_take] at h
  split at h
  · exact h
  · cases h
/-- The hash of a stretch. -/
def hst (L : List ByteArray) (t : Nat × Nat) : List UInt8 := mth (sbl L t.1 t.2)
theorem hst_len (L : List ByteArray) (t : Nat × Nat) : (hst L t).length = 32 := mth_len _
theorem mth_sbl {L : List ByteArray} {b e : Nat} (h : 2 ≤ e - b) (he : e ≤ L.length) : mth (sbl L b e) = Sh (1 :: (mth (sbl L b (b + spl (e - b))) ++ mth (sbl L (b + spl (e - b)) e))) := by
  have hl : (sbl L b e).length = e - b := by rw [sbl_len]; omega
  have := spl_lt h
  rw [mth_cut (by omega), hl, sbl_take (by omega), sbl_drop]
end Go.Proofs.YtjkhcplnedcmeaaGreatDoor
namespace Go.Proofs
open Go.Shelf
def Tryz.laysM316_ren : Go.Shelf.Ren := ⟨fun | 316 => 127 | n => n, fun | 9 => 9 | 3 => 3 | 4 => 4 | 37 => 168 | 0 => 0 | 127 => 269 | 5 => 5 | n => n, fun | n => n⟩
theorem Tryz.laysM316 : Go.Proofs.LaysM.n316 Tryz.prog Tryz.laysM316_ren := {
  mixed := by kernel_rfl
  f316 := Tryz.func127.trans (congrArg some (by kernel_rfl))
  t0 := Tryz.underlying0
  a0 := Tryz.isAgg0
  z0 := Tryz.sizeOf0
  v0 := Tryz.zeroValue0
  t3 := Tryz.underlying3
  a3 := Tryz.isAgg3
  z3 := Tryz.sizeOf3
  v3 := Tryz.zeroValue3
  t4 := Tryz.underlying4
  a4 := Tryz.isAgg4
  z4 := Tryz.sizeOf4
  v4 := Tryz.zeroValue4
  t9 := Tryz.underlying9
  a9 := Tryz.isAgg9
  z9 := Tryz.sizeOf9
  v9 := Tryz.zeroValue9
  t37 := Tryz.underlying168
  a37 := Tryz.isAgg168
  z37 := Tryz.sizeOf168
  v37 := Tryz.zeroValue168
  t127 := Tryz.underlying269
  a127 := Tryz.isAgg269
  z127 := Tryz.sizeOf269
  v127 := Tryz.zeroValue269
  t5 := Tryz.underlying5
  a5 := Tryz.isAgg5
  z5 := Tryz.sizeOf5
  v5 := Tryz.zeroValue5
  i0 := by kernel_rfl
  i3 := by kernel_rfl
  i4 := by kernel_rfl
  i5 := by kernel_rfl
  i9 := by kernel_rfl
  i37 := by kernel_rfl
  i127 := by kernel_rfl }
open Go.RowKit in
theorem Tryz.stringslite_Clone (s : ByteArray) (w : World) (hlim : s.size ≤ 281474976710656) :
    Calls Tryz.prog 127 #[.string s] w fun e w' => e = .returned (.string s) ∧ Below w.heap.size w w' := Any.stringslite_Clone Tryz.laysM316 s w hlim
end Go.Proofs
namespace Go.Proofs.YtjkhcplnedcmeaaGreatDoor
open Go.RowKit
set_option linter.unusedVariables false
set_option linter.unusedSimpArgs false
theorem step_call {P : Program} {ops : Array Oper} {o : Oper} {a : Act} {w : World} {K : Act → World → Prop} {Q : Exit → Act → World → Prop} {E : Prop}
    (hg : o.guard = none) (f : FuncId) (vs : Array Value) (hent : (execOp a.eval o).run P w = .ok (.enter f vs) w) {R : Ending → World → Prop} (hc : Calls P f vs w R)
    (hK : ∀ e w', R e w' → ∃ v, e = .returned v ∧ K (a.put o.dst v) w') :
    if Region.wanted o (yielded ops a.tmps) = true then Oper.wp P o a w K Q else E := by
  have hw : Region.wanted o (yielded ops a.tmps) = true := by simp [Region.wanted, hg]
  rw [if_pos hw]
  unfold Oper.wp
  rw [hent, Oper.upon_enter]
  refine hc.mono ?_
  intro e w' hr
  obtain ⟨v, rfl, hk⟩ := hK e w' hr
  exact hk
/-- Where the contract says what it gives. -/
theorem step_calls {P : Program} {ops : Array Oper} {o : Oper} {a : Act} {w : World} {K : Act → World → Prop} {Q : Exit → Act → World → Prop} {E : Prop}
    (hg : o.guard = none) (f : FuncId) (vs : Array Value) (hent : (execOp a.eval o).run P w = .ok (.enter f vs) w) {R : Value → World → Prop} (hc : Calls P f vs w fun e w' => ∃ v, e = .returned v ∧ R v w')
    (hK : ∀ v w', R v w' → K (a.put o.dst v) w') :
    if Region.wanted o (yielded ops a.tmps) = true then Oper.wp P o a w K Q else E :=
  step_call hg f vs hent hc (fun e w' ⟨v, he, hr⟩ => ⟨v, he, hK v w' hr⟩)
end Go.Proofs.YtjkhcplnedcmeaaGreatDoor
