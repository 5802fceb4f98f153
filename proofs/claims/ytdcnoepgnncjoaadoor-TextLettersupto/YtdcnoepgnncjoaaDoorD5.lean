/- TextLetters: the letters of bytes, the bytes of letters. -/
import Derived.Test.YtdcnoepgnncjoaaDoorD4
namespace Go.Proofs.YtdcnoepgnncjoaaDoor
open Go.RowKit
set_option linter.unusedVariables false
set_option linter.unusedSimpArgs false

set_option maxRecDepth 100000 in
set_option maxHeartbeats 4000000 in
theorem letters_any {B : Nat} {w : World} {a : Nat → Addr} (hS : Sent B w a) (hT : Tabs w) (s t : ByteArray) (hs : s.size ≤ 1048576) (ht : t.size ≤ 1048576) :
    Calls Tryd.prog 3 #[.string s, .string t] w fun e w' => e = .returned (.bool true) ∧ Nw w w' := by
  have q1 := from64_any hS t (by omega)
  have Q2 := fun w => reffrom64_any t w (by omega)
  have Q3 := fun w => base64_any s w (by omega)
  have Q4 := fun w => ref64_any s w (by omega)
  have HSB := sameB_of [] t (un64 0 false t.data.toList)
  generalize rd [] t (un64 0 false t.data.toList) = R at q1 Q2 HSB
  obtain ⟨r, c, pl⟩ := R
  have HS : Hid (sameB c pl c (fp c pl) = true) := HSB
  clear HSB
  generalize fp c pl = fpl at Q2 HS
  generalize b64 s.data.toList = hd at Q3 Q4
  go_enter Tryd.func3, Tryd.ntmps3
  go_wp2_with fail
  refine q1.mono ?_
  rintro e w1 ⟨v1, rfl, ev1, n1⟩
  clear q1
  go_wp2_with fail
  refine (Q2 w1).mono ?_
  rintro e w2 ⟨rfl, n2⟩
  have f2 : Nw w w2 := n1.tr n2
  go_wp2_with fail
  have nB : Nw w2 (w2.alloc (.cells #[.int .i64 c, .int .i64 fpl] 27)) := (Fr.refl _ _).alloc _
  have cB0 : (w2.alloc (.cells #[.int .i64 c, .int .i64 fpl] 27)).cell? ⟨w2.heap.size, 0, none⟩ = some (.int .i64 c) := by rw [cell_of (heap_alloc_new w2 _)]; rfl
  have cB1 : (w2.alloc (.cells #[.int .i64 c, .int .i64 fpl] 27)).cell? ⟨w2.heap.size, 1, none⟩ = some (.int .i64 fpl) := by rw [cell_of (heap_alloc_new w2 _)]; rfl
  refine (Q3 _).mono ?_
  rintro e w3 ⟨rfl, n3⟩
  have f3 : Nw w w3 := (f2.tr nB).tr n3
  go_wp2_with fail
  refine (Q4 w3).mono ?_
  rintro e w4 ⟨rfl, n4⟩
  have f4 : Nw w w4 := f3.tr n4
  have d0 := (Nw.tr n3 n4).cellOf cB0
  have d1 := (Nw.tr n3 n4).cellOf cB1
  have q5 := same_any (hS.fr f4 (fun _ _ f => f)) (ev1.fr ((n2.tr nB).tr (Nw.tr n3 n4))) (c : Int) fpl
  rw [HS.out] at q5
  clear cB0 cB1
  go_wp2_with fail
  refine q5.mono ?_
  rintro e w5 ⟨rfl, n5⟩
  have f5 : Nw w w5 := f4.tr n5
  go_wp2_with fail
  refine (alive_any (hS.fr f5 (fun _ _ f => f)) (hT.fr f5)).mono ?_
  rintro e w6 ⟨rfl, n6⟩
  go_wp2_with fail
  go_ret
  exact ⟨rfl, f5.tr n6⟩
end Go.Proofs.YtdcnoepgnncjoaaDoor
