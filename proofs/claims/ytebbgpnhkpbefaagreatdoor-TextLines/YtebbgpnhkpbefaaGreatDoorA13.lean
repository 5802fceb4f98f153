/- The short texts that every statement asks. -/
import Derived.Test.YtebbgpnhkpbefaaGreatDoorA12
namespace Go.Proofs.YtebbgpnhkpbefaaGreatDoor
open Go.RowKit
set_option linter.unusedVariables false
set_option linter.unusedSimpArgs false

theorem EV.nil {w : World} {a : Nat → Addr} {v : Value} {pl : Option Int} (h : EV w a v 0 pl) : v = .nilIface := by
  rcases h with ⟨h, _, _⟩ | ⟨i, _, _, h, _⟩ | ⟨i, pb, q, _, _, _, h, _⟩
  · exact h
  · omega
  · omega
theorem al1 : rd [] (⟨#[81, 85, 73, 61]⟩ : ByteArray) (un64 0 false (⟨#[81, 85, 73, 61]⟩ : ByteArray).data.toList) = ([65, 66], 0, none) := by kernel_rfl
theorem al2 : rd [] (⟨#[81, 82, 61, 61]⟩ : ByteArray) (un64 0 false (⟨#[81, 82, 61, 61]⟩ : ByteArray).data.toList) = ([], 3, some 2) := by kernel_rfl
theorem al3 : rd 0 (⟨#[49, 56, 52, 52, 54, 55, 52, 52, 48, 55, 51, 55, 48, 57, 53, 53, 49, 54, 49, 53]⟩ : ByteArray) (fromdec (⟨#[49, 56, 52, 52, 54, 55, 52, 52, 48, 55, 51, 55, 48, 57, 53, 53, 49, 54, 49, 53]⟩ : ByteArray).data.toList) = (18446744073709551615, 0, none) := by kernel_rfl
theorem al4 : rd [] (⟨#[97, 10, 10, 98, 10]⟩ : ByteArray) (unls (⟨#[97, 10, 10, 98, 10]⟩ : ByteArray).data.toList) = ([[97], [], [98]], 0, none) := by kernel_rfl
theorem al5 : b64 (⟨#[65]⟩ : ByteArray).data.toList = [81, 81, 61, 61] := by kernel_rfl
theorem al6 : nameB (⟨#[97]⟩ : ByteArray).data.toList = true := by kernel_rfl
theorem al7 : nameB (⟨#[97, 32, 98]⟩ : ByteArray).data.toList = false := by kernel_rfl
theorem al8 : plainB (⟨#[97, 32, 98]⟩ : ByteArray).data.toList = true := by kernel_rfl
theorem al9 : plainB (⟨#[97, 10]⟩ : ByteArray).data.toList = false := by kernel_rfl
theorem sl_three (w : World) (x y z : ByteArray) (t : TypeId) : Sl (w.alloc (.cells #[.string x, .string y, .string z] t)) (.slice (some ⟨w.heap.size, 0, none⟩) 3 3) [x.data.toList, y.data.toList, z.data.toList] := by
  refine ⟨_, 3, rfl, fun j hj => ⟨w.heap.size, 0, rfl, ?_⟩⟩
  rw [Nat.zero_add, cell_of (heap_alloc_new w _)]
  match j, hj with
  | 0, _ => rfl
  | 1, _ => rfl
  | 2, _ => rfl

set_option maxRecDepth 100000 in
set_option maxHeartbeats 2000000 in
theorem alive_any {B : Nat} {w : World} {a : Nat → Addr} (hS : Sent B w a) (hT : Tabs w) : Calls Tryz.prog 11 #[] w fun e w' => e = .returned (.bool true) ∧ Nw w w' := by
  go_enter Tryz.func11, Tryz.ntmps11
  go_wp2_with fail
  have q1 := from64_any hS ⟨#[81, 85, 73, 61]⟩ (by decide)
  rw [al1] at q1
  refine q1.mono ?_
  rintro e w1 ⟨v1, rfl, ev1, n1⟩
  obtain rfl := ev1.nil
  clear q1
  go_wp2_with fail
  have q2 := from64_any (hS.fr n1 (fun _ _ f => f)) ⟨#[81, 82, 61, 61]⟩ (by decide)
  rw [al2] at q2
  refine q2.mono ?_
  rintro e w2 ⟨v2, rfl, ev2, n2⟩
  clear q2
  have f2 : Nw w w2 := n1.tr n2
  go_wp2_with fail
  have q3 := fromdec_any (hS.fr f2 (fun _ _ f => f)) ⟨#[49, 56, 52, 52, 54, 55, 52, 52, 48, 55, 51, 55, 48, 57, 53, 53, 49, 54, 49, 53]⟩ (by decide)
  rw [al3] at q3
  refine q3.mono ?_
  rintro e w3 ⟨v3, rfl, ev3, n3⟩
  obtain rfl := ev3.nil
  clear q3
  have f3 : Nw w w3 := f2.tr n3
  go_wp2_with fail
  have q4 := lines_any (hS.fr f3 (fun _ _ f => f)) ⟨#[97, 10, 10, 98, 10]⟩ (by decide)
  rw [al4] at q4
  refine q4.mono ?_
  rintro e w4 ⟨v4, er4, rfl, ow4, ev4, n4⟩
  obtain rfl := ev4.nil
  clear q4
  have f4 : Nw w w4 := f3.tr n4
  go_wp2_with fail
  have q5 := base64_any ⟨#[65]⟩ w4 (by decide)
  rw [al5] at q5
  refine q5.mono ?_
  rintro e w5 ⟨rfl, n5⟩
  clear q5
  have f5 : Nw w w5 := f4.tr n5
  go_wp2_with fail
  have q6 := isAt_any (hS.fr f5 (fun _ _ f => f)) (ev2.fr (n3.tr (n4.tr n5))) 3 2
  rw [show atB 3 (some 2) 3 2 = true from rfl] at q6
  refine q6.mono ?_
  rintro e w6 ⟨rfl, n6⟩
  clear q6
  have f6 : Nw w w6 := f5.tr n6
  go_wp2_with fail
  have n7 : Nw w6 (w6.alloc (.cells #[.string ⟨#[97]⟩, .string ⟨#[]⟩, .string ⟨#[98]⟩] 9)) := (Fr.refl _ _).alloc _
  have q7 := sameTexts_any v4 _ [[97], [], [98]] [[97], [], [98]] (w6.alloc (.cells #[.string ⟨#[97]⟩, .string ⟨#[]⟩, .string ⟨#[98]⟩] 9)) (ow4.sl.fr (n5.tr (Nw.tr n6 n7))) (sl_three w6 ⟨#[97]⟩ ⟨#[]⟩ ⟨#[98]⟩ 9) (by decide) (by decide)
  rw [show decide ([[97], [], [98]] = ([[97], [], [98]] : List (List UInt8))) = true from rfl] at q7
  refine q7.mono ?_
  rintro e w8 ⟨rfl, n8⟩
  clear q7
  have f8 : Nw w w8 := f6.tr (n7.tr n8)
  go_wp2_with fail
  have q8 := name_txt ⟨#[97]⟩ w8 (by decide) (hT.fr f8)
  rw [al6] at q8
  refine q8.mono ?_
  rintro e w9 ⟨rfl, n9⟩
  clear q8
  have f9 : Nw w w9 := f8.tr n9
  go_wp2_with fail
  have q9 := name_txt ⟨#[97, 32, 98]⟩ w9 (by decide) (hT.fr f9)
  rw [al7] at q9
  refine q9.mono ?_
  rintro e w10 ⟨rfl, n10⟩
  clear q9
  have f10 : Nw w w10 := f9.tr n10
  go_wp2_with fail
  have q10 := plain_txt ⟨#[97, 32, 98]⟩ w10 (by decide) (hT.fr f10)
  rw [al8] at q10
  refine q10.mono ?_
  rintro e w11 ⟨rfl, n11⟩
  clear q10
  have f11 : Nw w w11 := f10.tr n11
  go_wp2_with fail
  have q11 := plain_txt ⟨#[97, 10]⟩ w11 (by decide) (hT.fr f11)
  rw [al9] at q11
  refine q11.mono ?_
  rintro e w12 ⟨rfl, n12⟩
  go_wp2_with fail
  go_ret
  exact ⟨rfl, f11.tr n12⟩
end Go.Proofs.YtebbgpnhkpbefaaGreatDoor
