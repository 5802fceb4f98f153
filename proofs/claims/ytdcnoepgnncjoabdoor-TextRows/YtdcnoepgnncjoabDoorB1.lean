/- TextSeen: names and plain texts, put together. -/
import Derived.Test.YtdcnoepgnncjoabDoorA13
import Derived.Laws.Concat
namespace Go.Proofs.YtdcnoepgnncjoabDoor
open Go.RowKit
set_option linter.unusedVariables false
set_option linter.unusedSimpArgs false

theorem em_yes (s : ByteArray) (h : s.size = 0) : s.toList.isEmpty = true := by rw [em_list, List.isEmpty_iff]; exact List.eq_nil_of_length_eq_zero (by rw [Array.length_toList]; exact h)
theorem cat_list (a b : ByteArray) : (a ++ b).data.toList = a.data.toList ++ b.data.toList := by simp
theorem cat_size (a b : ByteArray) : (a ++ b).size = a.size + b.size := by simp
theorem cat_one (a b : ByteArray) (c : UInt8) : (a ++ (⟨#[c]⟩ : ByteArray) ++ b).data.toList = a.data.toList ++ c :: b.data.toList := by rw [cat_list, cat_list]; simp
theorem add_any (a b : ByteArray) (h : a.size + b.size ≤ 9223372036854775807) : ∀ W : World, (Op.stringOp .add a b).run Tryd.prog W = .ok (.string (a ++ b)) W := fun W => run_string_add_sum W a b h
theorem size_list (s : ByteArray) : s.data.toList.length = s.size := by rw [Array.length_toList]; rfl
theorem not_nil (s : ByteArray) (h : s.size ≠ 0) : s.data.toList ≠ [] := fun e => h (by rw [← size_list, e]; rfl)

set_option maxRecDepth 100000 in
set_option maxHeartbeats 4000000 in
theorem seen_any {B : Nat} {w : World} {a : Nat → Addr} (hS : Sent B w a) (hT : Tabs w) (s t : ByteArray) (hs : s.size ≤ 140737488355328) (ht : t.size ≤ 140737488355328) :
    Calls Tryd.prog 5 #[.string s, .string t] w fun e w' => e = .returned (.bool true) ∧ Nw w w' := by
  have f0 : Nw w w := Fr.refl _ _
  have one : (⟨#[32]⟩ : ByteArray).size = 1 := rfl
  have c1 := add_any s ⟨#[32]⟩ (by show s.size + 1 ≤ _; omega)
  have c2 := add_any (s ++ ⟨#[32]⟩) t (by rw [cat_size]; show s.size + 1 + t.size ≤ _; omega)
  have c3 := add_any s ⟨#[43]⟩ (by show s.size + 1 ≤ _; omega)
  have c4 := add_any (s ++ ⟨#[43]⟩) t (by rw [cat_size]; show s.size + 1 + t.size ≤ _; omega)
  have c5 := add_any s ⟨#[10]⟩ (by show s.size + 1 ≤ _; omega)
  have c6 := add_any (s ++ ⟨#[10]⟩) t (by rw [cat_size]; show s.size + 1 + t.size ≤ _; omega)
  have c7 := add_any s ⟨#[255]⟩ (by show s.size + 1 ≤ _; omega)
  have c8 := add_any (s ++ ⟨#[255]⟩) t (by rw [cat_size]; show s.size + 1 + t.size ≤ _; omega)
  have c9 := add_any s t (by omega)
  have c10 := add_any t s (by omega)
  have e1 : nameB (s ++ (⟨#[32]⟩ : ByteArray) ++ t).data.toList = false := by rw [cat_one]; exact name_blank _ _
  have e2 : nameB (s ++ (⟨#[43]⟩ : ByteArray) ++ t).data.toList = false := by rw [cat_one]; exact name_plus _ _
  have e3 : plainB (s ++ (⟨#[10]⟩ : ByteArray) ++ t).data.toList = false := by rw [cat_one]; exact plain_lf _ _
  have e4 : plainB (s ++ (⟨#[255]⟩ : ByteArray) ++ t).data.toList = false := by rw [cat_one]; exact plain_ff _ _
  have z1 : (s ++ (⟨#[32]⟩ : ByteArray) ++ t).size ≤ 9223372036854775807 := by rw [cat_size, cat_size]; show s.size + 1 + t.size ≤ _; omega
  have z2 : (s ++ (⟨#[43]⟩ : ByteArray) ++ t).size ≤ 9223372036854775807 := by rw [cat_size, cat_size]; show s.size + 1 + t.size ≤ _; omega
  have z3 : (s ++ (⟨#[10]⟩ : ByteArray) ++ t).size ≤ 9223372036854775807 := by rw [cat_size, cat_size]; show s.size + 1 + t.size ≤ _; omega
  have z4 : (s ++ (⟨#[255]⟩ : ByteArray) ++ t).size ≤ 9223372036854775807 := by rw [cat_size, cat_size]; show s.size + 1 + t.size ≤ _; omega
  have z5 : (s ++ t).size ≤ 9223372036854775807 := by rw [cat_size]; omega
  have z6 : (t ++ s).size ≤ 9223372036854775807 := by rw [cat_size]; omega
  generalize hg1 : s ++ (⟨#[32]⟩ : ByteArray) = s1 at *
  generalize hg2 : s ++ (⟨#[43]⟩ : ByteArray) = s2 at *
  generalize hg3 : s ++ (⟨#[10]⟩ : ByteArray) = s3 at *
  generalize hg4 : s ++ (⟨#[255]⟩ : ByteArray) = s4 at *
  clear hg1 hg2 hg3 hg4 one
  cases hX : nameB s.data.toList with
  | true =>
    have hP := name_plain _ hX
    have hsz : s.size ≤ 64 ∧ 1 ≤ s.size := by
      have := hX
      simp only [nameB, Bool.and_eq_true, decide_eq_true_eq, size_list] at this
      exact ⟨this.1.2, this.1.1⟩
    have hbz : ¬ (4096 : Int) < (s.size : Int) := by omega
    cases hY : nameB t.data.toList with
    | true =>
      by_cases hsum : s.size + t.size ≤ 64
      · have g1 : nameB (s ++ t).data.toList = true := by rw [cat_list]; exact name_app _ _ hX hY (by rw [size_list, size_list]; exact hsum)
        have g2 : nameB (t ++ s).data.toList = true := by rw [cat_list]; exact name_app _ _ hY hX (by rw [size_list, size_list]; omega)
        have hsumz : (s.size : Int) + (t.size : Int) ≤ 64 := by omega
        go_enter Tryd.func5, Tryd.ntmps5
        go_wp2_with fail
        have q1 := name_txt s w (by omega) hT
        rw [hX] at q1
        refine q1.mono ?_
        rintro e w1 ⟨rfl, n1⟩
        clear q1
        have f1 : Nw w w1 := n1
        go_wp2_with fail
        have q2 := name_txt (t) w1 (by omega) (hT.fr f1)
        rw [hY] at q2
        refine q2.mono ?_
        rintro e w2 ⟨rfl, n2⟩
        clear q2
        have f2 : Nw w w2 := f1.tr n2
        go_wp2_with fail
        have q3 := plain_txt (s) w2 (by omega) (hT.fr f2)
        rw [hP] at q3
        refine q3.mono ?_
        rintro e w3 ⟨rfl, n3⟩
        clear q3
        have f3 : Nw w w3 := f2.tr n3
        go_wp2_with fail
        have q4 := name_txt (s1 ++ t) w3 (z1) (hT.fr f3)
        rw [e1] at q4
        refine q4.mono ?_
        rintro e w4 ⟨rfl, n4⟩
        clear q4
        have f4 : Nw w w4 := f3.tr n4
        go_wp2_with fail
        have q5 := name_txt (s2 ++ t) w4 (z2) (hT.fr f4)
        rw [e2] at q5
        refine q5.mono ?_
        rintro e w5 ⟨rfl, n5⟩
        clear q5
        have f5 : Nw w w5 := f4.tr n5
        go_wp2_with fail
        have q6 := plain_txt (s3 ++ t) w5 (z3) (hT.fr f5)
        rw [e3] at q6
        refine q6.mono ?_
        rintro e w6 ⟨rfl, n6⟩
        clear q6
        have f6 : Nw w w6 := f5.tr n6
        go_wp2_with fail
        have q7 := plain_txt (s4 ++ t) w6 (z4) (hT.fr f6)
        rw [e4] at q7
        refine q7.mono ?_
        rintro e w7 ⟨rfl, n7⟩
        clear q7
        have f7 : Nw w w7 := f6.tr n7
        go_wp2_with fail
        have q8 := name_txt (s ++ t) w7 (z5) (hT.fr f7)
        rw [g1] at q8
        refine q8.mono ?_
        rintro e w8 ⟨rfl, n8⟩
        clear q8
        have f8 : Nw w w8 := f7.tr n8
        go_wp2_with fail
        have q9 := name_txt (t ++ s) w8 (z6) (hT.fr f8)
        rw [g2] at q9
        refine q9.mono ?_
        rintro e w9 ⟨rfl, n9⟩
        clear q9
        have f9 : Nw w w9 := f8.tr n9
        go_wp2_with fail
        refine (alive_any (hS.fr f9 (fun _ _ f => f)) (hT.fr f9)).mono ?_
        rintro e w10 ⟨rfl, n10⟩
        go_wp2_with fail
        go_ret
        exact ⟨rfl, f9.tr n10⟩
      · have hsumz : ¬ (s.size : Int) + (t.size : Int) ≤ 64 := by omega
        go_enter Tryd.func5, Tryd.ntmps5
        go_wp2_with fail
        have q1 := name_txt s w (by omega) hT
        rw [hX] at q1
        refine q1.mono ?_
        rintro e w1 ⟨rfl, n1⟩
        clear q1
        have f1 : Nw w w1 := n1
        go_wp2_with fail
        have q2 := name_txt (t) w1 (by omega) (hT.fr f1)
        rw [hY] at q2
        refine q2.mono ?_
        rintro e w2 ⟨rfl, n2⟩
        clear q2
        have f2 : Nw w w2 := f1.tr n2
        go_wp2_with fail
        have q3 := plain_txt (s) w2 (by omega) (hT.fr f2)
        rw [hP] at q3
        refine q3.mono ?_
        rintro e w3 ⟨rfl, n3⟩
        clear q3
        have f3 : Nw w w3 := f2.tr n3
        go_wp2_with fail
        have q4 := name_txt (s1 ++ t) w3 (z1) (hT.fr f3)
        rw [e1] at q4
        refine q4.mono ?_
        rintro e w4 ⟨rfl, n4⟩
        clear q4
        have f4 : Nw w w4 := f3.tr n4
        go_wp2_with fail
        have q5 := name_txt (s2 ++ t) w4 (z2) (hT.fr f4)
        rw [e2] at q5
        refine q5.mono ?_
        rintro e w5 ⟨rfl, n5⟩
        clear q5
        have f5 : Nw w w5 := f4.tr n5
        go_wp2_with fail
        have q6 := plain_txt (s3 ++ t) w5 (z3) (hT.fr f5)
        rw [e3] at q6
        refine q6.mono ?_
        rintro e w6 ⟨rfl, n6⟩
        clear q6
        have f6 : Nw w w6 := f5.tr n6
        go_wp2_with fail
        have q7 := plain_txt (s4 ++ t) w6 (z4) (hT.fr f6)
        rw [e4] at q7
        refine q7.mono ?_
        rintro e w7 ⟨rfl, n7⟩
        clear q7
        have f7 : Nw w w7 := f6.tr n7
        go_wp2_with fail
        refine (alive_any (hS.fr f7 (fun _ _ f => f)) (hT.fr f7)).mono ?_
        rintro e w8 ⟨rfl, n8⟩
        go_wp2_with fail
        go_ret
        exact ⟨rfl, f7.tr n8⟩
    | false =>
      by_cases ht0 : t.size = 0
      · have hem := em_yes t ht0
        go_enter Tryd.func5, Tryd.ntmps5
        go_wp2_with fail
        have q1 := name_txt s w (by omega) hT
        rw [hX] at q1
        refine q1.mono ?_
        rintro e w1 ⟨rfl, n1⟩
        clear q1
        have f1 : Nw w w1 := n1
        go_wp2_with fail
        have q2 := name_txt (t) w1 (by omega) (hT.fr f1)
        rw [hY] at q2
        refine q2.mono ?_
        rintro e w2 ⟨rfl, n2⟩
        clear q2
        have f2 : Nw w w2 := f1.tr n2
        go_wp2_with fail
        have q3 := plain_txt (s) w2 (by omega) (hT.fr f2)
        rw [hP] at q3
        refine q3.mono ?_
        rintro e w3 ⟨rfl, n3⟩
        clear q3
        have f3 : Nw w w3 := f2.tr n3
        go_wp2_with fail
        have q4 := name_txt (s1 ++ t) w3 (z1) (hT.fr f3)
        rw [e1] at q4
        refine q4.mono ?_
        rintro e w4 ⟨rfl, n4⟩
        clear q4
        have f4 : Nw w w4 := f3.tr n4
        go_wp2_with fail
        have q5 := name_txt (s2 ++ t) w4 (z2) (hT.fr f4)
        rw [e2] at q5
        refine q5.mono ?_
        rintro e w5 ⟨rfl, n5⟩
        clear q5
        have f5 : Nw w w5 := f4.tr n5
        go_wp2_with fail
        have q6 := plain_txt (s3 ++ t) w5 (z3) (hT.fr f5)
        rw [e3] at q6
        refine q6.mono ?_
        rintro e w6 ⟨rfl, n6⟩
        clear q6
        have f6 : Nw w w6 := f5.tr n6
        go_wp2_with fail
        have q7 := plain_txt (s4 ++ t) w6 (z4) (hT.fr f6)
        rw [e4] at q7
        refine q7.mono ?_
        rintro e w7 ⟨rfl, n7⟩
        clear q7
        have f7 : Nw w w7 := f6.tr n7
        go_wp2_with fail
        refine (alive_any (hS.fr f7 (fun _ _ f => f)) (hT.fr f7)).mono ?_
        rintro e w8 ⟨rfl, n8⟩
        go_wp2_with fail
        go_ret
        exact ⟨rfl, f7.tr n8⟩
      · have hem := em_no t ht0
        have g1 : nameB (s ++ t).data.toList = false := by rw [cat_list]; exact name_not _ _ hX hY (not_nil t ht0)
        go_enter Tryd.func5, Tryd.ntmps5
        go_wp2_with fail
        have q1 := name_txt s w (by omega) hT
        rw [hX] at q1
        refine q1.mono ?_
        rintro e w1 ⟨rfl, n1⟩
        clear q1
        have f1 : Nw w w1 := n1
        go_wp2_with fail
        have q2 := name_txt (t) w1 (by omega) (hT.fr f1)
        rw [hY] at q2
        refine q2.mono ?_
        rintro e w2 ⟨rfl, n2⟩
        clear q2
        have f2 : Nw w w2 := f1.tr n2
        go_wp2_with fail
        have q3 := plain_txt (s) w2 (by omega) (hT.fr f2)
        rw [hP] at q3
        refine q3.mono ?_
        rintro e w3 ⟨rfl, n3⟩
        clear q3
        have f3 : Nw w w3 := f2.tr n3
        go_wp2_with fail
        have q4 := name_txt (s1 ++ t) w3 (z1) (hT.fr f3)
        rw [e1] at q4
        refine q4.mono ?_
        rintro e w4 ⟨rfl, n4⟩
        clear q4
        have f4 : Nw w w4 := f3.tr n4
        go_wp2_with fail
        have q5 := name_txt (s2 ++ t) w4 (z2) (hT.fr f4)
        rw [e2] at q5
        refine q5.mono ?_
        rintro e w5 ⟨rfl, n5⟩
        clear q5
        have f5 : Nw w w5 := f4.tr n5
        go_wp2_with fail
        have q6 := plain_txt (s3 ++ t) w5 (z3) (hT.fr f5)
        rw [e3] at q6
        refine q6.mono ?_
        rintro e w6 ⟨rfl, n6⟩
        clear q6
        have f6 : Nw w w6 := f5.tr n6
        go_wp2_with fail
        have q7 := plain_txt (s4 ++ t) w6 (z4) (hT.fr f6)
        rw [e4] at q7
        refine q7.mono ?_
        rintro e w7 ⟨rfl, n7⟩
        clear q7
        have f7 : Nw w w7 := f6.tr n7
        go_wp2_with fail
        have q8 := name_txt (s ++ t) w7 (z5) (hT.fr f7)
        rw [g1] at q8
        refine q8.mono ?_
        rintro e w8 ⟨rfl, n8⟩
        clear q8
        have f8 : Nw w w8 := f7.tr n8
        go_wp2_with fail
        refine (alive_any (hS.fr f8 (fun _ _ f => f)) (hT.fr f8)).mono ?_
        rintro e w9 ⟨rfl, n9⟩
        go_wp2_with fail
        go_ret
        exact ⟨rfl, f8.tr n9⟩
  | false =>
    cases hY : nameB t.data.toList with
    | true =>
      by_cases hbig : 4096 < s.size
      · have hbz : (4096 : Int) < (s.size : Int) := by omega
        have hP := plain_long s.data.toList (by rw [size_list]; exact hbig)
        go_enter Tryd.func5, Tryd.ntmps5
        go_wp2_with fail
        have q1 := name_txt s w (by omega) hT
        rw [hX] at q1
        refine q1.mono ?_
        rintro e w1 ⟨rfl, n1⟩
        clear q1
        have f1 : Nw w w1 := n1
        go_wp2_with fail
        have q2 := name_txt (t) w1 (by omega) (hT.fr f1)
        rw [hY] at q2
        refine q2.mono ?_
        rintro e w2 ⟨rfl, n2⟩
        clear q2
        have f2 : Nw w w2 := f1.tr n2
        go_wp2_with fail
        have q3 := plain_txt (s) w2 (by omega) (hT.fr f2)
        rw [hP] at q3
        refine q3.mono ?_
        rintro e w3 ⟨rfl, n3⟩
        clear q3
        have f3 : Nw w w3 := f2.tr n3
        go_wp2_with fail
        have q4 := name_txt (s1 ++ t) w3 (z1) (hT.fr f3)
        rw [e1] at q4
        refine q4.mono ?_
        rintro e w4 ⟨rfl, n4⟩
        clear q4
        have f4 : Nw w w4 := f3.tr n4
        go_wp2_with fail
        have q5 := name_txt (s2 ++ t) w4 (z2) (hT.fr f4)
        rw [e2] at q5
        refine q5.mono ?_
        rintro e w5 ⟨rfl, n5⟩
        clear q5
        have f5 : Nw w w5 := f4.tr n5
        go_wp2_with fail
        have q6 := plain_txt (s3 ++ t) w5 (z3) (hT.fr f5)
        rw [e3] at q6
        refine q6.mono ?_
        rintro e w6 ⟨rfl, n6⟩
        clear q6
        have f6 : Nw w w6 := f5.tr n6
        go_wp2_with fail
        have q7 := plain_txt (s4 ++ t) w6 (z4) (hT.fr f6)
        rw [e4] at q7
        refine q7.mono ?_
        rintro e w7 ⟨rfl, n7⟩
        clear q7
        have f7 : Nw w w7 := f6.tr n7
        go_wp2_with fail
        refine (alive_any (hS.fr f7 (fun _ _ f => f)) (hT.fr f7)).mono ?_
        rintro e w8 ⟨rfl, n8⟩
        go_wp2_with fail
        go_ret
        exact ⟨rfl, f7.tr n8⟩
      · have hbz : ¬ (4096 : Int) < (s.size : Int) := by omega
        go_enter Tryd.func5, Tryd.ntmps5
        go_wp2_with fail
        have q1 := name_txt s w (by omega) hT
        rw [hX] at q1
        refine q1.mono ?_
        rintro e w1 ⟨rfl, n1⟩
        clear q1
        have f1 : Nw w w1 := n1
        go_wp2_with fail
        have q2 := name_txt (t) w1 (by omega) (hT.fr f1)
        rw [hY] at q2
        refine q2.mono ?_
        rintro e w2 ⟨rfl, n2⟩
        clear q2
        have f2 : Nw w w2 := f1.tr n2
        go_wp2_with fail
        have q3 := name_txt (s1 ++ t) w2 (z1) (hT.fr f2)
        rw [e1] at q3
        refine q3.mono ?_
        rintro e w3 ⟨rfl, n3⟩
        clear q3
        have f3 : Nw w w3 := f2.tr n3
        go_wp2_with fail
        have q4 := name_txt (s2 ++ t) w3 (z2) (hT.fr f3)
        rw [e2] at q4
        refine q4.mono ?_
        rintro e w4 ⟨rfl, n4⟩
        clear q4
        have f4 : Nw w w4 := f3.tr n4
        go_wp2_with fail
        have q5 := plain_txt (s3 ++ t) w4 (z3) (hT.fr f4)
        rw [e3] at q5
        refine q5.mono ?_
        rintro e w5 ⟨rfl, n5⟩
        clear q5
        have f5 : Nw w w5 := f4.tr n5
        go_wp2_with fail
        have q6 := plain_txt (s4 ++ t) w5 (z4) (hT.fr f5)
        rw [e4] at q6
        refine q6.mono ?_
        rintro e w6 ⟨rfl, n6⟩
        clear q6
        have f6 : Nw w w6 := f5.tr n6
        go_wp2_with fail
        refine (alive_any (hS.fr f6 (fun _ _ f => f)) (hT.fr f6)).mono ?_
        rintro e w7 ⟨rfl, n7⟩
        go_wp2_with fail
        go_ret
        exact ⟨rfl, f6.tr n7⟩
    | false =>
      by_cases hbig : 4096 < s.size
      · have hbz : (4096 : Int) < (s.size : Int) := by omega
        have hP := plain_long s.data.toList (by rw [size_list]; exact hbig)
        go_enter Tryd.func5, Tryd.ntmps5
        go_wp2_with fail
        have q1 := name_txt s w (by omega) hT
        rw [hX] at q1
        refine q1.mono ?_
        rintro e w1 ⟨rfl, n1⟩
        clear q1
        have f1 : Nw w w1 := n1
        go_wp2_with fail
        have q2 := name_txt (t) w1 (by omega) (hT.fr f1)
        rw [hY] at q2
        refine q2.mono ?_
        rintro e w2 ⟨rfl, n2⟩
        clear q2
        have f2 : Nw w w2 := f1.tr n2
        go_wp2_with fail
        have q3 := plain_txt (s) w2 (by omega) (hT.fr f2)
        rw [hP] at q3
        refine q3.mono ?_
        rintro e w3 ⟨rfl, n3⟩
        clear q3
        have f3 : Nw w w3 := f2.tr n3
        go_wp2_with fail
        have q4 := name_txt (s1 ++ t) w3 (z1) (hT.fr f3)
        rw [e1] at q4
        refine q4.mono ?_
        rintro e w4 ⟨rfl, n4⟩
        clear q4
        have f4 : Nw w w4 := f3.tr n4
        go_wp2_with fail
        have q5 := name_txt (s2 ++ t) w4 (z2) (hT.fr f4)
        rw [e2] at q5
        refine q5.mono ?_
        rintro e w5 ⟨rfl, n5⟩
        clear q5
        have f5 : Nw w w5 := f4.tr n5
        go_wp2_with fail
        have q6 := plain_txt (s3 ++ t) w5 (z3) (hT.fr f5)
        rw [e3] at q6
        refine q6.mono ?_
        rintro e w6 ⟨rfl, n6⟩
        clear q6
        have f6 : Nw w w6 := f5.tr n6
        go_wp2_with fail
        have q7 := plain_txt (s4 ++ t) w6 (z4) (hT.fr f6)
        rw [e4] at q7
        refine q7.mono ?_
        rintro e w7 ⟨rfl, n7⟩
        clear q7
        have f7 : Nw w w7 := f6.tr n7
        go_wp2_with fail
        refine (alive_any (hS.fr f7 (fun _ _ f => f)) (hT.fr f7)).mono ?_
        rintro e w8 ⟨rfl, n8⟩
        go_wp2_with fail
        go_ret
        exact ⟨rfl, f7.tr n8⟩
      · have hbz : ¬ (4096 : Int) < (s.size : Int) := by omega
        go_enter Tryd.func5, Tryd.ntmps5
        go_wp2_with fail
        have q1 := name_txt s w (by omega) hT
        rw [hX] at q1
        refine q1.mono ?_
        rintro e w1 ⟨rfl, n1⟩
        clear q1
        have f1 : Nw w w1 := n1
        go_wp2_with fail
        have q2 := name_txt (t) w1 (by omega) (hT.fr f1)
        rw [hY] at q2
        refine q2.mono ?_
        rintro e w2 ⟨rfl, n2⟩
        clear q2
        have f2 : Nw w w2 := f1.tr n2
        go_wp2_with fail
        have q3 := name_txt (s1 ++ t) w2 (z1) (hT.fr f2)
        rw [e1] at q3
        refine q3.mono ?_
        rintro e w3 ⟨rfl, n3⟩
        clear q3
        have f3 : Nw w w3 := f2.tr n3
        go_wp2_with fail
        have q4 := name_txt (s2 ++ t) w3 (z2) (hT.fr f3)
        rw [e2] at q4
        refine q4.mono ?_
        rintro e w4 ⟨rfl, n4⟩
        clear q4
        have f4 : Nw w w4 := f3.tr n4
        go_wp2_with fail
        have q5 := plain_txt (s3 ++ t) w4 (z3) (hT.fr f4)
        rw [e3] at q5
        refine q5.mono ?_
        rintro e w5 ⟨rfl, n5⟩
        clear q5
        have f5 : Nw w w5 := f4.tr n5
        go_wp2_with fail
        have q6 := plain_txt (s4 ++ t) w5 (z4) (hT.fr f5)
        rw [e4] at q6
        refine q6.mono ?_
        rintro e w6 ⟨rfl, n6⟩
        clear q6
        have f6 : Nw w w6 := f5.tr n6
        go_wp2_with fail
        refine (alive_any (hS.fr f6 (fun _ _ f => f)) (hT.fr f6)).mono ?_
        rintro e w7 ⟨rfl, n7⟩
        go_wp2_with fail
        go_ret
        exact ⟨rfl, f6.tr n7⟩
end Go.Proofs.YtdcnoepgnncjoabDoor
