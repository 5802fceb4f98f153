/- ShapeRising: the walk. -/
import Derived.Test.YtigbjpphmbmbiaaDoorW2
import Derived.Test.YtigbjpphmbmbiaaDoorAp
namespace Go.Proofs.YtigbjpphmbmbiaaDoor
open Go.RowKit
set_option linter.unusedVariables false
set_option linter.unusedSimpArgs false

set_option maxRecDepth 100000 in
set_option maxHeartbeats 2000000 in
theorem rising_no (x y n : Nat) (h : ¬ (x < y ∧ y ≤ n ∧ n ≤ 9223372036854775808)) (hx : x < 18446744073709551616) (hy : y < 18446744073709551616) (hn : n < 18446744073709551616) (w : World) (hT : TabAt w) {B : Nat} {a : Nat → Addr} (hS : Sent B w a) :
    Calls Tryd.prog 4 #[.int .u64 (x : Int), .int .u64 (y : Int), .int .u64 (n : Int)] w fun z w' => z = .returned (.bool true) ∧ Nw w w' := by
  have HT : Hid (TabAt w) := hT
  have HS : Hid (Sent B w a) := hS
  have q1 := batch_no x y n h hx hy hn w hS
  clear hT hS
  go_enter Tryd.func4, Tryd.ntmps4
  go_wp2_with fail
  refine q1.mono ?_
  rintro z w1 ⟨rfl, n1⟩
  have N1 : Hid (Nw w w1) := n1
  clear n1 q1
  go_wp2_with fail
  refine (alive_any _ (HT.out.nw N1.out) (HS.out.fr N1.out (fun _ _ f => f))).mono ?_
  rintro z w2 ⟨rfl, n2⟩
  have N2 : Hid (Nw w w2) := N1.out.tr n2
  clear n2
  have q3 := sized_any n
  have q4 := fun W (nW : Nw w W) => isE_any (HS.out.fr nW (fun _ _ f => f)) (v := sen (a 4)) (code := 5) (pl := none) (.inr (.inl ⟨4, by decide, rfl, rfl, rfl⟩)) 5
  rw [show sameB 5 none 5 (-1) = true by decide] at q4
  have Q4 := show Hid _ from q4
  clear q4
  go_wp2_with fail
  refine (q3 _).mono ?_
  rintro z w3 ⟨rfl, n3⟩
  have N3 : Hid (Nw w w3) := N2.out.tr n3
  clear n3
  by_cases hs : n ≤ 9223372036854775808
  · have hw : (n : Int) < (y : Int) ∨ (¬ (n : Int) < (y : Int) ∧ (y : Int) ≤ (x : Int)) := by omega
    rw [show decide (n ≤ 9223372036854775808) = true by simp [hs]]
    rcases hw with hw | ⟨hw1, hw2⟩
    all_goals
      go_wp2_with fail
      refine (Q4.out _ N3.out).mono ?_
      rintro z w4 ⟨rfl, n4⟩
      have N4 : Hid (Nw w w4) := N3.out.tr n4
      clear n4
      go_wp2_with fail
      go_ret
      exact ⟨rfl, N4.out⟩
  · rw [show decide (n ≤ 9223372036854775808) = false by simp [hs]]
    go_wp2_with fail
    refine (Q4.out _ N3.out).mono ?_
    rintro z w4 ⟨rfl, n4⟩
    have N4 : Hid (Nw w w4) := N3.out.tr n4
    clear n4
    go_wp2_with fail
    go_ret
    exact ⟨rfl, N4.out⟩


set_option maxRecDepth 100000 in
set_option maxHeartbeats 4000000 in
theorem rising_yes (x y n : Nat) (hxy : x < y) (hy : y ≤ n) (hn : n ≤ 9223372036854775808) (w : World) (hT : TabAt w) {B : Nat} {a : Nat → Addr} (hS : Sent B w a) :
    Calls Tryd.prog 4 #[.int .u64 (x : Int), .int .u64 (y : Int), .int .u64 (n : Int)] w fun z w' => z = .returned (.bool true) ∧ Nw w w' := by
  have HT : Hid (TabAt w) := hT
  have HS : Hid (Sent B w a) := hS
  have q1 := batch_yes x y n hxy hy hn w
  have q2 := batch_yes 0 n n (by omega) (by omega) hn
  rw [bat_all n (by omega)] at q2
  have hle := bat_len 63 x y 0 n (by rw [p63]; omega)
  have HRS : Hid (Rsg (bat x y 0 n)) := bat_rsg hxy hy
  have HTL : Hid (Tls 0 n ((x, y) :: bat x y 0 n)) := bat_tls hxy hy
  obtain ⟨P, hP⟩ : ∃ P, P = bat x y 0 n := ⟨_, rfl⟩
  rw [← hP] at q1 hle HRS HTL
  obtain ⟨m, hm⟩ : ∃ m, m = P.length := ⟨_, rfl⟩
  rw [← hm] at q1 hle
  have HM : Hid (m = P.length) := hm
  have Q2 : Hid (∀ W, Calls Tryd.prog 9 #[.int .u64 0, .int .u64 (n : Int), .int .u64 (n : Int)] W fun z w' => ∃ v, z = .returned (.tuple #[v, .nilIface]) ∧ w'.ownsRow W.heap.size 34 2 v 0 [] ∧ Nw W w') := q2
  have hd1 : decide ((n : Int) < (y : Int)) = false := by simp; omega
  have hd2 : decide (n < y) = false := by simp; omega
  have hd3 : decide ((y : Int) ≤ (x : Int)) = false := by simp; omega
  have hd4 : decide (y ≤ x) = false := by simp; omega
  clear hT hS hm hP q2
  go_enter Tryd.func4, Tryd.ntmps4
  go_wp2_with fail
  refine q1.mono ?_
  rintro z w1 ⟨v1, rfl, o1, n1⟩
  have O1 : Hid (w1.ownsRow w.heap.size 34 2 v1 m (fs P)) := o1
  obtain ⟨pa, pc, rfl⟩ := ownsRow_form o1
  have N1 : Hid (Nw w w1) := n1
  clear n1 q1 o1
  go_wp2_with fail
  refine (alive_any _ (HT.out.nw N1.out) (HS.out.fr N1.out (fun _ _ f => f))).mono ?_
  rintro z w2 ⟨rfl, n2⟩
  have N2 : Hid (Nw w1 w2) := n2
  clear n2
  go_wp2_with fail
  refine (sized_any n _).mono ?_
  rintro z w3 ⟨rfl, n3⟩
  have N3 : Hid (Nw w1 w3) := N2.out.tr n3
  clear n3
  rw [show decide (n ≤ 9223372036854775808) = true by simp [hn]]
  have HPP : Hid (∀ k t, P[k]? = some t → ∃ g off, pa = some ⟨g, off, none⟩ ∧ g < w1.heap.size ∧ w1.cell? ⟨g, off + k * 2, none⟩ = some (.int .u64 (t.1 : Int)) ∧ w1.cell? ⟨g, off + k * 2 + 1, none⟩ = some (.int .u64 (t.2 : Int))) := by
    have := O1.out
    rw [HM.out] at this
    obtain ⟨ad, cap, e, hh⟩ := Spn.of this
    injection e with e1 e2 e3
    subst e1
    exact hh
  go_wp2_with fail
  go_loopw [9] (fun s wr => ∃ j : Nat, s = .int .i64 ((j : Int) + 1) ∧ (j + 1 ≤ m ∨ j = 0) ∧ Nw w1 wr) (fun s _ => m + 1 - (intOf s).toNat)
  case atStart => exact ⟨0, rfl, .inr rfl, N3.out⟩
  case round =>
    obtain ⟨j, rfl, hj, hnw⟩ := hrel
    have HNW : Hid (Nw w1 wr) := hnw
    clear hnw
    by_cases hlt : j + 1 < m
    · have hji : (j : Int) + 1 < (m : Int) := by omega
      obtain ⟨s, hs⟩ : ∃ s, P[j]? = some s := ⟨_, List.getElem?_eq_getElem (by have := HM.out; omega)⟩
      obtain ⟨t, ht⟩ : ∃ t, P[j + 1]? = some t := ⟨_, List.getElem?_eq_getElem (by have := HM.out; omega)⟩
      have hr := Rsg.at HRS.out hs ht
      obtain ⟨g, off, rfl, g1, g2, g3⟩ := HPP.out j s hs
      obtain ⟨g', off', e, _, k2, k3⟩ := HPP.out (j + 1) t ht
      cases e
      have g3' := HNW.out.cellOf g3
      have k2' := HNW.out.cellOf k2
      obtain ⟨sx, sy⟩ := s
      obtain ⟨tx, ty⟩ := t
      simp only at g3' k2' hr
      have hri : ¬ (tx : Int) < (sy : Int) := by omega
      have hjm : j ≤ 1000 := by omega
      clear g2 g3 k2 k3 hs ht g1
      go_wp2
      go_quiet (fail)
      go_wp2
      exact ⟨⟨j + 1, by go_num, .inl (by omega), HNW.out.drewN nq⟩, by simp [intOf]; omega⟩
    · have hji : ¬ (j : Int) + 1 < (m : Int) := by omega
      go_wp2_with fail
      refine (Q2.out _).mono ?_
      rintro z w4 ⟨v4, rfl, o4, n4⟩
      obtain ⟨qa, qc, rfl⟩ := ownsRow_form o4
      have N4 : Hid (Nw w1 w4) := HNW.out.tr n4
      clear n4 o4
      have qs := spanL_any x y
      go_wp2_with fail
      refine (qs _).mono ?_
      rintro z w6 ⟨rfl, n6⟩
      have N7 : Hid (Nw w1 w6) := N4.out.tr n6
      have own1 : Hid ((w6.alloc (.cells #[.int .u64 (x : Int), .int .u64 (y : Int)] 34)).ownsRow w6.heap.size 34 2 (.slice (some ⟨w6.heap.size, 0, none⟩) 1 1) [(x, y)].length (fs [(x, y)])) := own_one w6 x y
      have ownP : Hid ((w6.alloc (.cells #[.int .u64 (x : Int), .int .u64 (y : Int)] 34)).ownsRow w.heap.size 34 2 (.slice pa m pc) P.length (fs P)) := by
        have := O1.out
        rw [HM.out] at this
        rw [HM.out]
        exact World.ownsRow.alloc (ownsRow_keep this (fun g hg => N7.out.block g (this.lt g hg).2 (fun f => f))) _
      have hPl : P.length ≤ 127 := by have := HM.out; omega
      clear n6 qs
      go_wp2_with (at_builtin; refine wpList_append_crdg rfl (.tmp 80) (.tmp 81) rfl w6.heap.size (.slice (some ⟨w6.heap.size, 0, none⟩) 1 1) [(x, y)] rfl own1.out (.slice pa m pc) P rfl ownP.out (by simp; omega) (by simp) ?_; intro v' w7 o7 g7; have n7 : Hid (Nw w w7) := (Nw.tr N1.out (N7.out.alloc _)).grown g7 (fun q hq hlt => by have := (own1.out.lt q hq).1; have := N1.out.size; have := N7.out.size; omega); have O7 : Hid (Spn w7 v' ((x, y) :: P)) := Spn.of o7; clear o7 g7)
      refine (tiles_yes v' ((x, y) :: P) 0 n w7 O7.out (by simp; omega) HTL.out).mono ?_
      rintro z w8 ⟨rfl, n8⟩
      have N8 : Hid (Nw w w8) := n7.out.tr n8
      clear n8
      go_wp2_with fail
      go_ret
      exact ⟨rfl, N8.out⟩
theorem rising_any (x y n : Nat) (hx : x < 18446744073709551616) (hy : y < 18446744073709551616) (hn : n < 18446744073709551616) (w : World) (hT : TabAt w) {B : Nat} {a : Nat → Addr} (hS : Sent B w a) :
    Calls Tryd.prog 4 #[.int .u64 (x : Int), .int .u64 (y : Int), .int .u64 (n : Int)] w fun z w' => z = .returned (.bool true) ∧ Nw w w' := by
  by_cases h : x < y ∧ y ≤ n ∧ n ≤ 9223372036854775808
  · exact rising_yes x y n h.1 h.2.1 h.2.2 w hT hS
  · exact rising_no x y n h hx hy hn w hT hS
end Go.Proofs.YtigbjpphmbmbiaaDoor
