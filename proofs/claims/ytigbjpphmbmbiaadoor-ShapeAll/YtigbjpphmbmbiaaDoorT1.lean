/- ShapeAll: the walk. -/
import Derived.Test.YtigbjpphmbmbiaaDoorW2
import Derived.Test.YtigbjpphmbmbiaaDoorAp
namespace Go.Proofs.YtigbjpphmbmbiaaDoor
open Go.RowKit
set_option linter.unusedVariables false
set_option linter.unusedSimpArgs false

set_option maxRecDepth 100000 in
set_option maxHeartbeats 2000000 in
theorem all_no (i n : Nat) (h : ¬ (i < n ∧ n ≤ 9223372036854775808)) (hi : i < 18446744073709551616) (hn : n < 18446744073709551616) (w : World) (hT : TabAt w) {B : Nat} {a : Nat → Addr} (hS : Sent B w a) :
    Calls Tryd.prog 3 #[.int .u64 (i : Int), .int .u64 (n : Int)] w fun x w' => x = .returned (.bool true) ∧ Nw w w' := by
  have HT : Hid (TabAt w) := hT
  have HS : Hid (Sent B w a) := hS
  have q1 := path_no i n h hi hn w hS
  clear hT hS
  go_enter Tryd.func3, Tryd.ntmps3
  go_wp2_with fail
  refine q1.mono ?_
  rintro x w1 ⟨rfl, n1⟩
  have N1 : Hid (Nw w w1) := n1
  clear n1 q1
  go_wp2_with fail
  refine (alive_any _ (HT.out.nw N1.out) (HS.out.fr N1.out (fun _ _ f => f))).mono ?_
  rintro x w2 ⟨rfl, n2⟩
  have N2 : Hid (Nw w w2) := N1.out.tr n2
  clear n2
  have q3 := sized_any n
  have q4 := fun W (nW : Nw w W) => isE_any (HS.out.fr nW (fun _ _ f => f)) (v := sen (a 4)) (code := 5) (pl := none) (.inr (.inl ⟨4, by decide, rfl, rfl, rfl⟩)) 5
  rw [show sameB 5 none 5 (-1) = true by decide] at q4
  have Q4 := show Hid _ from q4
  clear q4
  go_wp2_with fail
  refine (q3 _).mono ?_
  rintro x w3 ⟨rfl, n3⟩
  have N3 : Hid (Nw w w3) := N2.out.tr n3
  clear n3
  by_cases hs : n ≤ 9223372036854775808
  · have hni : (n : Int) ≤ (i : Int) := by omega
    rw [show decide (n ≤ 9223372036854775808) = true by simp [hs]]
    go_wp2_with fail
    refine (Q4.out _ N3.out).mono ?_
    rintro x w4 ⟨rfl, n4⟩
    have N4 : Hid (Nw w w4) := N3.out.tr n4
    clear n4
    go_wp2_with fail
    go_ret
    exact ⟨rfl, N4.out⟩
  · rw [show decide (n ≤ 9223372036854775808) = false by simp [hs]]
    go_wp2_with fail
    refine (Q4.out _ N3.out).mono ?_
    rintro x w4 ⟨rfl, n4⟩
    have N4 : Hid (Nw w w4) := N3.out.tr n4
    clear n4
    go_wp2_with fail
    go_ret
    exact ⟨rfl, N4.out⟩

set_option maxRecDepth 100000 in
set_option maxHeartbeats 4000000 in
theorem all_yes (i n : Nat) (h : i < n) (hn : n ≤ 9223372036854775808) (w : World) (hT : TabAt w) {B : Nat} {a : Nat → Addr} (hS : Sent B w a) :
    Calls Tryd.prog 3 #[.int .u64 (i : Int), .int .u64 (n : Int)] w fun x w' => x = .returned (.bool true) ∧ Nw w w' := by
  have HT : Hid (TabAt w) := hT
  have HS : Hid (Sent B w a) := hS
  have q1 := path_yes i n h hn w
  obtain ⟨i1, hie⟩ : ∃ i1, i1 = i + 1 := ⟨_, rfl⟩
  have q2 := batch_yes i i1 n (by omega) (by omega) hn
  obtain ⟨c, hc, hcn⟩ := isL_ex (n := n) (by omega) hn
  have hle := pth_len c i 0 n (by omega)
  have hle63 := pth_len 63 i 0 n (by rw [p63]; omega)
  have HPM : Hid (List.Perm (pth i 0 n) (bat i i1 0 n)) := by rw [hie]; exact pth_bat n i 0 n (by omega) (by omega) h
  have HTL : Hid (Tls 0 n ((i, i1) :: pth i 0 n)) := by rw [hie]; exact pth_tls n i 0 n (by omega) (by omega) h
  have hci : (i : Int) + 1 = (i1 : Int) := by omega
  have hi1b : i1 ≤ 9223372036854775808 := by omega
  have hpl := HPM.out.length_eq
  obtain ⟨P, hP⟩ : ∃ P, P = pth i 0 n := ⟨_, rfl⟩
  obtain ⟨Q, hQ⟩ : ∃ Q, Q = bat i i1 0 n := ⟨_, rfl⟩
  rw [← hP] at q1 hle hle63 HPM HTL hpl
  rw [← hQ] at q2 HPM hpl
  have HLC : Hid (IsL n c) := hc
  rw [← hpl] at q2
  obtain ⟨m, hm⟩ : ∃ m, m = P.length := ⟨_, rfl⟩
  rw [← hm] at q1 q2 hle hle63 hpl
  have HM : Hid (m = P.length) := hm
  have HMQ : Hid (m = Q.length) := hpl
  have Q2 := show Hid _ from q2
  have hi1 : (i : Int) < (n : Int) := by omega
  have hd1 : decide ((n : Int) ≤ (i : Int)) = false := by simp; omega
  have hd2 : decide (n ≤ i) = false := by simp; omega
  clear hT hS hc hpl hm hP hQ q2 hie
  go_enter Tryd.func3, Tryd.ntmps3
  go_wp2_with fail
  refine q1.mono ?_
  rintro x w1 ⟨v1, rfl, o1, n1⟩
  have O1 : Hid (w1.ownsRow w.heap.size 34 2 v1 m (fs P)) := o1
  obtain ⟨pa, pc, rfl⟩ := ownsRow_form o1
  have N1 : Hid (Nw w w1) := n1
  clear n1 q1 o1
  go_wp2_with fail
  refine (alive_any _ (HT.out.nw N1.out) (HS.out.fr N1.out (fun _ _ f => f))).mono ?_
  rintro x w2 ⟨rfl, n2⟩
  have N2 : Hid (Nw w1 w2) := n2
  clear n2
  go_wp2_with fail
  refine (sized_any n _).mono ?_
  rintro x w3 ⟨rfl, n3⟩
  have N3 : Hid (Nw w1 w3) := N2.out.tr n3
  clear n3
  rw [show decide (n ≤ 9223372036854775808) = true by simp [hn]]
  go_wp2_with fail
  refine (Q2.out _).mono ?_
  rintro x w4 ⟨v4, rfl, o4, n4⟩
  have O4 : Hid (w4.ownsRow w3.heap.size 34 2 v4 m (fs Q)) := o4
  obtain ⟨qa, qc, rfl⟩ := ownsRow_form o4
  have N4 : Hid (Nw w1 w4) := N3.out.tr n4
  clear n4 o4
  go_wp2_with fail
  have qm := most_yes m n 0 c HLC.out (by omega) (by omega) (by omega)
  refine (qm _).mono ?_
  rintro x w5 ⟨rfl, n5⟩
  have N5 : Hid (Nw w1 w5) := N4.out.tr n5
  have HPP : Hid (∀ k t, P[k]? = some t → ∃ g off, pa = some ⟨g, off, none⟩ ∧ g < w1.heap.size ∧ w1.cell? ⟨g, off + k * 2, none⟩ = some (.int .u64 (t.1 : Int)) ∧ w1.cell? ⟨g, off + k * 2 + 1, none⟩ = some (.int .u64 (t.2 : Int))) := by
    have := O1.out
    rw [HM.out] at this
    obtain ⟨ad, cap, e, hh⟩ := Spn.of this
    injection e with e1 e2 e3
    subst e1
    exact hh
  have HQQ : Hid (∀ k t, Q[k]? = some t → ∃ g off, qa = some ⟨g, off, none⟩ ∧ g < w4.heap.size ∧ w4.cell? ⟨g, off + k * 2, none⟩ = some (.int .u64 (t.1 : Int)) ∧ w4.cell? ⟨g, off + k * 2 + 1, none⟩ = some (.int .u64 (t.2 : Int))) := by
    have := O4.out
    rw [HMQ.out] at this
    obtain ⟨ad, cap, e, hh⟩ := Spn.of this
    injection e with e1 e2 e3
    subst e1
    exact hh
  have N45 : Hid (Nw w4 w5) := n5
  clear n5 qm
  go_wp2_with fail
  go_loopw [9] (fun s wr => ∃ j : Nat, s = .int .i64 (j : Int) ∧ j ≤ m ∧ Nw w5 wr) (fun s _ => m - (intOf s).toNat)
  case atStart => exact ⟨0, rfl, by omega, nwr w5⟩
  case round =>
    obtain ⟨j, rfl, hj, hnw⟩ := hrel
    have HNW : Hid (Nw w5 wr) := hnw
    clear hnw
    by_cases hlt : j < m
    · have hji : (j : Int) < (m : Int) := by omega
      obtain ⟨t, ht⟩ : ∃ t, P[j]? = some t := ⟨_, List.getElem?_eq_getElem (by have := HM.out; omega)⟩
      obtain ⟨q, hq⟩ : ∃ q : Nat, Q[q]? = some t := by
        have := HPM.out.subset (List.mem_of_getElem? ht)
        exact List.getElem?_of_mem this
      obtain ⟨g, off, rfl, g1, g2, g3⟩ := HPP.out j t ht
      have HG2 := show Hid _ from N5.out.cellOf g2
      have HG3 := show Hid _ from N5.out.cellOf g3
      have HQ : Hid (Q[q]? = some t) := hq
      obtain ⟨x, y⟩ := t
      clear g2 g3 hq ht g1
      go_wp2
      obtain ⟨wh, hwh⟩ : ∃ wh, wh = wr := ⟨_, rfl⟩
      rw [← hwh]
      have HW : Hid (Nw w5 wh) := by rw [hwh]; exact HNW.out
      clear hwh HNW
      go_loopw [10, 11] (fun fd s w2 => ∃ (k : Nat) (f : Bool), s = .int .i64 (k : Int) ∧ fd = .bool f ∧ k ≤ m ∧ (f = true ∨ ∃ q : Nat, k ≤ q ∧ Q[q]? = some (x, y)) ∧ Nw w5 w2) (fun _ s _ => m - (intOf s).toNat)
      case atStart => exact ⟨0, false, rfl, rfl, by omega, .inr ⟨q, by omega, HQ.out⟩, HW.out⟩
      case round =>
        obtain ⟨k, f, rfl, rfl, hk, hf, hnw⟩ := hrel
        have HF : Hid (f = true ∨ ∃ q : Nat, k ≤ q ∧ Q[q]? = some (x, y)) := hf
        have HN2 : Hid (Nw w5 wr) := hnw
        clear hf hnw
        by_cases hkm : k < m
        · have hki : (k : Int) < (m : Int) := by omega
          obtain ⟨t, ht⟩ : ∃ t, Q[k]? = some t := ⟨_, List.getElem?_eq_getElem (by have := HMQ.out; omega)⟩
          obtain ⟨p, po, rfl, p1, p2, p3⟩ := HQQ.out k t ht
          have p2' := HN2.out.cellOf (N45.out.cellOf p2)
          have p3' := HN2.out.cellOf (N45.out.cellOf p3)
          have g2' := HN2.out.cellOf HG2.out
          have g3' := HN2.out.cellOf HG3.out
          obtain ⟨x', y'⟩ := t
          have HTT : Hid (Q[k]? = some (x', y')) := ht
          clear p2 p3 p1 ht
          cases f with
          | true =>
            go_wp2
            go_quiet (fail)
            go_wp2
            exact ⟨⟨k + 1, true, by go_num, rfl, by omega, .inl rfl, HN2.out.drewN nq⟩, by simp [intOf]; omega⟩
          | false =>
            by_cases he : x' = x ∧ y' = y
            · obtain ⟨rfl, rfl⟩ := he
              go_wp2
              go_quiet (fail)
              go_wp2
              exact ⟨⟨k + 1, true, by go_num, rfl, by omega, .inl rfl, HN2.out.drewN nq⟩, by simp [intOf]; omega⟩
            · have HQ2 : Hid (∃ q : Nat, k + 1 ≤ q ∧ Q[q]? = some (x, y)) := by
                rcases HF.out with hf | ⟨q, hq1, hq2⟩
                · cases hf
                · refine ⟨q, ?_, hq2⟩
                  rcases Nat.eq_or_lt_of_le hq1 with e | e
                  · subst e
                    rw [HTT.out] at hq2
                    cases hq2
                    exact absurd ⟨rfl, rfl⟩ he
                  · exact e
              have hway : ((x' : Int) == (x : Int)) = false ∨ (x' = x ∧ ((y' : Int) == (y : Int)) = false) := by
                by_cases hx : x' = x
                · exact .inr ⟨hx, by simp; intro hy; exact he ⟨hx, by omega⟩⟩
                · exact .inl (by simp; omega)
              clear he
              rcases hway with hx | ⟨rfl, hy⟩
              all_goals
                go_wp2
                go_quiet (fail)
                go_wp2
                exact ⟨⟨k + 1, false, by go_num, rfl, by omega, .inr HQ2.out, HN2.out.drewN nq⟩, by simp [intOf]; omega⟩
        · obtain rfl : k = m := by omega
          have hft : f = true := by
            rcases HF.out with hf | ⟨q, hq1, hq2⟩
            · exact hf
            · have := (List.getElem?_eq_some_iff.1 hq2).1
              have := HMQ.out
              omega
          subst hft
          go_wp2
          exact ⟨⟨j + 1, by go_num, by omega, HN2.out⟩, by simp [intOf]; omega⟩
    · obtain rfl : j = m := by omega
      have N6 : Hid (Nw w1 wr) := N5.out.tr HNW.out
      have qs := spanL_any i i1
      go_wp2_with fail
      refine (qs _).mono ?_
      rintro x w6 ⟨rfl, n6⟩
      have N7 : Hid (Nw w1 w6) := N6.out.tr n6
      have own1 : Hid ((w6.alloc (.cells #[.int .u64 (i : Int), .int .u64 (i1 : Int)] 34)).ownsRow w6.heap.size 34 2 (.slice (some ⟨w6.heap.size, 0, none⟩) 1 1) [(i, i1)].length (fs [(i, i1)])) := own_one w6 i i1
      have ownP : Hid ((w6.alloc (.cells #[.int .u64 (i : Int), .int .u64 (i1 : Int)] 34)).ownsRow w.heap.size 34 2 (.slice pa j pc) P.length (fs P)) := by
        have := O1.out
        rw [HM.out] at this
        rw [HM.out]
        exact World.ownsRow.alloc (ownsRow_keep this (fun g hg => N7.out.block g (this.lt g hg).2 (fun f => f))) _
      have hPl : P.length ≤ 63 := by have := HM.out; omega
      clear n6 qs
      go_wp2_with (at_builtin; refine wpList_append_crd rfl (.tmp 93) (.tmp 94) rfl w6.heap.size (.slice (some ⟨w6.heap.size, 0, none⟩) 1 1) [(i, i1)] rfl own1.out (.slice pa j pc) P rfl ownP.out (by simp; omega) (by simp) ?_; intro v' w7 o7 g7; have n7 : Hid (Nw w w7) := (Nw.tr N1.out (N7.out.alloc _)).grown g7 (fun q hq hlt => by have := (own1.out.lt q hq).1; have := N1.out.size; have := N7.out.size; omega); have O7 : Hid (Spn w7 v' ((i, i1) :: P)) := Spn.of o7; clear o7 g7)
      refine (tiles_yes v' ((i, i1) :: P) 0 n w7 O7.out (by simp; omega) HTL.out).mono ?_
      rintro x w8 ⟨rfl, n8⟩
      have N8 : Hid (Nw w w8) := n7.out.tr n8
      clear n8
      go_wp2_with fail
      go_ret
      exact ⟨rfl, N8.out⟩
theorem all_any (i n : Nat) (hi : i < 18446744073709551616) (hn : n < 18446744073709551616) (w : World) (hT : TabAt w) {B : Nat} {a : Nat → Addr} (hS : Sent B w a) :
    Calls Tryd.prog 3 #[.int .u64 (i : Int), .int .u64 (n : Int)] w fun x w' => x = .returned (.bool true) ∧ Nw w w' := by
  by_cases h : i < n ∧ n ≤ 9223372036854775808
  · exact all_yes i n h.1 h.2 w hT hS
  · exact all_no i n h hi hn w hT hS
end Go.Proofs.YtigbjpphmbmbiaaDoor
