/- ShapeSums: the walk. -/
import Derived.Test.YtigbjpphmbmbiabDoorW2
import Derived.Test.YtigbjpphmbmbiabDoorPo
namespace Go.Proofs.YtigbjpphmbmbiabDoor
open Go.RowKit
set_option linter.unusedVariables false
set_option linter.unusedSimpArgs false

theorem Fal.at : ∀ {l : List Nat} {k x y : Nat}, Fal l → l[k]? = some x → l[k + 1]? = some y → y < x
  | [], k, x, y, _, h, _ => by simp at h
  | [a], k, x, y, _, _, h => by simp at h
  | a :: b :: r, 0, x, y, h, h1, h2 => by simp at h1 h2; subst h1; subst h2; exact h.1
  | a :: b :: r, k + 1, x, y, h, h1, h2 => Fal.at (l := b :: r) (k := k) h.2 (by simpa using h1) (by simpa using h2)
theorem cov_fal {n k : Nat} {s t : Nat × Nat} (h1 : (cov 0 n)[k]? = some s) (h2 : (cov 0 n)[k + 1]? = some t) : t.1 < s.1 := by
  have e : (cov 0 n).map (fun t => t.1) = exs n := by rw [cov_zero, cvs_lev]
  exact Fal.at (exs_fal n) (k := k) (by rw [← e]; simp [h1]) (by rw [← e]; simp [h2])
theorem cov_count (n : Nat) : (cov 0 n).length = (exs n).length := by rw [cov_zero, cvs_len]
theorem exs_pow (k : Nat) : (exs (2 ^ k)).length = 1 := by
  have hp := Nat.two_pow_pos k
  rw [exs_step (k := k) (Nat.le_refl _) (by omega), Nat.sub_self, exs_zero]
  rfl
/-- With two at least the first one ends where the left part does. -/
theorem cov_first {n : Nat} {s : Nat × Nat} (h : (cov 0 n)[0]? = some s) (h2 : 2 ≤ (cov 0 n).length) : 2 ≤ n ∧ (s.2 + 1) * 2 ^ s.1 = spl n := by
  rw [cov_count] at h2
  by_cases h0 : n = 0
  · subst h0; rw [exs_zero] at h2; simp at h2
  · have a := Nat.log2_self_le h0
    have b := Nat.lt_log2_self (n := n)
    rw [Nat.pow_succ'] at b
    have hp := Nat.two_pow_pos n.log2
    have e := exs_split a b h2
    rw [exs_step a b] at h2
    rw [cov_zero, exs_step a b] at h
    have hs : s = (n.log2, 0 / 2 ^ n.log2) := by simpa [cvs] using h.symm
    subst hs
    refine ⟨?_, by simp [e]⟩
    by_cases hz : n - 2 ^ n.log2 = 0
    · rw [hz, exs_zero] at h2; simp at h2
    · omega
theorem row_mayE {A n : Nat} {t : Nat × Nat} {r : List (Nat × Nat)} (h : Row A n (t :: r)) (hn : n ≤ 9223372036854775808) : may t.1 t.2 ∧ t.2 * 2 ^ t.1 = A ∧ (t.2 + 1) * 2 ^ t.1 = A + 2 ^ t.1 := by
  have h1 := row_le _ _ _ h.2
  have e : (t.2 + 1) * 2 ^ t.1 = A + 2 ^ t.1 := by rw [Nat.add_mul, Nat.one_mul, h.1]
  refine ⟨⟨?_, by rw [e, p63]; omega⟩, h.1, e⟩
  exact pow_le_inv (by rw [p63]; omega)

set_option maxRecDepth 100000 in
set_option maxHeartbeats 2000000 in
theorem sums_no (n : Nat) (h : ¬ n ≤ 9223372036854775808) (hn : n < 18446744073709551616) (w : World) (hT : TabAt w) {B : Nat} {a : Nat → Addr} (hS : Sent B w a) :
    Calls Tryd.prog 4 #[.int .u64 (n : Int)] w fun x w' => x = .returned (.bool true) ∧ Nw w w' := by
  have HT : Hid (TabAt w) := hT
  have HS : Hid (Sent B w a) := hS
  have q1 := peaks_no n h hn w hS
  have q2 := split_no n (by omega) hn
  have q3 := sized_any n
  rw [show decide (n ≤ 9223372036854775808) = false by simp [h]] at q3
  have h2 : (2 : Int) ≤ (n : Int) := by omega
  clear hT hS
  go_enter Tryd.func4, Tryd.ntmps4
  go_wp2_with fail
  refine q1.mono ?_
  rintro x w1 ⟨rfl, n1⟩
  have N1 : Hid (Nw w w1) := n1
  clear n1 q1
  go_wp2_with fail
  refine (q2 _).mono ?_
  rintro x w2 ⟨rfl, n2⟩
  have N2 : Hid (Nw w w2) := N1.out.tr n2
  clear n2
  go_wp2_with fail
  refine (alive_any _ (HT.out.nw N2.out) (HS.out.fr N2.out (fun _ _ f => f))).mono ?_
  rintro x w3 ⟨rfl, n3⟩
  have N3 : Hid (Nw w w3) := N2.out.tr n3
  clear n3
  go_wp2_with fail
  refine (q3 _).mono ?_
  rintro x w4 ⟨rfl, n4⟩
  have N4 : Hid (Nw w w4) := N3.out.tr n4
  clear n4
  go_wp2_with fail
  refine (q3 _).mono ?_
  rintro x w5 ⟨rfl, n5⟩
  have N5 : Hid (Nw w w5) := N4.out.tr n5
  clear n5
  have q4 := isE_any (HS.out.fr N5.out (fun _ _ f => f)) (v := sen (a 4)) (code := 5) (pl := none) (.inr (.inl ⟨4, by decide, rfl, rfl, rfl⟩)) 5
  rw [show sameB 5 none 5 (-1) = true by decide] at q4
  go_wp2_with fail
  refine q4.mono ?_
  rintro x w6 ⟨rfl, n6⟩
  have N6 : Hid (Nw w w6) := N5.out.tr n6
  clear n6
  go_wp2_with fail
  go_ret
  exact ⟨rfl, N6.out⟩

set_option maxRecDepth 100000 in
set_option maxHeartbeats 4000000 in
theorem sums_yes (n k : Nat) (ok : Bool) (hn : n ≤ 9223372036854775808) (hok : ok = true → k = spl n ∧ 2 ≤ n) (hno : ok = false → n < 2) (w : World) (hT : TabAt w) {B : Nat} {a : Nat → Addr} (hS : Sent B w a)
    (q2 : ∀ W, Calls Tryd.prog 12 #[.int .u64 (n : Int)] W fun x w' => x = .returned (.tuple #[.int .u64 (k : Int), .bool ok]) ∧ Nw W w') :
    Calls Tryd.prog 4 #[.int .u64 (n : Int)] w fun x w' => x = .returned (.bool true) ∧ Nw w w' := by
  have HT : Hid (TabAt w) := hT
  have HS : Hid (Sent B w a) := hS
  have HOK : Hid (ok = true → k = spl n ∧ 2 ≤ n) := hok
  have q1 := peaks_yes n hn w hT
  have q3 := sized_any n
  rw [show decide (n ≤ 9223372036854775808) = true by simp [hn]] at q3
  have qc := fun W => count_any n W (by omega)
  rw [← cov_count] at qc
  have HR : Hid (Row 0 n (cov 0 n)) := cov_side (by omega)
  have HFA : Hid (∀ (j : Nat) (s t : Nat × Nat), (cov 0 n)[j]? = some s → (cov 0 n)[j + 1]? = some t → t.1 < s.1) := fun j s t => cov_fal
  have HF1 : Hid (∀ s : Nat × Nat, (cov 0 n)[0]? = some s → 2 ≤ (cov 0 n).length → 2 ≤ n ∧ (s.2 + 1) * 2 ^ s.1 = spl n) := fun s => cov_first
  have hl128 := cov_len 0 n (by rw [p63]; exact hn)
  obtain ⟨P, hP⟩ : ∃ P, P = cov 0 n := ⟨_, rfl⟩
  rw [← hP] at q1 qc HR HFA HF1 hl128
  obtain ⟨m, hm⟩ : ∃ m, m = P.length := ⟨_, rfl⟩
  rw [← hm] at q1 qc hl128 HF1
  have HM : Hid (m = P.length) := hm
  have QC := show Hid _ from qc
  have Q2 := show Hid _ from q2
  have Q3 := show Hid _ from q3
  clear hT hS hm hP q2 q3 qc hok
  go_enter Tryd.func4, Tryd.ntmps4
  go_wp2_with fail
  refine q1.mono ?_
  rintro x w1 ⟨v1, rfl, o1, n1⟩
  have O1 : Hid (w1.ownsRow w.heap.size 45 2 v1 m (fl P)) := o1
  obtain ⟨pa, pc, rfl⟩ := ownsRow_form o1
  have N1 : Hid (Nw w w1) := n1
  clear n1 q1 o1
  go_wp2_with fail
  refine (Q2.out _).mono ?_
  rintro x w2 ⟨rfl, n2⟩
  have N2 : Hid (Nw w1 w2) := n2
  clear n2
  go_wp2_with fail
  refine (alive_any _ (HT.out.nw (N1.out.tr N2.out)) (HS.out.fr (N1.out.tr N2.out) (fun _ _ f => f))).mono ?_
  rintro x w3 ⟨rfl, n3⟩
  have N3 : Hid (Nw w1 w3) := N2.out.tr n3
  clear n3
  have HPP : Hid (∀ k t, P[k]? = some t → ∃ g off, pa = some ⟨g, off, none⟩ ∧ g < w1.heap.size ∧ w1.cell? ⟨g, off + k * 2, none⟩ = some (.int .u8 (t.1 : Int)) ∧ w1.cell? ⟨g, off + k * 2 + 1, none⟩ = some (.int .u64 (t.2 : Int))) := by
    have := O1.out
    rw [HM.out] at this
    obtain ⟨ad, cap, e, hh⟩ := Crd.of this
    injection e with e1 e2 e3
    subst e1
    exact hh
  cases ok with
  | true =>
    obtain ⟨hks, hn2⟩ := HOK.out rfl
    obtain ⟨kk, hkk, hk1, hk2⟩ := spl_ex hn2
    have HK0 : Hid (k = spl n) := hks
    have qk := fun W => count_any k W (by omega)
    have hke : k = 2 ^ kk := by rw [hks, hkk]
    rw [show (exs k).length = 1 by rw [hke]; exact exs_pow kk] at qk
    have QK : Hid (∀ W, Calls Tryd.prog 13 #[.int .u64 (k : Int)] W fun e w' => e = .returned (.int .i64 1) ∧ w' = W) := qk
    have h2 : (2 : Int) ≤ (n : Int) := by omega
    have c1 : (k : Int) < (n : Int) := by omega
    have c2 : ¬ (k : Int) < (n : Int) - (k : Int) := by omega
    have c3 : decide ((n : Int) ≤ (k : Int)) = false := by simp; omega
    have c4 : decide (n ≤ k) = false := by simp; omega
    clear hks hkk hk1 hk2 hke qk hno
    go_wp2_with fail
    refine (Q3.out _).mono ?_
    rintro z w4 ⟨rfl, n4⟩
    have N4 : Hid (Nw w1 w4) := N3.out.tr n4
    clear n4
    go_wp2_with fail
    refine (Q3.out _).mono ?_
    rintro z w5 ⟨rfl, n5⟩
    have N5 : Hid (Nw w1 w5) := N4.out.tr n5
    clear n5
    go_wp2_with fail
    refine (QC.out _).mono ?_
    rintro z w5' ⟨rfl, rfl⟩
    go_wp2_with fail
    refine (QK.out _).mono ?_
    rintro z w5'' ⟨rfl, rfl⟩
    go_wp2_with fail
    go_loopw [7, 8] (fun at_ s wr => ∃ (pre rest : List (Nat × Nat)) (A : Nat), P = pre ++ rest ∧ s = .int .i64 (pre.length : Int) ∧ at_ = .int .u64 (A : Int) ∧ Row A n rest ∧ Nw w1 wr) (fun _ s _ => m - (intOf s).toNat)
    case atStart => exact ⟨[], P, 0, rfl, rfl, rfl, HR.out, N5.out⟩
    case round =>
      obtain ⟨pre, rest, A, hpr, rfl, rfl, hrow, hnw⟩ := hrel
      have HPR : Hid (P = pre ++ rest) := hpr
      have HNW : Hid (Nw w1 wr) := hnw
      have hml : Hid (m = pre.length + rest.length) := by show _ = _; rw [HM.out, hpr]; simp
      obtain ⟨j, hj⟩ : ∃ j, j = pre.length := ⟨_, rfl⟩
      rw [← hj] at hml ⊢
      have HJ : Hid (j = pre.length) := hj
      have hjm : j ≤ m := by have := hml.out; omega
      clear hpr hnw hj
      cases rest with
      | nil =>
        have hA : A = n := hrow
        have hnl : ¬ (j : Int) < (m : Int) := by have := hml.out; simp at this; omega
        have HR0 : Hid (Row 0 n P) := HR.out
        subst hA
        by_cases hm2 : m < 2
        · have hmi : (m : Int) < 2 := by omega
          go_wp2_with fail
          go_ret
          exact ⟨rfl, N1.out.tr HNW.out⟩
        · have hmi : ¬ (m : Int) < 2 := by omega
          obtain ⟨⟨x, y⟩, hat0⟩ : ∃ t, P[0]? = some t := ⟨_, List.getElem?_eq_getElem (by have := HM.out; omega)⟩
          have hmy0 : may x y := by
            have h1 := HR0.out
            cases hP : P with
            | nil => rw [hP] at hat0; simp at hat0
            | cons t r =>
              rw [hP] at h1 hat0
              simp at hat0
              subst hat0
              exact (row_mayE h1 hn).1
          obtain ⟨hn2, hE0⟩ := HF1.out (x, y) hat0 (by omega)
          simp only at hE0
          have hk0 := HK0.out
          rw [← hk0] at hE0
          have qsp := span_yes x y hmy0
          rw [hE0] at qsp
          obtain ⟨g, off, rfl, g1, g2, g3⟩ := HPP.out 0 (x, y) hat0
          simp only [Nat.zero_mul, Nat.add_zero] at g2 g3
          have g2' := HNW.out.cellOf g2
          have g3' := HNW.out.cellOf g3
          have hx63 := hmy0.1
          clear g2 g3 hat0
          go_wp2_with fail
          refine (qsp _).mono ?_
          rintro z w7 ⟨rfl, n7⟩
          have N7 : Hid (Nw w w7) := N1.out.tr (HNW.out.tr n7)
          clear n7 qsp
          go_wp2_with fail
          go_ret
          exact ⟨rfl, N7.out.alloc _⟩
      | cons t rest =>
        obtain ⟨x, y⟩ := t
        have hlt : (j : Int) < (m : Int) := by have := hml.out; simp at this; omega
        have hat : P[j]? = some (x, y) := by rw [HPR.out, HJ.out]; simp
        obtain ⟨hmy, e1, e2⟩ := row_mayE hrow hn
        have hle := row_le _ _ _ hrow.2
        have hAn : A ≤ n := Nat.le_trans (Nat.le_add_right _ _) hle
        have HRW : Hid (Row (A + 2 ^ x) n rest) := hrow.2
        simp only at hmy e1 e2 hle
        have qsp := span_yes x y hmy
        rw [e1, e2] at qsp
        obtain ⟨E, hE⟩ : ∃ E, E = A + 2 ^ x := ⟨_, rfl⟩
        rw [← hE] at qsp HRW hle
        have QS := show Hid _ from qsp
        have hx63 := hmy.1
        have hy64 := may_bd hmy
        rw [p63] at hy64
        obtain ⟨g, off, rfl, g1, g2, g3⟩ := HPP.out j (x, y) hat
        have g2' := HNW.out.cellOf g2
        have g3' := HNW.out.cellOf g3
        have HG2 : Hid (w1.cell? ⟨g, off + j * 2, none⟩ = some (.int .u8 (x : Int))) := g2
        have hP2 : Hid (P = (pre ++ [(x, y)]) ++ rest) := by show _ = _; rw [HPR.out]; simp
        have HAT : Hid (P[j]? = some (x, y)) := hat
        clear hE hmy e1 e2 hrow g2 g3 qsp hat
        go_wp2_with fail
        refine (QS.out _).mono ?_
        rintro z w6 ⟨rfl, n6⟩
        have N6 : Hid (Nw w1 w6) := HNW.out.tr n6
        have r2 := N6.out.cellOf HG2.out
        have hg6 : g < w6.heap.size := by have := N6.out.size; omega
        clear n6 g2' g3'
        by_cases hj0 : j = 0
        · have hd : decide ((0 : Int) < (j : Int)) = false := by simp; omega
          have hd' : decide (0 < j) = false := by simp; omega
          clear hj0
          go_wp2
          go_quiet (fail)
          go_wp2
          exact ⟨⟨pre ++ [(x, y)], rest, E, hP2.out, by rw [List.length_append, ← HJ.out]; go_num, rfl, HRW.out, (N6.out.alloc _).drewN nq⟩, by simp [intOf]; omega⟩
        · obtain ⟨q, hq⟩ : ∃ q, j = q + 1 := ⟨j - 1, by omega⟩
          obtain ⟨⟨x', y'⟩, hat'⟩ : ∃ t, P[q]? = some t := ⟨_, List.getElem?_eq_getElem (by have := HM.out; omega)⟩
          have hfa := HFA.out q (x', y') (x, y) hat' (by rw [← hq]; exact HAT.out)
          simp only at hfa
          obtain ⟨g', off', e, _, k2, k3⟩ := HPP.out q (x', y') hat'
          cases e
          have k2' := N6.out.cellOf k2
          have hjq : (j : Int) - 1 = (q : Int) := by omega
          have hj1 : (0 : Int) < (j : Int) := by omega
          have hj2 : decide (0 < j) = true := by simp; omega
          have hj3 : decide ((0 : Int) < (j : Int)) = true := by simp; omega
          have hj4 : 0 < j := by omega
          have hff2 : decide (x' ≤ x) = false := by simp; omega
          have hff3 : decide ((x' : Int) ≤ (x : Int)) = false := by simp; omega
          have hqm : q < m := by omega
          have hff : ¬ (x' : Int) ≤ (x : Int) := by omega
          clear hj0 hq hat' k2 k3
          go_wp2
          go_quiet (fail)
          go_wp2
          exact ⟨⟨pre ++ [(x, y)], rest, E, hP2.out, by rw [List.length_append, ← HJ.out]; go_num, rfl, HRW.out, (N6.out.alloc _).drewN nq⟩, by simp [intOf]; omega⟩
  | false =>
    have hn2 := hno rfl
    have h2 : ¬ (2 : Int) ≤ (n : Int) := by omega
    have h3 : decide ((2 : Int) ≤ (n : Int)) = false := by simp; omega
    have h4 : decide (2 ≤ n) = false := by simp; omega
    clear hno
    go_wp2_with fail
    refine (Q3.out _).mono ?_
    rintro z w5 ⟨rfl, n5⟩
    have N5 : Hid (Nw w1 w5) := N3.out.tr n5
    clear n5
    go_wp2_with fail
    refine (QC.out _).mono ?_
    rintro z w5' ⟨rfl, rfl⟩
    go_wp2_with fail
    go_loopw [7, 8] (fun at_ s wr => ∃ (pre rest : List (Nat × Nat)) (A : Nat), P = pre ++ rest ∧ s = .int .i64 (pre.length : Int) ∧ at_ = .int .u64 (A : Int) ∧ Row A n rest ∧ Nw w1 wr) (fun _ s _ => m - (intOf s).toNat)
    case atStart => exact ⟨[], P, 0, rfl, rfl, rfl, HR.out, N5.out⟩
    case round =>
      obtain ⟨pre, rest, A, hpr, rfl, rfl, hrow, hnw⟩ := hrel
      have HPR : Hid (P = pre ++ rest) := hpr
      have HNW : Hid (Nw w1 wr) := hnw
      have hml : Hid (m = pre.length + rest.length) := by show _ = _; rw [HM.out, hpr]; simp
      obtain ⟨j, hj⟩ : ∃ j, j = pre.length := ⟨_, rfl⟩
      rw [← hj] at hml ⊢
      have HJ : Hid (j = pre.length) := hj
      have hjm : j ≤ m := by have := hml.out; omega
      clear hpr hnw hj
      cases rest with
      | nil =>
        have hA : A = n := hrow
        have hnl : ¬ (j : Int) < (m : Int) := by have := hml.out; simp at this; omega
        have HR0 : Hid (Row 0 n P) := HR.out
        subst hA
        by_cases hm2 : m < 2
        · have hmi : (m : Int) < 2 := by omega
          go_wp2_with fail
          go_ret
          exact ⟨rfl, N1.out.tr HNW.out⟩
        · have hmi : ¬ (m : Int) < 2 := by omega
          obtain ⟨⟨x, y⟩, hat0⟩ : ∃ t, P[0]? = some t := ⟨_, List.getElem?_eq_getElem (by have := HM.out; omega)⟩
          have hmy0 : may x y := by
            have h1 := HR0.out
            cases hP : P with
            | nil => rw [hP] at hat0; simp at hat0
            | cons t r =>
              rw [hP] at h1 hat0
              simp at hat0
              subst hat0
              exact (row_mayE h1 hn).1
          obtain ⟨hn2, hE0⟩ := HF1.out (x, y) hat0 (by omega)
          simp only at hE0
          exact absurd hn2 (by omega)
      | cons t rest =>
        obtain ⟨x, y⟩ := t
        have hlt : (j : Int) < (m : Int) := by have := hml.out; simp at this; omega
        have hat : P[j]? = some (x, y) := by rw [HPR.out, HJ.out]; simp
        obtain ⟨hmy, e1, e2⟩ := row_mayE hrow hn
        have hle := row_le _ _ _ hrow.2
        have hAn : A ≤ n := Nat.le_trans (Nat.le_add_right _ _) hle
        have HRW : Hid (Row (A + 2 ^ x) n rest) := hrow.2
        simp only at hmy e1 e2 hle
        have qsp := span_yes x y hmy
        rw [e1, e2] at qsp
        obtain ⟨E, hE⟩ : ∃ E, E = A + 2 ^ x := ⟨_, rfl⟩
        rw [← hE] at qsp HRW hle
        have QS := show Hid _ from qsp
        have hx63 := hmy.1
        have hy64 := may_bd hmy
        rw [p63] at hy64
        obtain ⟨g, off, rfl, g1, g2, g3⟩ := HPP.out j (x, y) hat
        have g2' := HNW.out.cellOf g2
        have g3' := HNW.out.cellOf g3
        have HG2 : Hid (w1.cell? ⟨g, off + j * 2, none⟩ = some (.int .u8 (x : Int))) := g2
        have hP2 : Hid (P = (pre ++ [(x, y)]) ++ rest) := by show _ = _; rw [HPR.out]; simp
        have HAT : Hid (P[j]? = some (x, y)) := hat
        clear hE hmy e1 e2 hrow g2 g3 qsp hat
        go_wp2_with fail
        refine (QS.out _).mono ?_
        rintro z w6 ⟨rfl, n6⟩
        have N6 : Hid (Nw w1 w6) := HNW.out.tr n6
        have r2 := N6.out.cellOf HG2.out
        have hg6 : g < w6.heap.size := by have := N6.out.size; omega
        clear n6 g2' g3'
        by_cases hj0 : j = 0
        · have hd : decide ((0 : Int) < (j : Int)) = false := by simp; omega
          have hd' : decide (0 < j) = false := by simp; omega
          clear hj0
          go_wp2
          go_quiet (fail)
          go_wp2
          exact ⟨⟨pre ++ [(x, y)], rest, E, hP2.out, by rw [List.length_append, ← HJ.out]; go_num, rfl, HRW.out, (N6.out.alloc _).drewN nq⟩, by simp [intOf]; omega⟩
        · obtain ⟨q, hq⟩ : ∃ q, j = q + 1 := ⟨j - 1, by omega⟩
          obtain ⟨⟨x', y'⟩, hat'⟩ : ∃ t, P[q]? = some t := ⟨_, List.getElem?_eq_getElem (by have := HM.out; omega)⟩
          have hfa := HFA.out q (x', y') (x, y) hat' (by rw [← hq]; exact HAT.out)
          simp only at hfa
          obtain ⟨g', off', e, _, k2, k3⟩ := HPP.out q (x', y') hat'
          cases e
          have k2' := N6.out.cellOf k2
          have hjq : (j : Int) - 1 = (q : Int) := by omega
          have hj1 : (0 : Int) < (j : Int) := by omega
          have hj2 : decide (0 < j) = true := by simp; omega
          have hj3 : decide ((0 : Int) < (j : Int)) = true := by simp; omega
          have hj4 : 0 < j := by omega
          have hff2 : decide (x' ≤ x) = false := by simp; omega
          have hff3 : decide ((x' : Int) ≤ (x : Int)) = false := by simp; omega
          have hqm : q < m := by omega
          have hff : ¬ (x' : Int) ≤ (x : Int) := by omega
          clear hj0 hq hat' k2 k3
          go_wp2
          go_quiet (fail)
          go_wp2
          exact ⟨⟨pre ++ [(x, y)], rest, E, hP2.out, by rw [List.length_append, ← HJ.out]; go_num, rfl, HRW.out, (N6.out.alloc _).drewN nq⟩, by simp [intOf]; omega⟩
theorem sums_any (n : Nat) (hn : n < 18446744073709551616) (w : World) (hT : TabAt w) {B : Nat} {a : Nat → Addr} (hS : Sent B w a) :
    Calls Tryd.prog 4 #[.int .u64 (n : Int)] w fun x w' => x = .returned (.bool true) ∧ Nw w w' := by
  by_cases h : n ≤ 9223372036854775808
  · by_cases h2 : 2 ≤ n
    · exact sums_yes n (spl n) true h (fun _ => ⟨rfl, h2⟩) (fun e => by cases e) w hT hS (split_yes n h2 h)
    · exact sums_yes n 0 false h (fun e => by cases e) (fun _ => by omega) w hT hS (split_no n (by omega) hn)
  · exact sums_no n h hn w hT hS
end Go.Proofs.YtigbjpphmbmbiabDoor
