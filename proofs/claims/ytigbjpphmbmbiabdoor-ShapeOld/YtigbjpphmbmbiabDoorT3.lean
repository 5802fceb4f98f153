/- ShapeOld: the walk. -/
import Derived.Test.YtigbjpphmbmbiabDoorW2
import Derived.Test.YtigbjpphmbmbiabDoorAp
namespace Go.Proofs.YtigbjpphmbmbiabDoor
open Go.RowKit
set_option linter.unusedVariables false
set_option linter.unusedSimpArgs false

set_option maxRecDepth 100000 in
set_option maxHeartbeats 2000000 in
theorem old_no (i n : Nat) (h : ¬ (0 < i ∧ i ≤ n ∧ n ≤ 9223372036854775808)) (hi : i < 18446744073709551616) (hn : n < 18446744073709551616) (w : World) (hT : TabAt w) {B : Nat} {a : Nat → Addr} (hS : Sent B w a) :
    Calls Tryd.prog 3 #[.int .u64 (i : Int), .int .u64 (n : Int)] w fun x w' => x = .returned (.bool true) ∧ Nw w w' := by
  have HT : Hid (TabAt w) := hT
  have HS : Hid (Sent B w a) := hS
  have q1 := proof_no i n h hi hn w hS
  clear hT hS
  go_enter Tryd.func3, Tryd.ntmps3
  go_wp2_with fail
  refine q1.mono ?_
  rintro x w1 ⟨rfl, n1⟩
  have N1 : Hid (Nw w w1) := n1
  clear n1 q1
  go_wp2_with fail
  refine (alive_any _ (HT.out.nw N1.out) (HS.out.fr N1.out (fun _ _ f => f))).mono ?_
  rintro x w2 ⟨rfl, n2⟩
  have N2 : Hid (Nw w w2) := N1.out.tr n2
  clear n2
  have q3 := sized_any n
  have q4 := fun W (nW : Nw w W) => isE_any (HS.out.fr nW (fun _ _ f => f)) (v := sen (a 4)) (code := 5) (pl := none) (.inr (.inl ⟨4, by decide, rfl, rfl, rfl⟩)) 5
  rw [show sameB 5 none 5 (-1) = true by decide] at q4
  have Q4 := show Hid _ from q4
  clear q4
  go_wp2_with fail
  refine (q3 _).mono ?_
  rintro x w3 ⟨rfl, n3⟩
  have N3 : Hid (Nw w w3) := N2.out.tr n3
  clear n3
  by_cases hs : n ≤ 9223372036854775808
  · have hw : ((i : Int) == 0) = true ∨ (((i : Int) == 0) = false ∧ (n : Int) < (i : Int)) := by simp; omega
    rw [show decide (n ≤ 9223372036854775808) = true by simp [hs]]
    rcases hw with hw | ⟨hw1, hw2⟩
    all_goals
      go_wp2_with fail
      refine (Q4.out _ N3.out).mono ?_
      rintro x w4 ⟨rfl, n4⟩
      have N4 : Hid (Nw w w4) := N3.out.tr n4
      clear n4
      go_wp2_with fail
      go_ret
      exact ⟨rfl, N4.out⟩
  · rw [show decide (n ≤ 9223372036854775808) = false by simp [hs]]
    go_wp2_with fail
    refine (Q4.out _ N3.out).mono ?_
    rintro x w4 ⟨rfl, n4⟩
    have N4 : Hid (Nw w w4) := N3.out.tr n4
    clear n4
    go_wp2_with fail
    go_ret
    exact ⟨rfl, N4.out⟩


/-- The stretches ahead of old, and those behind. -/
abbrev fB (o : Nat) (l : List (Nat × Nat)) : List (Nat × Nat) := l.filter (fun t => !decide (o ≤ t.1))
abbrev fH (o : Nat) (l : List (Nat × Nat)) : List (Nat × Nat) := l.filter (fun t => decide (o ≤ t.1))
theorem fB_in {o : Nat} {l : List (Nat × Nat)} {t : Nat × Nat} (h : ¬ o ≤ t.1) : fB o (l ++ [t]) = fB o l ++ [t] ∧ fH o (l ++ [t]) = fH o l := by simp [fB, fH, List.filter_append, h]
theorem fH_in {o : Nat} {l : List (Nat × Nat)} {t : Nat × Nat} (h : o ≤ t.1) : fB o (l ++ [t]) = fB o l ∧ fH o (l ++ [t]) = fH o l ++ [t] := by simp [fB, fH, List.filter_append, h]
theorem fB_len (o : Nat) (l : List (Nat × Nat)) : (fB o l).length ≤ l.length := List.length_filter_le _ _
theorem fH_len (o : Nat) (l : List (Nat × Nat)) : (fH o l).length ≤ l.length := List.length_filter_le _ _
/-- Two rows of the call's own, apart. -/
structure Tw2 (w0 w : World) (u v : Value) (A B : List (Nat × Nat)) : Prop where
  a : w.ownsRow w0.heap.size 33 2 u A.length (fs A)
  b : w.ownsRow w0.heap.size 33 2 v B.length (fs B)
  d : ∀ g, u.ownBlock = some g → v.ownBlock ≠ some g
  n : Nw w0 w
theorem Tw2.swap {w0 w : World} {u v : Value} {A B : List (Nat × Nat)} (h : Tw2 w0 w u v A B) : Tw2 w0 w v u B A := ⟨h.b, h.a, fun g h1 h2 => h.d g h2 h1, h.n⟩
theorem Tw2.nw {w0 w w' : World} {u v : Value} {A B : List (Nat × Nat)} (h : Tw2 w0 w u v A B) (n : Nw w w') : Tw2 w0 w' u v A B :=
  ⟨ownsRow_keep h.a (fun g hg => n.block g (h.a.lt g hg).2 (fun f => f)), ownsRow_keep h.b (fun g hg => n.block g (h.b.lt g hg).2 (fun f => f)), h.d, h.n.tr n⟩
/-- One more at the second one's end. -/
theorem Tw2.put {w0 w w' : World} {u v v' : Value} {A B : List (Nat × Nat)} {x y : Nat} (h : Tw2 w0 w u v A B) (o : w'.ownsRow w0.heap.size 33 2 v' (B.length + 1) (fs B ++ [.int .u64 (x : Int), .int .u64 (y : Int)])) (t : Two w w' 33 2 v v' B.length 1 (fs B ++ [.int .u64 (x : Int), .int .u64 (y : Int)])) : Tw2 w0 w' u v' A (B ++ [(x, y)]) := by
  have fr := t.fr
  refine ⟨ownsRow_keep h.a (fun g hg => fr.block g (h.a.lt g hg).2 (fun q => h.d g hg q)), by rw [List.length_append, fs_app]; exact o, ?_, h.n.trans fr (fun j hj q => by have := (h.b.lt j q).1; omega)⟩
  intro g hg hg2
  rcases t.stays (by omega) with e | ⟨p, hp, hl⟩
  · rw [e] at hg2; exact h.d g hg hg2
  · rw [hp] at hg2
    injection hg2 with hg2
    have := (h.a.lt g hg).2
    omega

set_option maxRecDepth 100000 in
set_option maxHeartbeats 4000000 in
theorem old_yes (i n : Nat) (h0 : 0 < i) (h : i ≤ n) (hn : n ≤ 9223372036854775808) (w : World) (hT : TabAt w) {B : Nat} {a : Nat → Addr} (hS : Sent B w a) :
    Calls Tryd.prog 3 #[.int .u64 (i : Int), .int .u64 (n : Int)] w fun x w' => x = .returned (.bool true) ∧ Nw w w' := by
  obtain ⟨i0, hi, hz0, hz1, hz2⟩ := info_parts infoS
  have HT : Hid (TabAt w) := hT
  have HS : Hid (Sent B w a) := hS
  have q1 := proof_yes i n h0 h hn w
  obtain ⟨c, hc, hcn⟩ := isL_ex (n := n) (by omega) hn
  have hle := prf_len c i 0 n true (by omega) h0 h
  have hle63 := prf_len 63 i 0 n true (by rw [p63]; omega) h0 h
  obtain ⟨s1, s2, s3, s4⟩ := prf_says h0 h
  have hzero : i = n → prf i 0 n true = [] := fun e => by subst e; exact prf_known
  obtain ⟨P, hP⟩ : ∃ P, P = prf i 0 n true := ⟨_, rfl⟩
  rw [← hP] at q1 hle hle63 s1 s2 s3 s4 hzero
  have S1 : Hid (Tls i n (fH i P)) := s1
  have S2 : Hid (Tls (fst i (fB i P)) i (fB i P)) := s2
  have S3 : Hid (fst i (fB i P) = 0 ∨ fst i (fB i P) = i) := s3
  have S4 : Hid (∀ t ∈ P, t.1 < t.2 ∧ ¬ (t.1 < i ∧ i < t.2)) := s4
  have HLC : Hid (IsL n c) := hc
  obtain ⟨m, hm⟩ : ∃ m, m = P.length := ⟨_, rfl⟩
  rw [← hm] at q1 hle hle63
  have HM : Hid (m = P.length) := hm
  have hcond : (((i : Int) == (n : Int)) = true ∧ ((m : Int) != 0) = false) ∨ ((i : Int) == (n : Int)) = false := by
    by_cases e : i = n
    · refine .inl ⟨by simp [e], ?_⟩
      have := hzero e
      rw [this] at hm
      simp at hm
      simp [hm]
    · exact .inr (by simp; omega)
  have hd1 : decide ((n : Int) < (i : Int)) = false := by simp; omega
  have hd2 : decide (n < i) = false := by simp; omega
  have hiz : ((i : Int) == 0) = false := by simp; omega
  clear hT hS hc hm hP s1 s2 s3 s4 hzero
  go_enter Tryd.func3, Tryd.ntmps3
  go_wp2_with fail
  refine q1.mono ?_
  rintro x w1 ⟨v1, rfl, o1, n1⟩
  have O1 : Hid (w1.ownsRow w.heap.size 33 2 v1 m (fs P)) := o1
  obtain ⟨pa, pc, rfl⟩ := ownsRow_form o1
  have N1 : Hid (Nw w w1) := n1
  clear n1 q1 o1
  go_wp2_with fail
  refine (alive_any _ (HT.out.nw N1.out) (HS.out.fr N1.out (fun _ _ f => f))).mono ?_
  rintro x w2 ⟨rfl, n2⟩
  have N2 : Hid (Nw w1 w2) := n2
  clear n2
  go_wp2_with fail
  refine (sized_any n _).mono ?_
  rintro x w3 ⟨rfl, n3⟩
  have N3 : Hid (Nw w1 w3) := N2.out.tr n3
  clear n3
  rw [show decide (n ≤ 9223372036854775808) = true by simp [hn]]
  have qm := most_yes m n 1 c HLC.out (by omega) (by omega) (by omega)
  go_wp2_with fail
  refine (qm _).mono ?_
  rintro x w5 ⟨rfl, n5⟩
  have N5 : Hid (Nw w1 w5) := N3.out.tr n5
  have HPP : Hid (∀ k t, P[k]? = some t → ∃ g off, pa = some ⟨g, off, none⟩ ∧ g < w1.heap.size ∧ w1.cell? ⟨g, off + k * 2, none⟩ = some (.int .u64 (t.1 : Int)) ∧ w1.cell? ⟨g, off + k * 2 + 1, none⟩ = some (.int .u64 (t.2 : Int))) := by
    have := O1.out
    rw [HM.out] at this
    obtain ⟨ad, cap, e, hh⟩ := Spn.of this
    injection e with e1 e2 e3
    subst e1
    exact hh
  clear n5 qm
  rcases hcond with ⟨hc1, hc2⟩ | hc1
  all_goals
    go_wp2_with fail
    go_loopw [7, 8, 9, 10] (fun vb vh f s wr => ∃ (pre rest : List (Nat × Nat)), P = pre ++ rest ∧ s = .int .i64 (pre.length : Int) ∧ f = .int .u64 (fst i (fB i pre) : Int) ∧ Tw2 w5 wr vb vh (fB i pre) (fH i pre)) (fun _ _ _ s _ => m - (intOf s).toNat)
    case atStart => exact ⟨[], P, rfl, rfl, rfl, World.ownsRow_nil _ _ _ _, World.ownsRow_nil _ _ _ _, fun g hg => (by cases hg), nwr w5⟩
    case round =>
      obtain ⟨pre, rest, hpr, rfl, rfl, htw⟩ := hrel
      have HPR : Hid (P = pre ++ rest) := hpr
      have HTW : Hid (Tw2 w5 wr u7 u8 (fB i pre) (fH i pre)) := htw
      obtain ⟨ba, bc, rfl⟩ := ownsRow_form htw.a
      obtain ⟨ha, hc, rfl⟩ := ownsRow_form htw.b
      have hml : m = pre.length + rest.length := by rw [HM.out, hpr]; simp
      have HML : Hid (m = pre.length + rest.length) := hml
      obtain ⟨j, hj⟩ : ∃ j, j = pre.length := ⟨_, rfl⟩
      have hbl := fB_len i pre
      have hhl := fH_len i pre
      rw [← hj] at hml hbl hhl ⊢
      have HJ : Hid (j = pre.length) := hj
      have hjm : j ≤ m := by omega
      clear hpr htw hml hj
      obtain ⟨F, hF⟩ : ∃ F, F = fst i (fB i pre) := ⟨_, rfl⟩
      have hFi : F ≤ i := by rw [hF]; exact (fst_le _ _).1
      rw [← hF]
      have HFF : Hid (F = fst i (fB i pre)) := hF
      clear hF
      cases rest with
      | nil =>
        have hpe : P = pre := by have := HPR.out; rw [List.append_nil] at this; exact this
        have hnl : ¬ (j : Int) < (m : Int) := by have := HML.out; simp at this; have := HJ.out; omega
        have T1 := S1.out
        have T2 := S2.out
        have T3 := S3.out
        rw [hpe] at T1 T2 T3
        rw [← HFF.out] at T2 T3
        have TT1 : Hid (Tls i n (fH i pre)) := T1
        have TT2 : Hid (Tls F i (fB i pre)) := T2
        have hway : ((F : Int) == 0) = true ∨ (((F : Int) == 0) = false ∧ ((F : Int) == (i : Int)) = true) := by
          rcases T3 with e | e
          · exact .inl (by simp [e])
          · exact .inr ⟨by simp; omega, by simp [e]⟩
        clear hpe T1 T2 T3
        go_wp2_with fail
        refine (tiles_yes _ (fH i pre) i n wr (Spn.of HTW.out.b) (by omega) TT1.out).mono ?_
        rintro x w6 ⟨rfl, n6⟩
        have HT6 : Hid (Tw2 w5 w6 (.slice ba (fB i pre).length bc) (.slice ha (fH i pre).length hc) (fB i pre) (fH i pre)) := HTW.out.nw n6
        clear n6
        go_wp2_with fail
        refine (tiles_yes _ (fB i pre) F i w6 (Spn.of HT6.out.a) (by omega) TT2.out).mono ?_
        rintro x w7 ⟨rfl, n7⟩
        have N7 : Hid (Nw w w7) := N1.out.tr (N5.out.tr (HT6.out.n.tr n7))
        clear n7
        rcases hway with hw | ⟨hw1, hw2⟩
        all_goals
          go_wp2_with fail
          go_ret
          exact ⟨rfl, N7.out⟩
      | cons t rest =>
        obtain ⟨x, y⟩ := t
        have hlt : (j : Int) < (m : Int) := by have := HML.out; simp at this; have := HJ.out; omega
        have hat : P[j]? = some (x, y) := by rw [HPR.out, HJ.out]; simp
        have hs4 := S4.out (x, y) (List.mem_of_getElem? hat)
        simp only at hs4
        obtain ⟨g, off, rfl, g1, g2, g3⟩ := HPP.out j (x, y) hat
        have HC5 : Hid (w5.cell? ⟨g, off + j * 2, none⟩ = some (.int .u64 (x : Int))) := N5.out.cellOf g2
        have g2' := HTW.out.n.cellOf (N5.out.cellOf g2)
        have g3' := HTW.out.n.cellOf (N5.out.cellOf g3)
        have hP2 : Hid (P = (pre ++ [(x, y)]) ++ rest) := by show _ = _; rw [HPR.out]; simp
        have hgw : g < wr.heap.size := by have := HTW.out.n.size; have := N5.out.size; omega
        clear g2 g3 hat g1
        by_cases hox : i ≤ x
        · have hf := fH_in (l := pre) (t := (x, y)) hox
          have HF1 : Hid (fB i (pre ++ [(x, y)]) = fB i pre) := hf.1
          have HF2 : Hid (fH i (pre ++ [(x, y)]) = fH i pre ++ [(x, y)]) := hf.2
          have c1 : (x : Int) < (y : Int) := by omega
          have c2 : decide ((y : Int) ≤ (x : Int)) = false := by simp; omega
          have c3 : decide ((x : Int) < (i : Int)) = false := by simp; omega
          have c4 : (i : Int) ≤ (x : Int) := by omega
          have c5 : decide (y ≤ x) = false := by simp; omega
          have c6 : decide (x < i) = false := by simp; omega
          clear hf hs4
          go_wp2
          go_quiet (fail)
          refine gen_world (fun W => Nw wr W) ((nwr wr).drewN nq) ?_
          rintro w6 n6
          have HT6 : Hid (Tw2 w5 w6 (.slice ba (fB i pre).length bc) (.slice ha (fH i pre).length hc) (fB i pre) (fH i pre)) := HTW.out.nw n6
          have r2 := n6.cellOf g2'
          have r3 := n6.cellOf g3'
          have hgw6 : g < w6.heap.size := Nat.lt_of_lt_of_le hgw n6.size
          have HTA : Hid (Tw2 w5 (w6.alloc (.cells #[.int .u64 (x : Int), .int .u64 (y : Int)] 33)) (.slice ba (fB i pre).length bc) (.slice ha (fH i pre).length hc) (fB i pre) (fH i pre)) := HT6.out.nw (nwa w6 _)
          have HNew : Hid (∀ q u, [Value.int .u64 (x : Int), .int .u64 (y : Int)][q]? = some u → (w6.alloc (.cells #[.int .u64 (x : Int), .int .u64 (y : Int)] 33)).cell? ((⟨w6.heap.size, 0, none⟩ : Addr).add q) = some u) := sp_new (w := w6) (x : Int) (y : Int) 33
          have hs6 : w5.heap.size ≤ (w6.alloc (.cells #[.int .u64 (x : Int), .int .u64 (y : Int)] 33)).heap.size := HTA.out.n.size
          clear n6 g2' g3'
          go_wp2_with (at_builtin; refine wpList_two _ rfl (.tmp 100) (.tmp 105) 23 rfl w5.heap.size 33 i0 (sp 0 0) 2 16 Tryd.underlying23 hi hz0 hz1 hz2 rfl (by decide) (.slice ha (fH i pre).length hc) (fH i pre).length (fs (fH i pre)) rfl HTA.out.b ⟨w6.heap.size, 0, none⟩ 1 1 [.int .u64 (x : Int), .int .u64 (y : Int)] rfl rfl HNew.out (by simp [Value.oneCell']) (by unfold maxLen; omega) (by omega) hs6 ?_; intro v' w7 o7 t7; have HT7 := HTA.out.put o7 t7; obtain ⟨xa, xc, rfl⟩ := ownsRow_form o7; have HT8 := show Hid _ from HT7; clear o7 t7 HT7)
          exact ⟨⟨pre ++ [(x, y)], rest, hP2.out, by rw [List.length_append, ← HJ.out]; go_num, by rw [HF1.out, HFF.out], by rw [HF1.out, HF2.out]; exact HT8.out⟩, by simp [intOf]; omega⟩
        · have hf := fB_in (l := pre) (t := (x, y)) hox
          have HF1 : Hid (fB i (pre ++ [(x, y)]) = fB i pre ++ [(x, y)]) := hf.1
          have HF2 : Hid (fH i (pre ++ [(x, y)]) = fH i pre) := hf.2
          have c1 : (x : Int) < (y : Int) := by omega
          have c2 : decide ((y : Int) ≤ (x : Int)) = false := by simp; omega
          have c3 : (x : Int) < (i : Int) := by omega
          have c4 : ¬ (i : Int) ≤ (x : Int) := by omega
          have c5 : decide (y ≤ x) = false := by simp; omega
          have c6 : ¬ (i : Int) < (y : Int) := by omega
          have c7 : decide ((i : Int) < (y : Int)) = false := by simp; omega
          have HG2 := show Hid _ from g2'
          clear hf hs4
          go_wp2
          go_quiet (fail)
          refine gen_world (fun W => Nw wr W) ((nwr wr).drewN nq) ?_
          rintro w6 n6
          have HT6 : Hid (Tw2 w5 w6 (.slice ba (fB i pre).length bc) (.slice ha (fH i pre).length hc) (fB i pre) (fH i pre)) := HTW.out.nw n6
          have r2 := n6.cellOf g2'
          have r3 := n6.cellOf g3'
          have hgw6 : g < w6.heap.size := Nat.lt_of_lt_of_le hgw n6.size
          have HTA : Hid (Tw2 w5 (w6.alloc (.cells #[.int .u64 (x : Int), .int .u64 (y : Int)] 33)) (.slice ba (fB i pre).length bc) (.slice ha (fH i pre).length hc) (fB i pre) (fH i pre)) := HT6.out.nw (nwa w6 _)
          have HNew : Hid (∀ q u, [Value.int .u64 (x : Int), .int .u64 (y : Int)][q]? = some u → (w6.alloc (.cells #[.int .u64 (x : Int), .int .u64 (y : Int)] 33)).cell? ((⟨w6.heap.size, 0, none⟩ : Addr).add q) = some u) := sp_new (w := w6) (x : Int) (y : Int) 33
          have hs6 : w5.heap.size ≤ (w6.alloc (.cells #[.int .u64 (x : Int), .int .u64 (y : Int)] 33)).heap.size := HTA.out.n.size
          clear n6 g2' g3'
          go_wp2_with (at_builtin; refine wpList_two _ rfl (.tmp 107) (.tmp 112) 23 rfl w5.heap.size 33 i0 (sp 0 0) 2 16 Tryd.underlying23 hi hz0 hz1 hz2 rfl (by decide) (.slice ba (fB i pre).length bc) (fB i pre).length (fs (fB i pre)) rfl HTA.out.a ⟨w6.heap.size, 0, none⟩ 1 1 [.int .u64 (x : Int), .int .u64 (y : Int)] rfl rfl HNew.out (by simp [Value.oneCell']) (by unfold maxLen; omega) (by omega) hs6 ?_; intro v' w7 o7 t7; have HT7 := (HTA.out.swap.put o7 t7).swap; have r7 := t7.fr; have r8 : w7.cell? ⟨g, off + j * 2, none⟩ = some (.int .u64 (x : Int)) := HT7.n.cellOf HC5.out; obtain ⟨xa, xc, rfl⟩ := ownsRow_form o7; have HT8 := show Hid _ from HT7; clear o7 t7 HT7)
          refine ⟨⟨pre ++ [(x, y)], rest, hP2.out, by rw [List.length_append, ← HJ.out]; go_num, ?_, by rw [HF1.out, HF2.out]; exact HT8.out⟩, by simp [intOf]; omega⟩
          rw [HF1.out, fst_app, ← HFF.out]
          split <;> go_num
theorem old_any (i n : Nat) (hi : i < 18446744073709551616) (hn : n < 18446744073709551616) (w : World) (hT : TabAt w) {B : Nat} {a : Nat → Addr} (hS : Sent B w a) :
    Calls Tryd.prog 3 #[.int .u64 (i : Int), .int .u64 (n : Int)] w fun x w' => x = .returned (.bool true) ∧ Nw w w' := by
  by_cases h : 0 < i ∧ i ≤ n ∧ n ≤ 9223372036854775808
  · exact old_yes i n h.1 h.2.1 h.2.2 w hT hS
  · exact old_no i n h hi hn w hT hS
end Go.Proofs.YtigbjpphmbmbiabDoor
