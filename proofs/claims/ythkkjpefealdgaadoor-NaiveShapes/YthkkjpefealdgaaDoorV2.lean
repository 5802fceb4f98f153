/- NaiveShapes: the walk. -/
import Derived.Test.YthkkjpefealdgaaDoorG3
import Derived.Test.YthkkjpefealdgaaDoorV1
namespace Go.Proofs.YthkkjpefealdgaaDoor
open Go.RowKit
set_option linter.unusedVariables false
set_option linter.unusedSimpArgs false

theorem Spn.form {w : World} {v : Value} {l : List (Nat × Nat)} (h : Spn w v l) : ∃ ad cap, v = .slice ad l.length cap := h.len
set_option maxRecDepth 100000 in
set_option maxHeartbeats 8000000 in
theorem shapes_any (p : Option Addr) (c : Nat) (ss : List ByteArray) (x y z : Nat) (w : World) (hp : Strs w p ss) (hx : ∀ x ∈ ss, x.size ≤ 140737488355328) (hl : ss.length ≤ 140737488355328) (hx64 : x < 18446744073709551616) (hy64 : y < 18446744073709551616) (hz64 : z < 18446744073709551616) (hL : Laid w) {B : Nat} {a : Nat → Addr} (hS : Sent B w a) :
    Calls Tryd.prog 4 #[.slice p ss.length c, .int .u64 (x : Int), .int .u64 (y : Int), .int .u64 (z : Int)] w fun e w' => e = .returned (.bool true) ∧ Nw w w' := by
  have HL : Hid (Laid w) := hL
  have HS : Hid (Sent B w a) := hS
  have QZ : Hid (∀ W, Nw w W → Calls Tryd.prog 8 #[.slice p ss.length c] W fun e w' => (∃ m : Nat, e = .returned (.int .i64 (m : Int)) ∧ m < 4611686018427387904 ∧ (m ≤ 1048576 → m = tsz ss)) ∧ w' = W) := fun W hW => tsize_any p c ss W (hp.nw hW) hx hl
  have QG : Hid (∀ W, Nw w W → Calls Tryd.prog 9 #[.slice p ss.length c] W fun e w' => ∃ b base v, e = .returned (.tuple #[.pointer (some ⟨b, 0, none⟩), .int .i64 ((kp ss).length : Int), .bool true]) ∧ Lg w' b base v (kp ss) ∧ W.heap.size ≤ b ∧ Nw W w') := fun W hW => grown_any p c ss W (hp.nw hW) hx hl (hS.fr hW (fun _ _ f => f))
  have QV : Hid (∀ W, Nw w W → Calls Tryd.prog 12 #[] W fun e w' => e = .returned (.bool true) ∧ Nw W w') := fun W hW => lives_any W (hL.nw hW) (hS.fr hW (fun _ _ f => f))
  have QI : Hid (∀ W, Nw w W → Calls Tryd.prog 11 #[sen (a 4), .int .i64 5] W fun e w' => e = .returned (.bool true) ∧ Nw W w') := fun W hW => is5 hS W hW
  clear hL hS hp hx
  have hn63 : (ss.length : Int) ≤ 140737488355328 := by omega
  obtain ⟨n, hn⟩ : ∃ n, n = ss.length := ⟨_, rfl⟩
  rw [← hn] at QZ QG hl hn63 ⊢
  clear hn
  go_enter Tryd.func4, Tryd.ntmps4
  go_wp2_with fail
  refine (QZ.out _ (nwr w)).mono ?_
  rintro e1 w1 ⟨⟨m, rfl, hm, hm2⟩, h1⟩
  have N1 : Hid (Nw w w1) := by rw [h1]; exact nwr w
  clear h1 QZ
  have q2 := beyond_any (some ⟨w1.heap.size, 0, none⟩) 2 [n, m] _ (two_int w1 n m) (getD_all (by intro k hk; simp only [List.mem_cons, List.not_mem_nil, or_false] at hk; rcases hk with rfl | rfl <;> omega)) (by simp)
  go_wp2_with fail
  refine q2.mono ?_
  rintro e2 w2 ⟨rfl, h2⟩
  have N2 : Hid (Nw w w2) := by rw [h2]; exact N1.out.alloc _
  clear q2 h2 N1 hm2
  by_cases hbig : 1048576 < [n, m].sum
  · rw [decide_eq_true hbig]
    go_wp2
    go_ret
    exact ⟨rfl, N2.out⟩
  rw [decide_eq_false hbig]
  clear hbig
  go_wp2_with fail
  refine (QG.out _ N2.out).mono ?_
  rintro e3 w3 ⟨b, base, v, rfl, l3, _, n3⟩
  clear QG
  obtain ⟨L, hLd⟩ : ∃ L, L = kp ss := ⟨_, rfl⟩
  rw [← hLd] at l3 ⊢
  clear hLd
  have L3 : Hid (Lg w3 b base v L) := l3
  have N3 : Hid (Nw w w3) := N2.out.tr n3
  have hlen := l3.len
  clear l3 n3 N2
  have QP : Hid (∀ W, Nw w3 W → Calls Tryd.prog 18 #[.pointer (some ⟨b, 0, none⟩), .int .u64 (x : Int), .int .u64 (z : Int)] W fun e w' => ∃ v, e = .returned (.tuple #[v, ev a (decide ((x < z) ∧ z ≤ L.length))]) ∧ Hss w' v ((TP L x z).map (hst L)) ∧ Nw W w') := fun W hW => Path_c (L3.out.nw hW) x z hx64 hz64 (HL.out.nw (N3.out.tr hW)) (HS.out.fr (N3.out.tr hW) (fun _ _ f => f))
  have QR : Hid (∀ W, Nw w3 W → Calls Tryd.prog 19 #[.pointer (some ⟨b, 0, none⟩), .int .u64 (x : Int), .int .u64 (z : Int)] W fun e w' => ∃ v, e = .returned (.tuple #[v, ev a (decide ((0 < x ∧ x ≤ z) ∧ z ≤ L.length))]) ∧ Hss w' v ((TR L x z).map (hst L)) ∧ Nw W w') := fun W hW => Proof_c (L3.out.nw hW) x z hx64 hz64 (HL.out.nw (N3.out.tr hW)) (HS.out.fr (N3.out.tr hW) (fun _ _ f => f))
  have QB : Hid (∀ W, Nw w3 W → Calls Tryd.prog 20 #[.pointer (some ⟨b, 0, none⟩), .int .u64 (x : Int), .int .u64 (y : Int), .int .u64 (z : Int)] W fun e w' => ∃ v, e = .returned (.tuple #[v, ev a (decide ((x < y ∧ y ≤ z) ∧ z ≤ L.length))]) ∧ Hss w' v ((TB L x y z).map (hst L)) ∧ Nw W w') := fun W hW => Batch_c (L3.out.nw hW) x y z hx64 hy64 hz64 (HL.out.nw (N3.out.tr hW)) (HS.out.fr (N3.out.tr hW) (fun _ _ f => f))
  have QSt : Hid (∀ W T pv sv, Nw w3 W → (∀ t ∈ T, t.1 ≤ t.2 ∧ t.2 ≤ L.length) → T.length ≤ 200 → Hss W pv (T.map (hst L)) → Spn W sv T → Calls Tryd.prog 24 #[.pointer (some ⟨b, 0, none⟩), pv, sv] W fun e w' => e = .returned (.bool true) ∧ Nw W w') := fun W T pv sv hW h1 h2 h3 h4 => stretches_yes (L3.out.nw hW) T h1 h2 pv sv h3 h4 (HL.out.nw (N3.out.tr hW)) (HS.out.fr (N3.out.tr hW) (fun _ _ f => f))
  by_cases hz : z ≤ L.length
  · have SP : Hid (∀ W, Nw w W → Calls Tryd.prog 21 #[.int .u64 (x : Int), .int .u64 (z : Int)] W fun e w' => ∃ v, e = .returned (.tuple #[v, ev a (decide ((x < z) ∧ z ≤ L.length))]) ∧ Spn w' v (TP L x z) ∧ Nw W w') := fun W hW => sPath_c L hlen x z hx64 hz64 hz W (HS.out.fr hW (fun _ _ f => f))
    have SR : Hid (∀ W, Nw w W → Calls Tryd.prog 22 #[.int .u64 (x : Int), .int .u64 (z : Int)] W fun e w' => ∃ v, e = .returned (.tuple #[v, ev a (decide ((0 < x ∧ x ≤ z) ∧ z ≤ L.length))]) ∧ Spn w' v (TR L x z) ∧ Nw W w') := fun W hW => sProof_c L hlen x z hx64 hz64 hz W (HS.out.fr hW (fun _ _ f => f))
    have SB : Hid (∀ W, Nw w W → Calls Tryd.prog 23 #[.int .u64 (x : Int), .int .u64 (y : Int), .int .u64 (z : Int)] W fun e w' => ∃ v, e = .returned (.tuple #[v, ev a (decide ((x < y ∧ y ≤ z) ∧ z ≤ L.length))]) ∧ Spn w' v (TB L x y z) ∧ Nw W w') := fun W hW => sBatch_c L hlen x y z hx64 hy64 hz64 hz W (HS.out.fr hW (fun _ _ f => f))
    have F1 : Hid (∀ t ∈ TP L x z, t.1 ≤ t.2 ∧ t.2 ≤ L.length) := fun t ht => ⟨(TP_fit L x z t ht).1, (TP_fit L x z t ht).2.2⟩
    have F2 : Hid (∀ t ∈ TR L x z, t.1 ≤ t.2 ∧ t.2 ≤ L.length) := fun t ht => ⟨(TR_fit L x z t ht).1, (TR_fit L x z t ht).2.2⟩
    have F3 : Hid (∀ t ∈ TB L x y z, t.1 ≤ t.2 ∧ t.2 ≤ L.length) := fun t ht => ⟨(TB_fit L x y z t ht).1, (TB_fit L x y z t ht).2.2⟩
    have G1 : Hid ((TP L x z).length ≤ 200) := TP_len hlen x z
    have G2 : Hid ((TR L x z).length ≤ 200) := TR_len hlen x z
    have G3 : Hid ((TB L x y z).length ≤ 200) := TB_len hlen x y z
    have hzd : ¬ (L.length : Int) < (z : Int) := by omega
    obtain ⟨o1, ho1⟩ : ∃ o, o = decide ((x < z) ∧ z ≤ L.length) := ⟨_, rfl⟩
    obtain ⟨o2, ho2⟩ : ∃ o, o = decide ((0 < x ∧ x ≤ z) ∧ z ≤ L.length) := ⟨_, rfl⟩
    obtain ⟨o3, ho3⟩ : ∃ o, o = decide ((x < y ∧ y ≤ z) ∧ z ≤ L.length) := ⟨_, rfl⟩
    rw [← ho1] at QP SP
    rw [← ho2] at QR SR
    rw [← ho3] at QB SB
    obtain ⟨T1, hT1⟩ : ∃ T, T = TP L x z := ⟨_, rfl⟩
    obtain ⟨T2, hT2⟩ : ∃ T, T = TR L x z := ⟨_, rfl⟩
    obtain ⟨T3, hT3⟩ : ∃ T, T = TB L x y z := ⟨_, rfl⟩
    rw [← hT1] at QP SP F1 G1
    rw [← hT2] at QR SR F2 G2
    rw [← hT3] at QB SB F3 G3
    clear ho1 ho2 ho3 hT1 hT2 hT3 HL HS hz
    go_wp2_with fail
    refine (QP.out _ (nwr w3)).mono ?_
    rintro e4 w4 ⟨v1, rfl, h1, n4⟩
    have M4 : Hid (Nw w3 w4) := n4
    have H1 : Hid (Hss w4 v1 (T1.map (hst L))) := h1
    obtain ⟨a1, c1, rfl⟩ := h1.form
    rw [List.length_map] at H1 ⊢
    clear h1 n4
    go_wp2_with fail
    refine (QR.out _ M4.out).mono ?_
    rintro e5 w5 ⟨v2, rfl, h2, n5⟩
    have M5 : Hid (Nw w3 w5) := M4.out.tr n5
    have H1' : Hid (Hss w5 (.slice a1 T1.length c1) (T1.map (hst L))) := H1.out.nw (map32 _ _) n5
    have H2 : Hid (Hss w5 v2 (T2.map (hst L))) := h2
    obtain ⟨a2, c2, rfl⟩ := h2.form
    rw [List.length_map] at H2 ⊢
    clear h2 n5 H1 M4
    go_wp2_with fail
    refine (QB.out _ M5.out).mono ?_
    rintro e6 w6 ⟨v3, rfl, h3, n6⟩
    have M6 : Hid (Nw w3 w6) := M5.out.tr n6
    have H3 : Hid (Hss w6 v3 (T3.map (hst L))) := h3
    have H16 : Hid (Hss w6 (.slice a1 T1.length c1) (T1.map (hst L))) := H1'.out.nw (map32 _ _) n6
    have H26 : Hid (Hss w6 (.slice a2 T2.length c2) (T2.map (hst L))) := H2.out.nw (map32 _ _) n6
    obtain ⟨a3, c3, rfl⟩ := h3.form
    rw [List.length_map] at H3 ⊢
    clear h3 n6 H1' H2 M5
    have N6 : Hid (Nw w w6) := N3.out.tr M6.out
    go_wp2_with fail
    refine (SP.out _ N6.out).mono ?_
    rintro e7 w7 ⟨u1, rfl, s1, n7⟩
    have S1 : Hid (Spn w7 u1 T1) := s1
    obtain ⟨d1, g1, rfl⟩ := s1.len
    have M7 : Hid (Nw w6 w7) := n7
    clear s1 n7
    go_wp2_with fail
    refine (SR.out _ (N6.out.tr M7.out)).mono ?_
    rintro e8 w8 ⟨u2, rfl, s2, n8⟩
    have S1' : Hid (Spn w8 (.slice d1 T1.length g1) T1) := S1.out.nw n8
    have S2 : Hid (Spn w8 u2 T2) := s2
    obtain ⟨d2, g2, rfl⟩ := s2.len
    have M8 : Hid (Nw w6 w8) := M7.out.tr n8
    clear s2 n8 S1 M7
    go_wp2_with fail
    refine (SB.out _ (N6.out.tr M8.out)).mono ?_
    rintro e9 w9 ⟨u3, rfl, s3, n9⟩
    have S19 : Hid (Spn w9 (.slice d1 T1.length g1) T1) := S1'.out.nw n9
    have S29 : Hid (Spn w9 (.slice d2 T2.length g2) T2) := S2.out.nw n9
    have S3 : Hid (Spn w9 u3 T3) := s3
    obtain ⟨d3, g3, rfl⟩ := s3.len
    have M9 : Hid (Nw w6 w9) := M8.out.tr n9
    clear s3 n9 S1' S2 M8
    have Z1 : Hid (∀ W, Nw w9 W → Calls Tryd.prog 24 #[.pointer (some ⟨b, 0, none⟩), .slice a1 T1.length c1, .slice d1 T1.length g1] W fun e w' => e = .returned (.bool true) ∧ Nw W w') := fun W hW => QSt.out W T1 _ _ (M6.out.tr (M9.out.tr hW)) F1.out G1.out ((H16.out.nw (map32 _ _) (M9.out.tr hW))) (S19.out.nw hW)
    have Z2 : Hid (∀ W, Nw w9 W → Calls Tryd.prog 24 #[.pointer (some ⟨b, 0, none⟩), .slice a2 T2.length c2, .slice d2 T2.length g2] W fun e w' => e = .returned (.bool true) ∧ Nw W w') := fun W hW => QSt.out W T2 _ _ (M6.out.tr (M9.out.tr hW)) F2.out G2.out ((H26.out.nw (map32 _ _) (M9.out.tr hW))) (S29.out.nw hW)
    have Z3 : Hid (∀ W, Nw w9 W → Calls Tryd.prog 24 #[.pointer (some ⟨b, 0, none⟩), .slice a3 T3.length c3, .slice d3 T3.length g3] W fun e w' => e = .returned (.bool true) ∧ Nw W w') := fun W hW => QSt.out W T3 _ _ (M6.out.tr (M9.out.tr hW)) F3.out G3.out ((H3.out.nw (map32 _ _) (M9.out.tr hW))) (S3.out.nw hW)
    have N9 : Hid (Nw w w9) := N6.out.tr M9.out
    clear QP QR QB SP SR SB QSt F1 F2 F3 G1 G2 G3 H16 H26 H3 S19 S29 S3 M6 M9 N6 N3 L3
    go_wp2_with fail
    -- the three errors
    cases o1 <;> cases o2 <;> cases o3
    all_goals
      simp only [ev_t, ev_f]
      (refine wp_region_grown (by kernel_rfl) (by kernel_rfl) ?_; (repeat (first | go_big_quiet_skip | (go_big_quiet_want; first | (go_big_quiet_op; first | go_big_quiet_on | go_big_quiet_call (first | rfl))))); refine wpQuiet_nil ?_; rintro W ⟨⟨_, nW⟩, rfl⟩)
      have NN : Hid (Nw w9 W) := nW
      clear nW
      go_wp2_with fail
      repeat ((with_reducible refine (QI.out _ (N9.out.tr NN.out)).mono ?_); rintro e wz ⟨rfl, nz⟩; have NN : Hid (Nw w9 wz) := NN.out.tr nz; clear nz; go_wp2_with fail)
      with_reducible refine (Z1.out _ NN.out).mono ?_
      rintro e wz ⟨rfl, nz⟩
      have NN : Hid (Nw w9 wz) := NN.out.tr nz
      clear nz
      go_wp2_with fail
      with_reducible refine (Z2.out _ NN.out).mono ?_
      rintro e wz ⟨rfl, nz⟩
      have NN : Hid (Nw w9 wz) := NN.out.tr nz
      clear nz
      go_wp2_with fail
      with_reducible refine (Z3.out _ NN.out).mono ?_
      rintro e wz ⟨rfl, nz⟩
      have NN : Hid (Nw w9 wz) := NN.out.tr nz
      clear nz
      go_wp2_with fail
      with_reducible refine (QV.out _ (N9.out.tr NN.out)).mono ?_
      rintro e wz ⟨rfl, nz⟩
      have NN : Hid (Nw w9 wz) := NN.out.tr nz
      clear nz
      go_wp2_with fail
      go_ret
      exact ⟨rfl, N9.out.tr NN.out⟩
  · have d1 : decide ((x < z) ∧ z ≤ L.length) = false := decide_eq_false (fun q => hz q.2)
    have d2 : decide ((0 < x ∧ x ≤ z) ∧ z ≤ L.length) = false := decide_eq_false (fun q => hz q.2)
    have d3 : decide ((x < y ∧ y ≤ z) ∧ z ≤ L.length) = false := decide_eq_false (fun q => hz q.2)
    have e1 : TP L x z = [] := if_neg (fun q => hz q.2)
    have e2 : TR L x z = [] := if_neg (fun q => hz q.2)
    have e3 : TB L x y z = [] := if_neg (fun q => hz q.2)
    rw [d1, e1, ev_f, List.map_nil] at QP
    rw [d2, e2, ev_f, List.map_nil] at QR
    rw [d3, e3, ev_f, List.map_nil] at QB
    have hzd : (L.length : Int) < (z : Int) := by omega
    have hzn : L.length < z := by omega
    clear d1 d2 d3 e1 e2 e3 hz QSt HL HS
    go_wp2_with fail
    refine (QP.out _ (nwr w3)).mono ?_
    rintro e4 w4 ⟨v1, rfl, h1, n4⟩
    have M4 : Hid (Nw w3 w4) := n4
    obtain ⟨a1, c1, rfl⟩ := h1.form
    rw [List.length_nil]
    clear h1 n4
    go_wp2_with fail
    refine (QR.out _ M4.out).mono ?_
    rintro e5 w5 ⟨v2, rfl, h2, n5⟩
    have M5 : Hid (Nw w3 w5) := M4.out.tr n5
    obtain ⟨a2, c2, rfl⟩ := h2.form
    rw [List.length_nil]
    clear h2 n5 M4
    go_wp2_with fail
    refine (QB.out _ M5.out).mono ?_
    rintro e6 w6 ⟨v3, rfl, h3, n6⟩
    have NN : Hid (Nw w w6) := N3.out.tr (M5.out.tr n6)
    obtain ⟨a3, c3, rfl⟩ := h3.form
    rw [List.length_nil]
    clear h3 n6 M5
    go_wp2_with fail
    with_reducible refine (QI.out _ NN.out).mono ?_
    rintro e wz ⟨rfl, nz⟩
    have NN : Hid (Nw w wz) := NN.out.tr nz
    clear nz
    go_wp2_with fail
    with_reducible refine (QI.out _ NN.out).mono ?_
    rintro e wz ⟨rfl, nz⟩
    have NN : Hid (Nw w wz) := NN.out.tr nz
    clear nz
    go_wp2_with fail
    with_reducible refine (QI.out _ NN.out).mono ?_
    rintro e wz ⟨rfl, nz⟩
    have NN : Hid (Nw w wz) := NN.out.tr nz
    clear nz
    go_wp2_with fail
    with_reducible refine (QV.out _ NN.out).mono ?_
    rintro e wz ⟨rfl, nz⟩
    have NN : Hid (Nw w wz) := NN.out.tr nz
    clear nz
    go_wp2_with fail
    go_ret
    exact ⟨rfl, NN.out⟩
end Go.Proofs.YthkkjpefealdgaaDoor
