/- What the statements look at first: some answers that the document fixes. -/
import Derived.Test.YtigbjpphmbmbiabDoorW1
import Derived.Test.YtigbjpphmbmbiabDoorN2
namespace Go.Proofs.YtigbjpphmbmbiabDoor
open Go.RowKit
set_option linter.unusedVariables false
set_option linter.unusedSimpArgs false

theorem spl2 : spl 2 = 1 := spl_of (k := 0) (by decide) (by decide)
theorem spl3 : spl 3 = 2 := spl_of (k := 1) (by decide) (by decide)
theorem spl4 : spl 4 = 2 := spl_of (k := 1) (by decide) (by decide)
theorem spl5 : spl 5 = 4 := spl_of (k := 2) (by decide) (by decide)
theorem lit_pth : pth 0 0 3 = [(1, 2), (2, 3)] := by
  have h1 : pth 0 0 3 = pth 0 0 (0 + spl 3) ++ [(0 + spl 3, 3)] := pth_left (by decide) (by show 0 < 0 + spl 3; rw [spl3]; decide)
  have h2 : pth 0 0 2 = pth 0 0 (0 + spl 2) ++ [(0 + spl 2, 2)] := pth_left (by decide) (by show 0 < 0 + spl 2; rw [spl2]; decide)
  have h3 : pth 0 0 1 = [] := pth_one (by decide)
  rw [h1, spl3]
  show pth 0 0 2 ++ _ = _
  rw [h2, spl2]
  show (pth 0 0 1 ++ _) ++ _ = _
  rw [h3]
  rfl
theorem lit_prf : prf 3 0 5 true = [(2, 3), (3, 4), (0, 2), (4, 5)] := by
  have h1 : prf 3 0 5 true = prf 3 0 (0 + spl 5) true ++ [(0 + spl 5, 5)] := prf_left (by decide) (by decide) (by show 3 ≤ 0 + spl 5; rw [spl5]; decide)
  have h2 : prf 3 0 4 true = prf 3 (0 + spl 4) 4 false ++ [(0, 0 + spl 4)] := prf_right (by decide) (by decide) (by show ¬ 3 ≤ 0 + spl 4; rw [spl4]; decide)
  have h3 : prf 3 2 4 false = prf 3 2 (2 + spl 2) false ++ [(2 + spl 2, 4)] := prf_left (by decide) (by decide) (by show 3 ≤ 2 + spl 2; rw [spl2]; decide)
  rw [h1, spl5]
  show prf 3 0 4 true ++ _ = _
  rw [h2, spl4]
  show (prf 3 2 4 false ++ _) ++ _ = _
  rw [h3, spl2]
  show ((prf 3 2 3 false ++ _) ++ _) ++ _ = _
  rw [prf_whole]
  rfl
theorem lit_bat : bat 1 3 0 5 = [(0, 1), (3, 4), (4, 5)] := by
  have h1 : bat 1 3 0 5 = bat 1 3 0 (0 + spl 5) ++ bat 1 3 (0 + spl 5) 5 := bat_cut (by decide) (by decide)
  have h2 : bat 1 3 0 4 = bat 1 3 0 (0 + spl 4) ++ bat 1 3 (0 + spl 4) 4 := bat_cut (by decide) (by decide)
  have h3 : bat 1 3 0 2 = bat 1 3 0 (0 + spl 2) ++ bat 1 3 (0 + spl 2) 2 := bat_cut (by decide) (by decide)
  have h4 : bat 1 3 2 4 = bat 1 3 2 (2 + spl 2) ++ bat 1 3 (2 + spl 2) 4 := bat_cut (by decide) (by decide)
  rw [h1, spl5]
  show bat 1 3 0 4 ++ bat 1 3 4 5 = _
  rw [h2, spl4, bat_out (b := 4) (by decide)]
  show (bat 1 3 0 2 ++ bat 1 3 2 4) ++ _ = _
  rw [h3, h4, spl2]
  show ((bat 1 3 0 1 ++ bat 1 3 1 2) ++ (bat 1 3 2 3 ++ bat 1 3 3 4)) ++ _ = _
  rw [bat_out (b := 0) (e := 1) (by decide), bat_in (b := 1) (e := 2) (by decide) (by decide), bat_in (b := 2) (e := 3) (by decide) (by decide), bat_out (b := 3) (e := 4) (by decide)]
  rfl
theorem lit_cov : cov 0 7 = [(2, 0), (1, 2), (0, 6)] := by
  rw [cov_zero, exs_step (n := 7) (k := 2) (by decide) (by decide)]
  show cvs 0 (2 :: exs 3) = _
  rw [exs_step (n := 3) (k := 1) (by decide) (by decide)]
  show cvs 0 (2 :: 1 :: exs 1) = _
  rw [exs_step (n := 1) (k := 0) (by decide) (by decide)]
  show cvs 0 (2 :: 1 :: 0 :: exs 0) = _
  rw [exs_zero]
  rfl
theorem lit_path (w : World) : Calls Tryd.prog 17 #[.int .u64 0, .int .u64 3] w fun x w' => ∃ v, x = .returned (.tuple #[v, .nilIface]) ∧ Spn w' v [(1, 2), (2, 3)] ∧ Nw w w' := by
  have q := path_yes 0 3 (by omega) (by omega) w
  rw [lit_pth] at q
  refine q.mono ?_
  rintro e w' ⟨v, rfl, ho, n⟩
  exact ⟨v, rfl, Spn.of ho, n⟩
theorem lit_proof (w : World) : Calls Tryd.prog 5 #[.int .u64 3, .int .u64 5] w fun x w' => ∃ v, x = .returned (.tuple #[v, .nilIface]) ∧ Spn w' v [(2, 3), (3, 4), (0, 2), (4, 5)] ∧ Nw w w' := by
  have q := proof_yes 3 5 (by omega) (by omega) (by omega) w
  rw [lit_prf] at q
  refine q.mono ?_
  rintro e w' ⟨v, rfl, ho, n⟩
  exact ⟨v, rfl, Spn.of ho, n⟩
theorem lit_batch (w : World) : Calls Tryd.prog 18 #[.int .u64 1, .int .u64 3, .int .u64 5] w fun x w' => ∃ v, x = .returned (.tuple #[v, .nilIface]) ∧ Spn w' v [(0, 1), (3, 4), (4, 5)] ∧ Nw w w' := by
  have q := batch_yes 1 3 5 (by omega) (by omega) (by omega) w
  rw [lit_bat] at q
  refine q.mono ?_
  rintro e w' ⟨v, rfl, ho, n⟩
  exact ⟨v, rfl, Spn.of ho, n⟩
theorem lit_peaks (w : World) (hT : TabAt w) : Calls Tryd.prog 11 #[.int .u64 7] w fun x w' => ∃ v, x = .returned (.tuple #[v, .nilIface]) ∧ Crd w' v [(2, 0), (1, 2), (0, 6)] ∧ Nw w w' := by
  have q := peaks_yes 7 (by omega) w hT
  rw [lit_cov] at q
  refine q.mono ?_
  rintro e w' ⟨v, rfl, ho, n⟩
  exact ⟨v, rfl, Crd.of ho, n⟩
theorem lit_bad (w : World) {B : Nat} {a : Nat → Addr} (hS : Sent B w a) : Calls Tryd.prog 17 #[.int .u64 3, .int .u64 3] w fun x w' => x = .returned (.tuple #[.slice none 0 0, sen (a 4)]) ∧ Nw w w' :=
  path_no 3 3 (by omega) (by omega) (by omega) w hS
theorem spanL_lit (b e : Int) (h : 0 ≤ b) (k : 0 ≤ e) (w : World) : Calls Tryd.prog 20 #[.int .u64 b, .int .u64 e] w fun x w' => x = .returned (.agg #[.int .u64 b, .int .u64 e]) ∧ Nw w w' := by
  have q := spanL_any b.toNat e.toNat w
  rw [Int.toNat_of_nonneg h, Int.toNat_of_nonneg k] at q
  have e1 : sp b.toNat e.toNat = .agg #[.int .u64 b, .int .u64 e] := by unfold sp; rw [Int.toNat_of_nonneg h, Int.toNat_of_nonneg k]
  rw [e1] at q
  exact q
/-- A row that is written out. -/
theorem spn_lit {w : World} {b : Nat} {t : TypeId} (l : List (Nat × Nat)) (h : w.heap[b]? = some (.cells (fs l).toArray t)) (c : Nat) : Spn w (.slice (some ⟨b, 0, none⟩) l.length c) l :=
  ⟨_, _, rfl, fun k t ht => ⟨b, 0, rfl, heap_lt h, by rw [Nat.zero_add, cell_of h]; simpa using (fs_get l k t ht).1, by rw [Nat.zero_add, cell_of h]; simpa using (fs_get l k t ht).2⟩⟩
theorem crd_lit {w : World} {b : Nat} {t : TypeId} (l : List (Nat × Nat)) (h : w.heap[b]? = some (.cells (fl l).toArray t)) (c : Nat) : Crd w (.slice (some ⟨b, 0, none⟩) l.length c) l :=
  ⟨_, _, rfl, fun k t ht => ⟨b, 0, rfl, heap_lt h, by rw [Nat.zero_add, cell_of h]; simpa using (fl_get l k t ht).1, by rw [Nat.zero_add, cell_of h]; simpa using (fl_get l k t ht).2⟩⟩

set_option maxRecDepth 100000 in
set_option maxHeartbeats 4000000 in
theorem alive_any (w : World) (hT : TabAt w) {B : Nat} {a : Nat → Addr} (hS : Sent B w a) : Calls Tryd.prog 6 #[] w fun e w' => e = .returned (.bool true) ∧ Nw w w' := by
  have HT : Hid (TabAt w) := hT
  have HS : Hid (Sent B w a) := hS
  clear hT hS
  go_enter Tryd.func6, Tryd.ntmps6
  go_wp2_with fail
  refine (lit_path _).mono ?_
  rintro e w1 ⟨v1, rfl, s1, n1⟩
  have S1 : Hid (Spn w1 v1 [(1, 2), (2, 3)]) := s1
  have N1 : Hid (Nw w w1) := n1
  clear s1 n1
  go_wp2_with fail
  refine (lit_proof _).mono ?_
  rintro e w2 ⟨v2, rfl, s2, n2⟩
  have S2 : Hid (Spn w2 v2 [(2, 3), (3, 4), (0, 2), (4, 5)]) := s2
  have N2 : Hid (Nw w1 w2) := n2
  clear s2 n2
  go_wp2_with fail
  refine (lit_batch _).mono ?_
  rintro e w3 ⟨v3, rfl, s3, n3⟩
  have S3 : Hid (Spn w3 v3 [(0, 1), (3, 4), (4, 5)]) := s3
  have N3 : Hid (Nw w2 w3) := n3
  clear s3 n3
  go_wp2_with fail
  refine (lit_peaks _ (HT.out.nw (N1.out.tr (N2.out.tr N3.out)))).mono ?_
  rintro e w4 ⟨v4, rfl, s4, n4⟩
  have S4 : Hid (Crd w4 v4 [(2, 0), (1, 2), (0, 6)]) := s4
  have N4 : Hid (Nw w3 w4) := n4
  clear s4 n4
  have M4 : Hid (Nw w w4) := N1.out.tr (N2.out.tr (N3.out.tr N4.out))
  go_wp2_with fail
  refine (lit_bad _ (HS.out.fr M4.out (fun _ _ f => f))).mono ?_
  rintro e w5 ⟨rfl, n5⟩
  have M5 : Hid (Nw w w5) := M4.out.tr n5
  have T1 : Hid (Spn w5 v1 [(1, 2), (2, 3)]) := S1.out.nw (N2.out.tr (N3.out.tr (N4.out.tr n5)))
  have T2 : Hid (Spn w5 v2 [(2, 3), (3, 4), (0, 2), (4, 5)]) := S2.out.nw (N3.out.tr (N4.out.tr n5))
  have T3 : Hid (Spn w5 v3 [(0, 1), (3, 4), (4, 5)]) := S3.out.nw (N4.out.tr n5)
  have T4 : Hid (Crd w5 v4 [(2, 0), (1, 2), (0, 6)]) := S4.out.nw n5
  clear n5 S1 S2 S3 S4
  have q2 := isE_any (HS.out.fr M5.out (fun _ _ f => f)) (v := sen (a 4)) (code := 5) (pl := none) (.inr (.inl ⟨4, by decide, rfl, rfl, rfl⟩)) 5
  rw [show sameB 5 none 5 (-1) = true by decide] at q2
  go_wp2_with fail
  refine q2.mono ?_
  rintro e w6 ⟨rfl, n6⟩
  have N6 : Hid (Nw w5 w6) := n6
  clear n6 q2
  go_wp2_with fail
  refine (spanL_lit 1 2 (by omega) (by omega) _).mono ?_
  rintro e w7 ⟨rfl, n7⟩
  have N7 : Hid (Nw w5 w7) := N6.out.tr n7
  clear n7
  go_wp2_with fail
  refine (spanL_lit 2 3 (by omega) (by omega) _).mono ?_
  rintro e w8 ⟨rfl, n8⟩
  have N8 : Hid (Nw w5 w8) := N7.out.tr n8
  clear n8
  go_wp2_with fail
  refine (sames_yes _ _ [(1, 2), (2, 3)] _ (T1.out.nw (N8.out.alloc _)) (spn_lit [(1, 2), (2, 3)] (heap_new w8 _) 2) (by simp)).mono ?_
  rintro e w9 ⟨rfl, n9⟩
  have N9 : Hid (Nw w5 w9) := Nw.tr (N8.out.alloc _) n9
  clear n9
  go_wp2_with fail
  refine (spanL_lit 2 3 (by omega) (by omega) _).mono ?_
  rintro e w10 ⟨rfl, n10⟩
  have N10 : Hid (Nw w5 w10) := (N9.out).tr n10
  clear n10
  go_wp2_with fail
  refine (spanL_lit 3 4 (by omega) (by omega) _).mono ?_
  rintro e w11 ⟨rfl, n11⟩
  have N11 : Hid (Nw w5 w11) := (N10.out).tr n11
  clear n11
  go_wp2_with fail
  refine (spanL_lit 0 2 (by omega) (by omega) _).mono ?_
  rintro e w12 ⟨rfl, n12⟩
  have N12 : Hid (Nw w5 w12) := (N11.out).tr n12
  clear n12
  go_wp2_with fail
  refine (spanL_lit 4 5 (by omega) (by omega) _).mono ?_
  rintro e w13 ⟨rfl, n13⟩
  have N13 : Hid (Nw w5 w13) := (N12.out).tr n13
  clear n13
  go_wp2_with fail
  refine (sames_yes _ _ [(2, 3), (3, 4), (0, 2), (4, 5)] _ (T2.out.nw (N13.out.alloc _)) (spn_lit [(2, 3), (3, 4), (0, 2), (4, 5)] (heap_new w13 _) 4) (by simp)).mono ?_
  rintro e w14 ⟨rfl, n14⟩
  have N14 : Hid (Nw w5 w14) := Nw.tr (N13.out.alloc _) n14
  clear n14
  go_wp2_with fail
  refine (spanL_lit 0 1 (by omega) (by omega) _).mono ?_
  rintro e w15 ⟨rfl, n15⟩
  have N15 : Hid (Nw w5 w15) := (N14.out).tr n15
  clear n15
  go_wp2_with fail
  refine (spanL_lit 3 4 (by omega) (by omega) _).mono ?_
  rintro e w16 ⟨rfl, n16⟩
  have N16 : Hid (Nw w5 w16) := (N15.out).tr n16
  clear n16
  go_wp2_with fail
  refine (spanL_lit 4 5 (by omega) (by omega) _).mono ?_
  rintro e w17 ⟨rfl, n17⟩
  have N17 : Hid (Nw w5 w17) := (N16.out).tr n17
  clear n17
  go_wp2_with fail
  refine (sames_yes _ _ [(0, 1), (3, 4), (4, 5)] _ (T3.out.nw (N17.out.alloc _)) (spn_lit [(0, 1), (3, 4), (4, 5)] (heap_new w17 _) 3) (by simp)).mono ?_
  rintro e w18 ⟨rfl, n18⟩
  have N18 : Hid (Nw w5 w18) := Nw.tr (N17.out.alloc _) n18
  clear n18
  go_wp2_with fail
  refine (same_yes _ _ [(2, 0), (1, 2), (0, 6)] _ (T4.out.nw (N18.out.alloc _)) (crd_lit [(2, 0), (1, 2), (0, 6)] (heap_new w18 _) 3) (by simp)).mono ?_
  rintro e w19 ⟨rfl, n19⟩
  have N19 : Hid (Nw w5 w19) := Nw.tr (N18.out.alloc _) n19
  clear n19
  go_wp2_with fail
  go_ret
  exact ⟨rfl, M5.out.tr N19.out⟩
end Go.Proofs.YtigbjpphmbmbiabDoor
