/- ShapePaths, ShapeProofs, ShapeBatches: the walks. -/
import Derived.Test.YtigbjpphmbmbiaaGreatDoorU1
namespace Go.Proofs.YtigbjpphmbmbiaaGreatDoor
open Go.RowKit
set_option linter.unusedVariables false
set_option linter.unusedSimpArgs false

set_option maxRecDepth 100000 in
set_option maxHeartbeats 4000000 in
theorem proofs_core (i n : Nat) (l : List (Nat × Nat)) (c p : Int) (er : Value) (w : World) (hl : l.length ≤ 200)
    (QP : ∀ W, Nw w W → Calls Tryz.prog 12 #[.int .u64 (i : Int), .int .u64 (n : Int)] W fun x w' => ∃ v, x = .returned (.tuple #[v, er]) ∧ w'.ownsRow W.heap.size 74 2 v l.length (fs l) ∧ Nw W w')
    (QR : ∀ W, Nw w W → Calls Tryz.prog 13 #[.int .u64 (i : Int), .int .u64 (n : Int)] W fun x w' => ∃ v, x = .returned (.tuple #[v, .agg #[.int .i64 c, .int .i64 p]]) ∧ w'.ownsRow W.heap.size 74 2 v l.length (fs l) ∧ Nw W w')
    (QS : ∀ W, Nw w W → Calls Tryz.prog 19 #[er, .agg #[.int .i64 c, .int .i64 p]] W fun x w' => x = .returned (.bool true) ∧ Nw W w') :
    Calls Tryz.prog 4 #[.int .u64 (i : Int), .int .u64 (n : Int)] w fun x w' => x = .returned (.bool true) ∧ Nw w w' := by
  have HP := show Hid _ from QP
  have HR := show Hid _ from QR
  have HS := show Hid _ from QS
  clear QP QR QS
  go_enter Tryz.func4, Tryz.ntmps4
  have W0 : Hid (Nw w w) := nwr w
  go_wp2_with fail
  refine (HP.out _ W0.out).mono ?_
  rintro x1 w1 ⟨v1, rfl, o1, n1⟩
  obtain ⟨aa, ac, rfl⟩ := ownsRow_form o1
  have O1 : Hid (w1.ownsRow w.heap.size 74 2 (.slice aa l.length ac) l.length (fs l)) := ownsRow_base o1 W0.out.size
  have N1 : Hid (Nw w w1) := W0.out.tr n1
  clear o1 n1
  go_wp2_with fail
  refine (HP.out _ N1.out).mono ?_
  rintro x2 w2 ⟨v2, rfl, o2, n2⟩
  obtain ⟨ba, bc, rfl⟩ := ownsRow_form o2
  have O2 : Hid (w2.ownsRow w1.heap.size 74 2 (.slice ba l.length bc) l.length (fs l)) := o2
  have N12 : Hid (Nw w1 w2) := n2
  clear o2 n2
  go_wp2_with fail
  refine (HR.out _ (N1.out.tr N12.out)).mono ?_
  rintro x3 w3 ⟨v3, rfl, o3, n3⟩
  obtain ⟨ca, cc, rfl⟩ := ownsRow_form o3
  have O3 : Hid (w3.ownsRow w2.heap.size 74 2 (.slice ca l.length cc) l.length (fs l)) := o3
  have N23 : Hid (Nw w2 w3) := n3
  clear o3 n3
  go_wp2_with fail
  have N3 : Hid (Nw w (w3.alloc (cF c p))) := ((N1.out.tr N12.out).tr N23.out).alloc _
  have q := spans_any w.heap.size l c p er (.slice aa l.length ac) (.slice ba l.length bc) (.slice ca l.length cc) (w3.alloc (cF c p)) hl N3.out.size
    (ownsRow_keep O1.out (fun g hg => ((N12.out.tr N23.out).alloc _).block g (O1.out.lt g hg).2 (fun f => f))) (ownsRow_keep (ownsRow_base O2.out N1.out.size) (fun g hg => (N23.out.alloc _).block g (O2.out.lt g hg).2 (fun f => f)))
    (fun g hg hg2 => by have := (O1.out.lt g hg).2; have := (O2.out.lt g hg2).1; omega) ((Spn.of O3.out).nw (nwa w3 _)) (fun W nW => HS.out W (N3.out.tr nW))
  refine q.mono ?_
  rintro x4 w4 ⟨rfl, f4⟩
  have N4 : Hid (Nw w w4) := N3.out.trans f4 (fun j hj h => by have h' : w.heap.size ≤ j := h; omega)
  clear q f4
  go_wp2_with fail
  go_ret
  exact ⟨rfl, N4.out⟩

set_option maxRecDepth 100000 in
set_option maxHeartbeats 4000000 in
theorem batches_core (x y n : Nat) (l : List (Nat × Nat)) (c p : Int) (er : Value) (w : World) (hl : l.length ≤ 200)
    (QP : ∀ W, Nw w W → Calls Tryz.prog 14 #[.int .u64 (x : Int), .int .u64 (y : Int), .int .u64 (n : Int)] W fun z w' => ∃ v, z = .returned (.tuple #[v, er]) ∧ w'.ownsRow W.heap.size 74 2 v l.length (fs l) ∧ Nw W w')
    (QR : ∀ W, Nw w W → Calls Tryz.prog 15 #[.int .u64 (x : Int), .int .u64 (y : Int), .int .u64 (n : Int)] W fun z w' => ∃ v, z = .returned (.tuple #[v, .agg #[.int .i64 c, .int .i64 p]]) ∧ w'.ownsRow W.heap.size 74 2 v l.length (fs l) ∧ Nw W w')
    (QS : ∀ W, Nw w W → Calls Tryz.prog 19 #[er, .agg #[.int .i64 c, .int .i64 p]] W fun z w' => z = .returned (.bool true) ∧ Nw W w') :
    Calls Tryz.prog 5 #[.int .u64 (x : Int), .int .u64 (y : Int), .int .u64 (n : Int)] w fun z w' => z = .returned (.bool true) ∧ Nw w w' := by
  have HP := show Hid _ from QP
  have HR := show Hid _ from QR
  have HS := show Hid _ from QS
  clear QP QR QS
  go_enter Tryz.func5, Tryz.ntmps5
  have W0 : Hid (Nw w w) := nwr w
  go_wp2_with fail
  refine (HP.out _ W0.out).mono ?_
  rintro x1 w1 ⟨v1, rfl, o1, n1⟩
  obtain ⟨aa, ac, rfl⟩ := ownsRow_form o1
  have O1 : Hid (w1.ownsRow w.heap.size 74 2 (.slice aa l.length ac) l.length (fs l)) := ownsRow_base o1 W0.out.size
  have N1 : Hid (Nw w w1) := W0.out.tr n1
  clear o1 n1
  go_wp2_with fail
  refine (HP.out _ N1.out).mono ?_
  rintro x2 w2 ⟨v2, rfl, o2, n2⟩
  obtain ⟨ba, bc, rfl⟩ := ownsRow_form o2
  have O2 : Hid (w2.ownsRow w1.heap.size 74 2 (.slice ba l.length bc) l.length (fs l)) := o2
  have N12 : Hid (Nw w1 w2) := n2
  clear o2 n2
  go_wp2_with fail
  refine (HR.out _ (N1.out.tr N12.out)).mono ?_
  rintro x3 w3 ⟨v3, rfl, o3, n3⟩
  obtain ⟨ca, cc, rfl⟩ := ownsRow_form o3
  have O3 : Hid (w3.ownsRow w2.heap.size 74 2 (.slice ca l.length cc) l.length (fs l)) := o3
  have N23 : Hid (Nw w2 w3) := n3
  clear o3 n3
  go_wp2_with fail
  have N3 : Hid (Nw w (w3.alloc (cF c p))) := ((N1.out.tr N12.out).tr N23.out).alloc _
  have q := spans_any w.heap.size l c p er (.slice aa l.length ac) (.slice ba l.length bc) (.slice ca l.length cc) (w3.alloc (cF c p)) hl N3.out.size
    (ownsRow_keep O1.out (fun g hg => ((N12.out.tr N23.out).alloc _).block g (O1.out.lt g hg).2 (fun f => f))) (ownsRow_keep (ownsRow_base O2.out N1.out.size) (fun g hg => (N23.out.alloc _).block g (O2.out.lt g hg).2 (fun f => f)))
    (fun g hg hg2 => by have := (O1.out.lt g hg).2; have := (O2.out.lt g hg2).1; omega) ((Spn.of O3.out).nw (nwa w3 _)) (fun W nW => HS.out W (N3.out.tr nW))
  refine q.mono ?_
  rintro x4 w4 ⟨rfl, f4⟩
  have N4 : Hid (Nw w w4) := N3.out.trans f4 (fun j hj h => by have h' : w.heap.size ≤ j := h; omega)
  clear q f4
  go_wp2_with fail
  go_ret
  exact ⟨rfl, N4.out⟩

set_option maxRecDepth 100000 in
set_option maxHeartbeats 4000000 in
theorem paths_core (i n : Nat) (l : List (Nat × Nat)) (c p : Int) (er : Value) (w : World) (s : Nat) (ok : Bool) (QA : ∀ W, Nw w W → Calls Tryz.prog 7 #[.int .u64 (n : Int)] W fun x w' => x = .returned (.tuple #[.int .u64 (s : Int), .bool ok]) ∧ Nw W w') (QB : ∀ W, Nw w W → Calls Tryz.prog 8 #[.int .u64 (n : Int)] W fun x w' => x = .returned (.tuple #[.int .u64 (s : Int), .bool ok]) ∧ w' = W) (hl : l.length ≤ 200)
    (QP : ∀ W, Nw w W → Calls Tryz.prog 9 #[.int .u64 (i : Int), .int .u64 (n : Int)] W fun x w' => ∃ v, x = .returned (.tuple #[v, er]) ∧ w'.ownsRow W.heap.size 74 2 v l.length (fs l) ∧ Nw W w')
    (QR : ∀ W, Nw w W → Calls Tryz.prog 10 #[.int .u64 (i : Int), .int .u64 (n : Int)] W fun x w' => ∃ v, x = .returned (.tuple #[v, .agg #[.int .i64 c, .int .i64 p]]) ∧ w'.ownsRow W.heap.size 74 2 v l.length (fs l) ∧ Nw W w')
    (QS : ∀ W, Nw w W → Calls Tryz.prog 19 #[er, .agg #[.int .i64 c, .int .i64 p]] W fun x w' => x = .returned (.bool true) ∧ Nw W w') :
    Calls Tryz.prog 3 #[.int .u64 (i : Int), .int .u64 (n : Int)] w fun x w' => x = .returned (.bool true) ∧ Nw w w' := by
  have HP := show Hid _ from QP
  have HR := show Hid _ from QR
  have HS := show Hid _ from QS
  clear QP QR QS
  go_enter Tryz.func3, Tryz.ntmps3
  have HA := show Hid _ from QA
  have HB := show Hid _ from QB
  clear QA QB
  go_wp2_with fail
  refine (HA.out _ (nwr w)).mono ?_
  rintro x8 w8 ⟨rfl, n8⟩
  have W0 : Hid (Nw w w8) := n8
  clear n8
  go_wp2_with fail
  refine (HB.out _ W0.out).mono ?_
  rintro x9 w9 ⟨rfl, rfl⟩
  go_wp2_with fail
  refine (HP.out _ W0.out).mono ?_
  rintro x1 w1 ⟨v1, rfl, o1, n1⟩
  obtain ⟨aa, ac, rfl⟩ := ownsRow_form o1
  have O1 : Hid (w1.ownsRow w.heap.size 74 2 (.slice aa l.length ac) l.length (fs l)) := ownsRow_base o1 W0.out.size
  have N1 : Hid (Nw w w1) := W0.out.tr n1
  clear o1 n1
  go_wp2_with fail
  refine (HP.out _ N1.out).mono ?_
  rintro x2 w2 ⟨v2, rfl, o2, n2⟩
  obtain ⟨ba, bc, rfl⟩ := ownsRow_form o2
  have O2 : Hid (w2.ownsRow w1.heap.size 74 2 (.slice ba l.length bc) l.length (fs l)) := o2
  have N12 : Hid (Nw w1 w2) := n2
  clear o2 n2
  go_wp2_with fail
  refine (HR.out _ (N1.out.tr N12.out)).mono ?_
  rintro x3 w3 ⟨v3, rfl, o3, n3⟩
  obtain ⟨ca, cc, rfl⟩ := ownsRow_form o3
  have O3 : Hid (w3.ownsRow w2.heap.size 74 2 (.slice ca l.length cc) l.length (fs l)) := o3
  have N23 : Hid (Nw w2 w3) := n3
  clear o3 n3
  go_wp2_with fail
  have N3 : Hid (Nw w (w3.alloc (cF c p))) := ((N1.out.tr N12.out).tr N23.out).alloc _
  have q := spans_any w.heap.size l c p er (.slice aa l.length ac) (.slice ba l.length bc) (.slice ca l.length cc) (w3.alloc (cF c p)) hl N3.out.size
    (ownsRow_keep O1.out (fun g hg => ((N12.out.tr N23.out).alloc _).block g (O1.out.lt g hg).2 (fun f => f))) (ownsRow_keep (ownsRow_base O2.out N1.out.size) (fun g hg => (N23.out.alloc _).block g (O2.out.lt g hg).2 (fun f => f)))
    (fun g hg hg2 => by have := (O1.out.lt g hg).2; have := (O2.out.lt g hg2).1; omega) ((Spn.of O3.out).nw (nwa w3 _)) (fun W nW => HS.out W (N3.out.tr nW))
  refine q.mono ?_
  rintro x4 w4 ⟨rfl, f4⟩
  have N4 : Hid (Nw w w4) := N3.out.trans f4 (fun j hj h => by have h' : w.heap.size ≤ j := h; omega)
  clear q f4
  go_wp2_with fail
  go_ret
  exact ⟨rfl, N4.out⟩

theorem proofs_any (i n : Nat) (hi : i < 18446744073709551616) (hn : n < 18446744073709551616) (w : World) {B : Nat} {a : Nat → Addr} (hS : Sent B w a) :
    Calls Tryz.prog 4 #[.int .u64 (i : Int), .int .u64 (n : Int)] w fun z w' => z = .returned (.bool true) ∧ Nw w w' := by
  by_cases h : 0 < i ∧ i ≤ n ∧ n ≤ 9223372036854775808
  · refine proofs_core i n (prf i 0 n true) 0 0 .nilIface w (by have := prf_len 63 i 0 n true (by rw [p63]; omega) h.1 h.2.1; omega) (fun W _ => proof_yes i n h.1 h.2.1 h.2.2 W) (fun W _ => rProof_yes i n h.1 h.2.1 h.2.2 W) (fun W n => ?_)
    have q := same_any (hS.fr n (fun _ _ f => f)) (v := .nilIface) (code := 0) (pl := none) (.inl ⟨rfl, rfl, rfl⟩) 0 0
    rw [show sameB 0 none 0 0 = true by decide] at q
    exact q
  · refine proofs_core i n [] 5 (-1) (sen (a 4)) w (by simp) (fun W nn => (proof_no i n h hi hn W (hS.fr nn (fun _ _ f => f))).mono ?_) (fun W _ => (rProof_no i n h W).mono ?_) (fun W n => ?_)
    · rintro x w' ⟨rfl, n⟩
      exact ⟨_, rfl, World.ownsRow_nil _ _ _ _, n⟩
    · rintro x w' ⟨rfl, n⟩
      exact ⟨_, rfl, World.ownsRow_nil _ _ _ _, n⟩
    · have q := same_any (hS.fr n (fun _ _ f => f)) (v := sen (a 4)) (code := 5) (pl := none) (.inr (.inl ⟨4, by decide, rfl, rfl, rfl⟩)) 5 (-1)
      rw [show sameB 5 none 5 (-1) = true by decide] at q
      exact q

theorem batches_any (x y n : Nat) (hx : x < 18446744073709551616) (hy : y < 18446744073709551616) (hn : n < 18446744073709551616) (w : World) {B : Nat} {a : Nat → Addr} (hS : Sent B w a) :
    Calls Tryz.prog 5 #[.int .u64 (x : Int), .int .u64 (y : Int), .int .u64 (n : Int)] w fun z w' => z = .returned (.bool true) ∧ Nw w w' := by
  by_cases h : x < y ∧ y ≤ n ∧ n ≤ 9223372036854775808
  · refine batches_core x y n (bat x y 0 n) 0 0 .nilIface w (by have := bat_len 63 x y 0 n (by rw [p63]; omega); omega) (fun W _ => batch_yes x y n h.1 h.2.1 h.2.2 W) (fun W _ => rBatch_yes x y n h.1 h.2.1 h.2.2 W) (fun W n => ?_)
    have q := same_any (hS.fr n (fun _ _ f => f)) (v := .nilIface) (code := 0) (pl := none) (.inl ⟨rfl, rfl, rfl⟩) 0 0
    rw [show sameB 0 none 0 0 = true by decide] at q
    exact q
  · refine batches_core x y n [] 5 (-1) (sen (a 4)) w (by simp) (fun W nn => (batch_no x y n h hx hy hn W (hS.fr nn (fun _ _ f => f))).mono ?_) (fun W _ => (rBatch_no x y n h W).mono ?_) (fun W n => ?_)
    · rintro x w' ⟨rfl, n⟩
      exact ⟨_, rfl, World.ownsRow_nil _ _ _ _, n⟩
    · rintro x w' ⟨rfl, n⟩
      exact ⟨_, rfl, World.ownsRow_nil _ _ _ _, n⟩
    · have q := same_any (hS.fr n (fun _ _ f => f)) (v := sen (a 4)) (code := 5) (pl := none) (.inr (.inl ⟨4, by decide, rfl, rfl, rfl⟩)) 5 (-1)
      rw [show sameB 5 none 5 (-1) = true by decide] at q
      exact q

theorem paths_any (i n : Nat) (hi : i < 18446744073709551616) (hn : n < 18446744073709551616) (w : World) {B : Nat} {a : Nat → Addr} (hS : Sent B w a) :
    Calls Tryz.prog 3 #[.int .u64 (i : Int), .int .u64 (n : Int)] w fun z w' => z = .returned (.bool true) ∧ Nw w w' := by
  obtain ⟨s, ok, QA, QB⟩ : ∃ (s : Nat) (ok : Bool), (∀ W, Nw w W → Calls Tryz.prog 7 #[.int .u64 (n : Int)] W fun x w' => x = .returned (.tuple #[.int .u64 (s : Int), .bool ok]) ∧ Nw W w') ∧ (∀ W, Nw w W → Calls Tryz.prog 8 #[.int .u64 (n : Int)] W fun x w' => x = .returned (.tuple #[.int .u64 (s : Int), .bool ok]) ∧ w' = W) := by
    by_cases h2 : 2 ≤ n ∧ n ≤ 9223372036854775808
    · exact ⟨spl n, true, fun W _ => split_yes n h2.1 h2.2 W, fun W _ => rsplit_yes n h2.1 h2.2 W⟩
    · exact ⟨0, false, fun W _ => split_no n h2 hn W, fun W _ => rsplit_no n h2 hn W⟩
  by_cases h : i < n ∧ n ≤ 9223372036854775808
  · refine paths_core i n (pth i 0 n) 0 0 .nilIface w s ok QA QB (by have := pth_len 63 i 0 n (by rw [p63]; omega); omega) (fun W _ => path_yes i n h.1 h.2 W) (fun W _ => rPath_yes i n h.1 h.2 W) (fun W n => ?_)
    have q := same_any (hS.fr n (fun _ _ f => f)) (v := .nilIface) (code := 0) (pl := none) (.inl ⟨rfl, rfl, rfl⟩) 0 0
    rw [show sameB 0 none 0 0 = true by decide] at q
    exact q
  · refine paths_core i n [] 5 (-1) (sen (a 4)) w s ok QA QB (by simp) (fun W nn => (path_no i n h hi hn W (hS.fr nn (fun _ _ f => f))).mono ?_) (fun W _ => (rPath_no i n h W).mono ?_) (fun W n => ?_)
    · rintro x w' ⟨rfl, n⟩
      exact ⟨_, rfl, World.ownsRow_nil _ _ _ _, n⟩
    · rintro x w' ⟨rfl, n⟩
      exact ⟨_, rfl, World.ownsRow_nil _ _ _ _, n⟩
    · have q := same_any (hS.fr n (fun _ _ f => f)) (v := sen (a 4)) (code := 5) (pl := none) (.inr (.inl ⟨4, by decide, rfl, rfl, rfl⟩)) 5 (-1)
      rw [show sameB 5 none 5 (-1) = true by decide] at q
      exact q
end Go.Proofs.YtigbjpphmbmbiaaGreatDoor
