/- The document's leaves, nodes; HashLeaves. -/
import Derived.Test.YtambfmohhflimaaDoorR6
import Derived.Test.YtambfmohhflimaaDoorY1
namespace Go.Proofs.YtambfmohhflimaaDoor
open Go.RowKit
set_option linter.unusedVariables false
set_option linter.unusedSimpArgs false

/-- Numbers in memory. -/
def Ints (w : World) (p : Option Addr) (l : List Nat) : Prop := ∀ j, j < l.length → ∃ g o, p = some ⟨g, o, none⟩ ∧ w.cell? ⟨g, o + j, none⟩ = some (.int .i64 ((l.getD j 0 : Nat) : Int))
theorem sum_step (l : List Nat) (k : Nat) (h : k < l.length) : (l.take (k + 1)).sum = (l.take k).sum + l.getD k 0 := by
  have e : l.take (k + 1) = l.take k ++ [l[k]] := List.take_succ_eq_append_getElem h
  rw [e, List.sum_append, List.getD_eq_getElem?_getD, List.getElem?_eq_getElem h, Option.getD_some]
  simp
theorem sum_le (l : List Nat) (k : Nat) : (l.take k).sum ≤ l.sum := by
  have h : l.sum = (l.take k).sum + (l.drop k).sum := by rw [← List.sum_append, List.take_append_drop]
  omega
set_option maxRecDepth 100000 in
set_option maxHeartbeats 1000000 in
theorem beyond_any (p : Option Addr) (c : Nat) (l : List Nat) (w : World) (hi : Ints w p l) (hx : ∀ j, l.getD j 0 < 4611686018427387904) (hl : l.length < 4611686018427387904) :
    Calls Tryd.prog 9 #[.slice p l.length c] w fun e w' => e = .returned (.bool (decide (1048576 < l.sum))) ∧ w' = w := by
  have HI : Hid (Ints w p l) := hi
  have HX : Hid (∀ j, l.getD j 0 < 4611686018427387904) := hx
  clear hi hx
  obtain ⟨n, hn⟩ : ∃ n, n = l.length := ⟨_, rfl⟩
  rw [← hn] at hl ⊢
  have Hn : Hid (n = l.length) := hn
  clear hn
  obtain ⟨R, hR⟩ : ∃ R, R = decide (1048576 < l.sum) := ⟨_, rfl⟩
  have HR : Hid (R = decide (1048576 < l.sum)) := hR
  rw [← hR]
  clear hR
  go_enter Tryd.func9, Tryd.ntmps9
  go_wp2
  go_loop [3, 4] (fun s i => ∃ k m : Nat, k ≤ n ∧ i = .int .i64 k ∧ s = .int .i64 m ∧ m = (l.take k).sum ∧ m ≤ 1048576) (fun _ i => n - (intOf i).toNat)
  case atStart => exact ⟨0, 0, by omega, rfl, rfl, rfl, by omega⟩
  case round =>
    obtain ⟨k, m, hk, rfl, rfl, hm, hm2⟩ := hrel
    have HM : Hid (m = (l.take k).sum) := hm
    clear hm
    by_cases hlt : k < n
    · obtain ⟨g, o, rfl, hc⟩ := HI.out k (by have := Hn.out; omega)
      have hx := HX.out k
      have hst : Hid ((l.take (k + 1)).sum = (l.take k).sum + l.getD k 0) := sum_step l k (by have := Hn.out; omega)
      generalize l.getD k 0 = x at hc hx hst
      have hki : (k : Int) < (n : Int) := by omega
      by_cases hbig : 1048576 < m + x
      · have hb : (1048576 : Int) < (m : Int) + (x : Int) := by omega
        go_wp2
        go_ret
        refine ⟨?_, rfl⟩
        have : R = true := by
          rw [HR.out]
          have h1 := sum_le l (k + 1)
          rw [hst.out, ← HM.out] at h1
          exact decide_eq_true (by omega)
        rw [this]; rfl
      · have hb : ¬ (1048576 : Int) < (m : Int) + (x : Int) := by omega
        go_wp2
        exact ⟨⟨k + 1, m + x, by omega, by go_num, by go_num, by rw [hst.out, ← HM.out], by omega⟩, by simp [intOf]; omega⟩
    · have hge : ¬ (k : Int) < (n : Int) := by omega
      have : R = false := by
        rw [HR.out]
        have h1 := HM.out
        rw [List.take_of_length_le (by have := Hn.out; omega)] at h1
        exact decide_eq_false (by omega)
      have HRF : Hid (R = false) := this
      clear this hlt
      go_wp2
      go_ret
      exact ⟨by rw [HRF.out]; rfl, rfl⟩

theorem one_int (w : World) (n : Nat) : Ints (w.alloc (.cells #[.int .i64 (n : Int)] 3)) (some ⟨w.heap.size, 0, none⟩) [n] := fun j hj => by
  refine ⟨_, _, rfl, (cell_of (heap_new w _) _).trans ?_⟩
  match j, hj with
  | 0, _ => rfl
theorem getD_one (n : Nat) (h : n < 4611686018427387904) : ∀ j, [n].getD j 0 < 4611686018427387904 := fun j => by
  match j with
  | 0 => exact h
  | j + 1 => simp
theorem leaftext_any (s : ByteArray) (w : World) (hs : s.size ≤ 4194300) : Calls Tryd.prog 29 #[.string s] w fun e w' => e = .returned (.string (⟨#[0]⟩ ++ s)) ∧ w' = w := by
  have x0 : ∀ W, (Op.stringOp .add ⟨#[0]⟩ s).run Tryd.prog W = .ok (.string (⟨#[0]⟩ ++ s)) W := fun W => run_string_add_sum W _ _ (by show 1 + s.size ≤ _; omega)
  go_enter Tryd.func29, Tryd.ntmps29
  go_wp2
  go_ret
  exact ⟨rfl, rfl⟩
set_option maxRecDepth 100000 in
set_option maxHeartbeats 1000000 in
theorem refleaf_any (s : ByteArray) (w : World) (hs : s.size ≤ 4194300) : Calls Tryd.prog 11 #[.string s] w fun e w' => e = .returned (.agg (hbs (Sh (0 :: s.data.toList)))) ∧ Nw w w' := by
  obtain ⟨X, hX⟩ : ∃ X : ByteArray, X = ⟨#[0]⟩ ++ s := ⟨_, rfl⟩
  have d0 : X.data.toList = 0 :: s.data.toList := by rw [hX]; simp
  have hXs : X.size = 1 + s.size := by rw [hX, ByteArray.size_append]; rfl
  have q1 := fun W => leaftext_any s W hs
  rw [← hX] at q1
  have q2 := fun W => refsum_any X (by omega) W
  rw [d0] at q2
  have hRl : (hbs (Sh (0 :: s.data.toList))).size = 32 := by rw [hbs_size, Sh_len]
  generalize Sh (0 :: s.data.toList) = R at q2 hRl ⊢
  clear hX d0 hXs
  go_enter Tryd.func11, Tryd.ntmps11
  go_wp2_with fail
  rw [z32_h]
  have jz : (w.alloc (.cells z32 24)).heap[w.heap.size]? = some (.cells z32 24) := heap_new w _
  have n1 : Nw w (w.alloc (.cells z32 24)) := (Fr.refl _ _).alloc _
  refine (q1 _).mono ?_
  rintro e1 w1 ⟨rfl, rfl⟩
  go_wp2_with fail
  refine (q2 _).mono ?_
  rintro e2 w2 ⟨rfl, n2⟩
  have jz2 := (n2.block _ (heap_lt jz) (fun f => f)).trans jz
  have nw2 : Nw w w2 := n1.tr n2
  clear jz n1 n2 q1 q2
  go_wp2_with (refine wp_store_agg rfl (.tmp 2) (.tmp 5) 24 32 rfl Tryd.sizeOf24 w.heap.size 0 rfl z32 24 jz2 (hbs R) rfl hRl (hbs_one _) (by decide) (hbs R) (by rw [z32_drop]; simp) ?_; intro w3 j3 f3 z3)
  exact bodyPost_ret (results_cell Tryd.results11 Tryd.isAgg24 Tryd.sizeOf24 rfl j3 hRl) rfl ⟨rfl, nw2.trans f3 (fun k hk q => by omega)⟩
set_option maxRecDepth 100000 in
set_option maxHeartbeats 1000000 in
theorem refempty_any (w : World) : Calls Tryd.prog 13 #[] w fun e w' => e = .returned (.agg (hbs (Sh []))) ∧ Nw w w' := by
  have q2 : ∀ W, Calls Tryd.prog 28 #[.string ⟨#[]⟩] W fun e w' => e = .returned (.agg (hbs (Sh []))) ∧ Nw W w' := fun W => refsum_any ⟨#[]⟩ (by decide) W
  have hRl : (hbs (Sh [])).size = 32 := by rw [hbs_size, Sh_len]
  generalize Sh [] = R at q2 hRl ⊢
  go_enter Tryd.func13, Tryd.ntmps13
  go_wp2_with fail
  rw [z32_h]
  have jz : (w.alloc (.cells z32 24)).heap[w.heap.size]? = some (.cells z32 24) := heap_new w _
  have n1 : Nw w (w.alloc (.cells z32 24)) := (Fr.refl _ _).alloc _
  refine (q2 _).mono ?_
  rintro e2 w2 ⟨rfl, n2⟩
  have jz2 := (n2.block _ (heap_lt jz) (fun f => f)).trans jz
  have nw2 : Nw w w2 := n1.tr n2
  clear jz n1 n2 q2
  go_wp2_with (refine wp_store_agg rfl (.tmp 0) (.tmp 1) 24 32 rfl Tryd.sizeOf24 w.heap.size 0 rfl z32 24 jz2 (hbs R) rfl hRl (hbs_one _) (by decide) (hbs R) (by rw [z32_drop]; simp) ?_; intro w3 j3 f3 z3)
  exact bodyPost_ret (results_cell Tryd.results13 Tryd.isAgg24 Tryd.sizeOf24 rfl j3 hRl) rfl ⟨rfl, nw2.trans f3 (fun k hk q => by omega)⟩
set_option maxRecDepth 100000 in
set_option maxHeartbeats 1000000 in
theorem leaves_any (s : ByteArray) (hs : s.size ≤ 140737488355328) (w : World) (hL : Laid w) {Bd : Nat} {a : Nat → Addr} (hS : Sent Bd w a) :
    Calls Tryd.prog 3 #[.string s] w fun e w' => e = .returned (.bool true) ∧ Nw w w' := by
  have HL : Hid (Laid w) := hL
  have HS : Hid (Sent Bd w a) := hS
  clear hL hS
  go_enter Tryd.func3, Tryd.ntmps3
  go_wp2_with fail
  have q2 := beyond_any (some ⟨w.heap.size, 0, none⟩) 1 [s.size] _ (one_int w s.size) (getD_one s.size (by omega)) (by simp)
  refine q2.mono ?_
  rintro e2 w2 ⟨rfl, rfl⟩
  have n2 : Nw w (w.alloc (.cells #[.int .i64 (s.size : Int)] 3)) := (Fr.refl _ _).alloc _
  generalize (w.alloc (.cells #[.int .i64 (s.size : Int)] 3)) = w2 at n2 ⊢
  clear q2
  by_cases hbig : 1048576 < [s.size].sum
  · have hd := decide_eq_true hbig
    rw [hd]
    go_wp2
    go_ret
    exact ⟨rfl, n2⟩
  · have hd := decide_eq_false hbig
    rw [hd]
    have hsz : s.size ≤ 1048576 := by simpa using hbig
    clear hbig hd
    obtain ⟨R0, hR0⟩ : ∃ R, R = Sh (0 :: s.data.toList) := ⟨_, rfl⟩
    obtain ⟨RE, hRE⟩ : ∃ R, R = Sh [] := ⟨_, rfl⟩
    have eq0 := hbs_eq R0 (by rw [hR0]; exact Sh_len _)
    have eqE := hbs_eq RE (by rw [hRE]; exact Sh_len _)
    have QL : Hid (∀ W, Nw w W → Calls Tryd.prog 10 #[.string s] W fun e w' => e = .returned (.agg (hbs R0)) ∧ Nw W w') := fun W hW => by
      rw [hR0]; exact leaf_any s W (HL.out.nw hW) (by omega)
    have QM : Hid (∀ W, Calls Tryd.prog 11 #[.string s] W fun e w' => e = .returned (.agg (hbs R0)) ∧ Nw W w') := fun W => by
      rw [hR0]; exact refleaf_any s W (by omega)
    have QE : Hid (∀ W, Nw w W → Calls Tryd.prog 12 #[] W fun e w' => e = .returned (.agg (hbs RE)) ∧ Nw W w') := fun W hW => by
      rw [hRE]; exact empty_any W (HL.out.nw hW)
    have QF : Hid (∀ W, Calls Tryd.prog 13 #[] W fun e w' => e = .returned (.agg (hbs RE)) ∧ Nw W w') := fun W => by
      rw [hRE]; exact refempty_any W
    have QV : Hid (∀ W, Nw w W → Calls Tryd.prog 14 #[] W fun e w' => e = .returned (.bool true) ∧ Nw W w') := fun W hW => lives_any W (HL.out.nw hW) (HS.out.fr hW (fun _ _ f => f))
    clear hR0 hRE
    go_wp2_with first
      | (go_at_call 10; refine (QL.out _ n2).mono ?_; rintro e3 w3 ⟨rfl, n3⟩; have nb := n2.tr n3)
      | (go_at_call 11; refine (QM.out _).mono ?_; rintro e4 w4 ⟨rfl, n4⟩; have nb := nb.tr n4)
      | (go_at_call 12; refine (QE.out _ nb).mono ?_; rintro e5 w5 ⟨rfl, n5⟩; have nb := nb.tr n5)
      | (go_at_call 13; refine (QF.out _).mono ?_; rintro e6 w6 ⟨rfl, n6⟩; have nb := nb.tr n6)
      | (go_at_call 14; refine (QV.out _ nb).mono ?_; rintro e7 w7 ⟨rfl, n7⟩; have nb := nb.tr n7)
    go_ret
    exact ⟨rfl, nb⟩
end Go.Proofs.YtambfmohhflimaaDoor
