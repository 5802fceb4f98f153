/- What a step with a log answers: the program. -/
import Derived.Test.YtdhlmpjoggnkkaaGreatDoorJ1
namespace Go.Proofs.YtdhlmpjoggnkkaaGreatDoor
open Go.RowKit
set_option linter.unusedVariables false
set_option linter.unusedSimpArgs false

/-- An answer: number, text, hash, hashes, which error, the leaves behind it. -/
structure An where
  n : Nat
  s : ByteArray
  h : List UInt8
  l : List (List UInt8)
  c : Nat
  m : List ByteArray
/-- What the step of a kind answers of a log with these leaves. -/
def anw (L : List ByteArray) (s : ByteArray) (x y z : Nat) : Nat → An
  | 0 => if 65536 < s.size ∨ 1048576 ≤ L.length then ⟨0, ⟨#[]⟩, zh, [], 4, L⟩ else ⟨L.length, ⟨#[]⟩, zh, [], 0, L ++ [s]⟩
  | 1 => ⟨0, L.getD x ⟨#[]⟩, zh, [], if x < L.length then 0 else 5, L⟩
  | 2 => ⟨0, ⟨#[]⟩, if x ≤ y ∧ y ≤ L.length then mth (sbl L x y) else zh, [], if x ≤ y ∧ y ≤ L.length then 0 else 5, L⟩
  | 3 => ⟨0, ⟨#[]⟩, if 0 ≤ x ∧ x ≤ L.length then mth (sbl L 0 x) else zh, [], if 0 ≤ x ∧ x ≤ L.length then 0 else 5, L⟩
  | 4 => ⟨0, ⟨#[]⟩, zh, (TP L x y).map (hst L), if (x < y) ∧ y ≤ L.length then 0 else 5, L⟩
  | 5 => ⟨0, ⟨#[]⟩, zh, (TR L x y).map (hst L), if (0 < x ∧ x ≤ y) ∧ y ≤ L.length then 0 else 5, L⟩
  | _ => ⟨0, ⟨#[]⟩, zh, (TB L x y z).map (hst L), if (x < y ∧ y ≤ z) ∧ z ≤ L.length then 0 else 5, L⟩
def ec (a : Nat → Addr) (c : Nat) : Value := if c = 0 then .nilIface else sen (a (c - 1))
abbrev opc (who kind : Int) (s : ByteArray) (x y z : Nat) : Array Value := #[.int .i64 who, .int .i64 kind, .string s, .int .u64 (x : Int), .int .u64 (y : Int), .int .u64 (z : Int)]
theorem tz_one : ∀ u ∈ (tcs 0 ⟨#[]⟩ zh (.slice none 0 0)).toList, u.oneCell' = true := tcs_one _ _ _ _ _ _
theorem drop_all {A : Array Value} {n : Nat} (h : A.size = n) : A.toList.drop (0 + n) = [] := List.drop_eq_nil_of_le (by simp [h])
theorem zh32 : zh.length = 32 := by simp

set_option maxRecDepth 100000 in
set_option maxHeartbeats 2000000 in
theorem step_0 {w : World} (P er : Value) (m : Nat) (who kind : Int) (s : ByteArray) (x y z : Nat) (hk1 : -9223372036854775808 ≤ kind) (hk2 : kind ≤ 9223372036854775807) (hkd : kind % 7 = 0) (QF : ∀ W, Nw w W → Calls Tryz.prog 32 #[P, .string s] W fun e w' => e = .returned (.tuple #[.int .u64 (m : Int), er]) ∧ Nw W w') :
    Calls Tryz.prog 10 #[P, .agg (opc who kind s x y z)] w fun e w' => e = .returned (.tuple #[.agg (tcs (m : Int) ⟨#[]⟩ zh (.slice none 0 0)), er]) ∧ Nw w w' := by
  have QR := show Hid (∀ W, Calls Tryz.prog 6 #[.int .i64 kind, .int .i64 7] W fun e w' => e = .returned (.int .i64 0) ∧ w' = W) from fun W => by have q := round_any kind 7 hk1 hk2 (by decide) (by decide) W; rw [hkd] at q; exact q
  have QF' := show Hid (∀ W, Nw w W → Calls Tryz.prog 32 #[P, .string s] W fun e w' => e = .returned (.tuple #[.int .u64 (m : Int), er]) ∧ Nw W w') from QF
  clear QF
  clear hkd
  go_enter Tryz.func10, Tryz.ntmps10
  go_wp2_with fail
  rw [tz_h]
  refine (QR.out _).mono ?_
  rintro e w1 ⟨rfl, h1⟩
  have b0 : w1.heap[w.heap.size]? = some (.cells (opc who kind s x y z) 53) := by rw [h1]; (repeat first | with_reducible exact heap_new _ _ | with_reducible exact heap_new _ _ | with_reducible exact heap_next _ _ _ | with_reducible exact heap_third _ _ _ _ | with_reducible refine hp_dr ?_ | (with_reducible refine hp_ne ?_ ?_; focus omega) | (with_reducible refine hp_al ?_ ?_; focus (first | omega | (simp <;> omega))) | with_reducible apply hp_set) <;> rfl
  have b1 : w1.heap[w.heap.size + 1]? = some (.cells (tcs 0 ⟨#[]⟩ zh (.slice none 0 0)) 59) := by rw [h1]; (repeat first | with_reducible exact heap_next _ _ _ | with_reducible exact heap_new _ _ | with_reducible exact heap_next _ _ _ | with_reducible exact heap_third _ _ _ _ | with_reducible refine hp_dr ?_ | (with_reducible refine hp_ne ?_ ?_; focus omega) | (with_reducible refine hp_al ?_ ?_; focus (first | omega | (simp <;> omega))) | with_reducible apply hp_set) <;> rfl
  have b2 : w1.heap[w.heap.size + 1 + 1]? = some (.cells (tcs 0 ⟨#[]⟩ zh (.slice none 0 0)) 59) := by rw [h1]; exact heap_third _ _ _ _
  have N1 : Hid (Nw w w1) := by rw [h1]; exact ((nwa w _).alloc _).alloc _
  clear h1
  have o1 := (cell_of b0 1).trans rfl
  have o2 := (cell_of b0 2).trans rfl
  have o3 := (cell_of b0 3).trans rfl
  have o4 := (cell_of b0 4).trans rfl
  have o5 := (cell_of b0 5).trans rfl
  have l0 := heap_lt b0
  obtain ⟨br, hbr⟩ : ∃ br, br = w.heap.size + 1 := ⟨_, rfl⟩
  obtain ⟨bt, hbt⟩ : ∃ bt, bt = w.heap.size + 1 + 1 := ⟨_, rfl⟩
  have HBR : Hid (br ≠ bt ∧ w.heap.size < br ∧ w.heap.size < bt) := ⟨by omega, by omega, by omega⟩
  rw [← hbt] at b2 ⊢
  rw [← hbr] at b1 ⊢
  have B1 : Hid (w1.heap[br]? = some (.cells (tcs 0 ⟨#[]⟩ zh (.slice none 0 0)) 59)) := b1
  have B2 : Hid (w1.heap[bt]? = some (.cells (tcs 0 ⟨#[]⟩ zh (.slice none 0 0)) 59)) := b2
  clear hbr hbt b0 b1 b2
  go_wp2_with fail
  refine (QF'.out _ N1.out).mono ?_
  rintro e w2 ⟨rfl, n2⟩
  have C1 : Hid (w2.heap[br]? = some (.cells (tcs 0 ⟨#[]⟩ zh (.slice none 0 0)) 59)) := (n2.block _ (heap_lt B1.out) (fun f => f)).trans B1.out
  have C2 : Hid (w2.heap[bt]? = some (.cells (tcs 0 ⟨#[]⟩ zh (.slice none 0 0)) 59)) := (n2.block _ (heap_lt B2.out) (fun f => f)).trans B2.out
  have N2 : Hid (Nw w w2) := N1.out.tr n2
  clear n2 B1 B2 o1 o2 o3 o4 o5 l0
  have lr := heap_lt C1.out
  have lt := heap_lt C2.out
  have c2 := (cell_of C2.out 0).trans (tcs_0 _ _ _ _)
  have f2 := frozen_of C2.out 0
  have hs35 : (tcs (m : Int) ⟨#[]⟩ zh (.slice none 0 0)).size = 35 := tcs_size _ _ _ zh32 _
  go_wp2_with first
    | (refine wp_load_agg rfl (.tmp 6) 59 35 rfl Tryz.isAgg59 Tryz.sizeOf59 bt 0 rfl _ 59 (0, 0) (hp_set C2.out (tcs_set0 _ _ _ _ _)) (tcs (m : Int) ⟨#[]⟩ zh (.slice none 0 0)) hs35 (fun j _ => by rw [Nat.zero_add]) ?_)
    | (refine wp_store_agg rfl (.tmp 4) (.tmp 90) 59 35 rfl Tryz.sizeOf59 br 0 rfl _ 59 (hp_ne HBR.out.1 C1.out) (tcs (m : Int) ⟨#[]⟩ zh (.slice none 0 0)) rfl hs35 (tcs_one _ _ _ _ _ _) (Nat.le_of_eq (by rw [tcs_size _ _ _ zh32])) (tcs (m : Int) ⟨#[]⟩ zh (.slice none 0 0)) (by rw [drop_all (tcs_size _ _ _ zh32 _)]; simp) ?_; intro w4 j4 f4 _)
  exact bodyPost_ret (results_cell_slot Tryz.results10 Tryz.isAgg59 Tryz.sizeOf59 rfl _ rfl j4 hs35) rfl ⟨rfl, (N2.out.setCell _ _ (fun q => by have := HBR.out; simp only at q; omega)).trans f4 (fun k hk q => by have := HBR.out; omega)⟩

set_option maxRecDepth 100000 in
set_option maxHeartbeats 2000000 in
theorem step_1 {w : World} (P er : Value) (r : ByteArray) (who kind : Int) (s : ByteArray) (x y z : Nat) (hk1 : -9223372036854775808 ≤ kind) (hk2 : kind ≤ 9223372036854775807) (hkd : kind % 7 = 1) (QF : ∀ W, Nw w W → Calls Tryz.prog 33 #[P, .int .u64 (x : Int)] W fun e w' => e = .returned (.tuple #[.string r, er]) ∧ Nw W w') :
    Calls Tryz.prog 10 #[P, .agg (opc who kind s x y z)] w fun e w' => e = .returned (.tuple #[.agg (tcs 0 r zh (.slice none 0 0)), er]) ∧ Nw w w' := by
  have QR := show Hid (∀ W, Calls Tryz.prog 6 #[.int .i64 kind, .int .i64 7] W fun e w' => e = .returned (.int .i64 1) ∧ w' = W) from fun W => by have q := round_any kind 7 hk1 hk2 (by decide) (by decide) W; rw [hkd] at q; exact q
  have QF' := show Hid (∀ W, Nw w W → Calls Tryz.prog 33 #[P, .int .u64 (x : Int)] W fun e w' => e = .returned (.tuple #[.string r, er]) ∧ Nw W w') from QF
  clear QF
  clear hkd
  go_enter Tryz.func10, Tryz.ntmps10
  go_wp2_with fail
  rw [tz_h]
  refine (QR.out _).mono ?_
  rintro e w1 ⟨rfl, h1⟩
  have b0 : w1.heap[w.heap.size]? = some (.cells (opc who kind s x y z) 53) := by rw [h1]; (repeat first | with_reducible exact heap_new _ _ | with_reducible exact heap_new _ _ | with_reducible exact heap_next _ _ _ | with_reducible exact heap_third _ _ _ _ | with_reducible refine hp_dr ?_ | (with_reducible refine hp_ne ?_ ?_; focus omega) | (with_reducible refine hp_al ?_ ?_; focus (first | omega | (simp <;> omega))) | with_reducible apply hp_set) <;> rfl
  have b1 : w1.heap[w.heap.size + 1]? = some (.cells (tcs 0 ⟨#[]⟩ zh (.slice none 0 0)) 59) := by rw [h1]; (repeat first | with_reducible exact heap_next _ _ _ | with_reducible exact heap_new _ _ | with_reducible exact heap_next _ _ _ | with_reducible exact heap_third _ _ _ _ | with_reducible refine hp_dr ?_ | (with_reducible refine hp_ne ?_ ?_; focus omega) | (with_reducible refine hp_al ?_ ?_; focus (first | omega | (simp <;> omega))) | with_reducible apply hp_set) <;> rfl
  have b2 : w1.heap[w.heap.size + 1 + 1]? = some (.cells (tcs 0 ⟨#[]⟩ zh (.slice none 0 0)) 59) := by rw [h1]; exact heap_third _ _ _ _
  have N1 : Hid (Nw w w1) := by rw [h1]; exact ((nwa w _).alloc _).alloc _
  clear h1
  have o1 := (cell_of b0 1).trans rfl
  have o2 := (cell_of b0 2).trans rfl
  have o3 := (cell_of b0 3).trans rfl
  have o4 := (cell_of b0 4).trans rfl
  have o5 := (cell_of b0 5).trans rfl
  have l0 := heap_lt b0
  obtain ⟨br, hbr⟩ : ∃ br, br = w.heap.size + 1 := ⟨_, rfl⟩
  obtain ⟨bt, hbt⟩ : ∃ bt, bt = w.heap.size + 1 + 1 := ⟨_, rfl⟩
  have HBR : Hid (br ≠ bt ∧ w.heap.size < br ∧ w.heap.size < bt) := ⟨by omega, by omega, by omega⟩
  rw [← hbt] at b2 ⊢
  rw [← hbr] at b1 ⊢
  have B1 : Hid (w1.heap[br]? = some (.cells (tcs 0 ⟨#[]⟩ zh (.slice none 0 0)) 59)) := b1
  have B2 : Hid (w1.heap[bt]? = some (.cells (tcs 0 ⟨#[]⟩ zh (.slice none 0 0)) 59)) := b2
  clear hbr hbt b0 b1 b2
  go_wp2_with fail
  refine (QF'.out _ N1.out).mono ?_
  rintro e w2 ⟨rfl, n2⟩
  have C1 : Hid (w2.heap[br]? = some (.cells (tcs 0 ⟨#[]⟩ zh (.slice none 0 0)) 59)) := (n2.block _ (heap_lt B1.out) (fun f => f)).trans B1.out
  have C2 : Hid (w2.heap[bt]? = some (.cells (tcs 0 ⟨#[]⟩ zh (.slice none 0 0)) 59)) := (n2.block _ (heap_lt B2.out) (fun f => f)).trans B2.out
  have N2 : Hid (Nw w w2) := N1.out.tr n2
  clear n2 B1 B2 o1 o2 o3 o4 o5 l0
  have lr := heap_lt C1.out
  have lt := heap_lt C2.out
  have c2 := (cell_of C2.out 1).trans (tcs_1 _ _ _ _)
  have f2 := frozen_of C2.out 1
  have hs35 : (tcs 0 r zh (.slice none 0 0)).size = 35 := tcs_size _ _ _ zh32 _
  go_wp2_with first
    | (refine wp_load_agg rfl (.tmp 6) 59 35 rfl Tryz.isAgg59 Tryz.sizeOf59 bt 0 rfl _ 59 (0, 0) (hp_set C2.out (tcs_set1 _ _ _ _ _)) (tcs 0 r zh (.slice none 0 0)) hs35 (fun j _ => by rw [Nat.zero_add]) ?_)
    | (refine wp_store_agg rfl (.tmp 4) (.tmp 90) 59 35 rfl Tryz.sizeOf59 br 0 rfl _ 59 (hp_ne HBR.out.1 C1.out) (tcs 0 r zh (.slice none 0 0)) rfl hs35 (tcs_one _ _ _ _ _ _) (Nat.le_of_eq (by rw [tcs_size _ _ _ zh32])) (tcs 0 r zh (.slice none 0 0)) (by rw [drop_all (tcs_size _ _ _ zh32 _)]; simp) ?_; intro w4 j4 f4 _)
  exact bodyPost_ret (results_cell_slot Tryz.results10 Tryz.isAgg59 Tryz.sizeOf59 rfl _ rfl j4 hs35) rfl ⟨rfl, (N2.out.setCell _ _ (fun q => by have := HBR.out; simp only at q; omega)).trans f4 (fun k hk q => by have := HBR.out; omega)⟩

set_option maxRecDepth 100000 in
set_option maxHeartbeats 2000000 in
theorem step_2 {w : World} (P er : Value) (R : List UInt8) (hR : R.length = 32) (who kind : Int) (s : ByteArray) (x y z : Nat) (hk1 : -9223372036854775808 ≤ kind) (hk2 : kind ≤ 9223372036854775807) (hkd : kind % 7 = 2) (QF : ∀ W, Nw w W → Calls Tryz.prog 34 #[P, sp x y] W fun e w' => e = .returned (.tuple #[.agg (hbs R), er]) ∧ Nw W w') :
    Calls Tryz.prog 10 #[P, .agg (opc who kind s x y z)] w fun e w' => e = .returned (.tuple #[.agg (tcs 0 ⟨#[]⟩ R (.slice none 0 0)), er]) ∧ Nw w w' := by
  have QR := show Hid (∀ W, Calls Tryz.prog 6 #[.int .i64 kind, .int .i64 7] W fun e w' => e = .returned (.int .i64 2) ∧ w' = W) from fun W => by have q := round_any kind 7 hk1 hk2 (by decide) (by decide) W; rw [hkd] at q; exact q
  have QF' := show Hid (∀ W, Nw w W → Calls Tryz.prog 34 #[P, sp x y] W fun e w' => e = .returned (.tuple #[.agg (hbs R), er]) ∧ Nw W w') from QF
  clear QF
  clear hkd
  go_enter Tryz.func10, Tryz.ntmps10
  go_wp2_with fail
  rw [tz_h]
  refine (QR.out _).mono ?_
  rintro e w1 ⟨rfl, h1⟩
  have b0 : w1.heap[w.heap.size]? = some (.cells (opc who kind s x y z) 53) := by rw [h1]; (repeat first | with_reducible exact heap_new _ _ | with_reducible exact heap_new _ _ | with_reducible exact heap_next _ _ _ | with_reducible exact heap_third _ _ _ _ | with_reducible refine hp_dr ?_ | (with_reducible refine hp_ne ?_ ?_; focus omega) | (with_reducible refine hp_al ?_ ?_; focus (first | omega | (simp <;> omega))) | with_reducible apply hp_set) <;> rfl
  have b1 : w1.heap[w.heap.size + 1]? = some (.cells (tcs 0 ⟨#[]⟩ zh (.slice none 0 0)) 59) := by rw [h1]; (repeat first | with_reducible exact heap_next _ _ _ | with_reducible exact heap_new _ _ | with_reducible exact heap_next _ _ _ | with_reducible exact heap_third _ _ _ _ | with_reducible refine hp_dr ?_ | (with_reducible refine hp_ne ?_ ?_; focus omega) | (with_reducible refine hp_al ?_ ?_; focus (first | omega | (simp <;> omega))) | with_reducible apply hp_set) <;> rfl
  have b2 : w1.heap[w.heap.size + 1 + 1]? = some (.cells (tcs 0 ⟨#[]⟩ zh (.slice none 0 0)) 59) := by rw [h1]; exact heap_third _ _ _ _
  have N1 : Hid (Nw w w1) := by rw [h1]; exact ((nwa w _).alloc _).alloc _
  clear h1
  have o1 := (cell_of b0 1).trans rfl
  have o2 := (cell_of b0 2).trans rfl
  have o3 := (cell_of b0 3).trans rfl
  have o4 := (cell_of b0 4).trans rfl
  have o5 := (cell_of b0 5).trans rfl
  have l0 := heap_lt b0
  obtain ⟨br, hbr⟩ : ∃ br, br = w.heap.size + 1 := ⟨_, rfl⟩
  obtain ⟨bt, hbt⟩ : ∃ bt, bt = w.heap.size + 1 + 1 := ⟨_, rfl⟩
  have HBR : Hid (br ≠ bt ∧ w.heap.size < br ∧ w.heap.size < bt) := ⟨by omega, by omega, by omega⟩
  rw [← hbt] at b2 ⊢
  rw [← hbr] at b1 ⊢
  have B1 : Hid (w1.heap[br]? = some (.cells (tcs 0 ⟨#[]⟩ zh (.slice none 0 0)) 59)) := b1
  have B2 : Hid (w1.heap[bt]? = some (.cells (tcs 0 ⟨#[]⟩ zh (.slice none 0 0)) 59)) := b2
  clear hbr hbt b0 b1 b2
  go_wp2_with fail
  refine (QF'.out _ N1.out).mono ?_
  rintro e w2 ⟨rfl, n2⟩
  have C1 : Hid (w2.heap[br]? = some (.cells (tcs 0 ⟨#[]⟩ zh (.slice none 0 0)) 59)) := (n2.block _ (heap_lt B1.out) (fun f => f)).trans B1.out
  have C2 : Hid (w2.heap[bt]? = some (.cells (tcs 0 ⟨#[]⟩ zh (.slice none 0 0)) 59)) := (n2.block _ (heap_lt B2.out) (fun f => f)).trans B2.out
  have N2 : Hid (Nw w w2) := N1.out.tr n2
  clear n2 B1 B2 o1 o2 o3 o4 o5 l0
  have lr := heap_lt C1.out
  have lt := heap_lt C2.out
  have hs35 : (tcs 0 ⟨#[]⟩ R (.slice none 0 0)).size = 35 := tcs_size _ _ _ hR _
  go_wp2_with first
    | (refine wp_store_agg rfl (.tmp 55) (.tmp 53) 56 32 rfl Tryz.sizeOf56 bt 2 rfl _ 59 C2.out (hbs R) rfl (by rw [hbs_size, hR]) (hbs_one _) (Nat.le_trans (by decide) (Nat.le_of_eq (tcs_size _ _ _ zh32 _).symm)) (tcs 0 ⟨#[]⟩ R (.slice none 0 0)) (tcs_seth _ _ _ _ zh32 hR _) ?_; intro w3 j3 f3 _)
    | (refine wp_load_agg rfl (.tmp 6) 59 35 rfl Tryz.isAgg59 Tryz.sizeOf59 bt 0 rfl _ 59 (0, 0) j3 (tcs 0 ⟨#[]⟩ R (.slice none 0 0)) hs35 (fun j _ => by rw [Nat.zero_add]) ?_)
    | (refine wp_store_agg rfl (.tmp 4) (.tmp 90) 59 35 rfl Tryz.sizeOf59 br 0 rfl _ 59 ((f3.block _ (heap_lt C1.out) HBR.out.1).trans C1.out) (tcs 0 ⟨#[]⟩ R (.slice none 0 0)) rfl hs35 (tcs_one _ _ _ _ _ _) (Nat.le_of_eq (by rw [tcs_size _ _ _ zh32])) (tcs 0 ⟨#[]⟩ R (.slice none 0 0)) (by rw [drop_all (tcs_size _ _ _ zh32 _)]; simp) ?_; intro w4 j4 f4 _)
  exact bodyPost_ret (results_cell_slot Tryz.results10 Tryz.isAgg59 Tryz.sizeOf59 rfl _ rfl j4 hs35) rfl ⟨rfl, (N2.out.trans f3 (fun k hk q => by have := HBR.out; omega)).trans f4 (fun k hk q => by have := HBR.out; omega)⟩

set_option maxRecDepth 100000 in
set_option maxHeartbeats 2000000 in
theorem step_3 {w : World} (P er : Value) (R : List UInt8) (hR : R.length = 32) (who kind : Int) (s : ByteArray) (x y z : Nat) (hk1 : -9223372036854775808 ≤ kind) (hk2 : kind ≤ 9223372036854775807) (hkd : kind % 7 = 3) (QF : ∀ W, Nw w W → Calls Tryz.prog 16 #[P, .int .u64 (x : Int)] W fun e w' => e = .returned (.tuple #[.agg (hbs R), er]) ∧ Nw W w') :
    Calls Tryz.prog 10 #[P, .agg (opc who kind s x y z)] w fun e w' => e = .returned (.tuple #[.agg (tcs 0 ⟨#[]⟩ R (.slice none 0 0)), er]) ∧ Nw w w' := by
  have QR := show Hid (∀ W, Calls Tryz.prog 6 #[.int .i64 kind, .int .i64 7] W fun e w' => e = .returned (.int .i64 3) ∧ w' = W) from fun W => by have q := round_any kind 7 hk1 hk2 (by decide) (by decide) W; rw [hkd] at q; exact q
  have QF' := show Hid (∀ W, Nw w W → Calls Tryz.prog 16 #[P, .int .u64 (x : Int)] W fun e w' => e = .returned (.tuple #[.agg (hbs R), er]) ∧ Nw W w') from QF
  clear QF
  clear hkd
  go_enter Tryz.func10, Tryz.ntmps10
  go_wp2_with fail
  rw [tz_h]
  refine (QR.out _).mono ?_
  rintro e w1 ⟨rfl, h1⟩
  have b0 : w1.heap[w.heap.size]? = some (.cells (opc who kind s x y z) 53) := by rw [h1]; (repeat first | with_reducible exact heap_new _ _ | with_reducible exact heap_new _ _ | with_reducible exact heap_next _ _ _ | with_reducible exact heap_third _ _ _ _ | with_reducible refine hp_dr ?_ | (with_reducible refine hp_ne ?_ ?_; focus omega) | (with_reducible refine hp_al ?_ ?_; focus (first | omega | (simp <;> omega))) | with_reducible apply hp_set) <;> rfl
  have b1 : w1.heap[w.heap.size + 1]? = some (.cells (tcs 0 ⟨#[]⟩ zh (.slice none 0 0)) 59) := by rw [h1]; (repeat first | with_reducible exact heap_next _ _ _ | with_reducible exact heap_new _ _ | with_reducible exact heap_next _ _ _ | with_reducible exact heap_third _ _ _ _ | with_reducible refine hp_dr ?_ | (with_reducible refine hp_ne ?_ ?_; focus omega) | (with_reducible refine hp_al ?_ ?_; focus (first | omega | (simp <;> omega))) | with_reducible apply hp_set) <;> rfl
  have b2 : w1.heap[w.heap.size + 1 + 1]? = some (.cells (tcs 0 ⟨#[]⟩ zh (.slice none 0 0)) 59) := by rw [h1]; exact heap_third _ _ _ _
  have N1 : Hid (Nw w w1) := by rw [h1]; exact ((nwa w _).alloc _).alloc _
  clear h1
  have o1 := (cell_of b0 1).trans rfl
  have o2 := (cell_of b0 2).trans rfl
  have o3 := (cell_of b0 3).trans rfl
  have o4 := (cell_of b0 4).trans rfl
  have o5 := (cell_of b0 5).trans rfl
  have l0 := heap_lt b0
  obtain ⟨br, hbr⟩ : ∃ br, br = w.heap.size + 1 := ⟨_, rfl⟩
  obtain ⟨bt, hbt⟩ : ∃ bt, bt = w.heap.size + 1 + 1 := ⟨_, rfl⟩
  have HBR : Hid (br ≠ bt ∧ w.heap.size < br ∧ w.heap.size < bt) := ⟨by omega, by omega, by omega⟩
  rw [← hbt] at b2 ⊢
  rw [← hbr] at b1 ⊢
  have B1 : Hid (w1.heap[br]? = some (.cells (tcs 0 ⟨#[]⟩ zh (.slice none 0 0)) 59)) := b1
  have B2 : Hid (w1.heap[bt]? = some (.cells (tcs 0 ⟨#[]⟩ zh (.slice none 0 0)) 59)) := b2
  clear hbr hbt b0 b1 b2
  go_wp2_with fail
  refine (QF'.out _ N1.out).mono ?_
  rintro e w2 ⟨rfl, n2⟩
  have C1 : Hid (w2.heap[br]? = some (.cells (tcs 0 ⟨#[]⟩ zh (.slice none 0 0)) 59)) := (n2.block _ (heap_lt B1.out) (fun f => f)).trans B1.out
  have C2 : Hid (w2.heap[bt]? = some (.cells (tcs 0 ⟨#[]⟩ zh (.slice none 0 0)) 59)) := (n2.block _ (heap_lt B2.out) (fun f => f)).trans B2.out
  have N2 : Hid (Nw w w2) := N1.out.tr n2
  clear n2 B1 B2 o1 o2 o3 o4 o5 l0
  have lr := heap_lt C1.out
  have lt := heap_lt C2.out
  have hs35 : (tcs 0 ⟨#[]⟩ R (.slice none 0 0)).size = 35 := tcs_size _ _ _ hR _
  go_wp2_with first
    | (refine wp_store_agg rfl (.tmp 65) (.tmp 63) 56 32 rfl Tryz.sizeOf56 bt 2 rfl _ 59 C2.out (hbs R) rfl (by rw [hbs_size, hR]) (hbs_one _) (Nat.le_trans (by decide) (Nat.le_of_eq (tcs_size _ _ _ zh32 _).symm)) (tcs 0 ⟨#[]⟩ R (.slice none 0 0)) (tcs_seth _ _ _ _ zh32 hR _) ?_; intro w3 j3 f3 _)
    | (refine wp_load_agg rfl (.tmp 6) 59 35 rfl Tryz.isAgg59 Tryz.sizeOf59 bt 0 rfl _ 59 (0, 0) j3 (tcs 0 ⟨#[]⟩ R (.slice none 0 0)) hs35 (fun j _ => by rw [Nat.zero_add]) ?_)
    | (refine wp_store_agg rfl (.tmp 4) (.tmp 90) 59 35 rfl Tryz.sizeOf59 br 0 rfl _ 59 ((f3.block _ (heap_lt C1.out) HBR.out.1).trans C1.out) (tcs 0 ⟨#[]⟩ R (.slice none 0 0)) rfl hs35 (tcs_one _ _ _ _ _ _) (Nat.le_of_eq (by rw [tcs_size _ _ _ zh32])) (tcs 0 ⟨#[]⟩ R (.slice none 0 0)) (by rw [drop_all (tcs_size _ _ _ zh32 _)]; simp) ?_; intro w4 j4 f4 _)
  exact bodyPost_ret (results_cell_slot Tryz.results10 Tryz.isAgg59 Tryz.sizeOf59 rfl _ rfl j4 hs35) rfl ⟨rfl, (N2.out.trans f3 (fun k hk q => by have := HBR.out; omega)).trans f4 (fun k hk q => by have := HBR.out; omega)⟩

set_option maxRecDepth 100000 in
set_option maxHeartbeats 2000000 in
theorem step_4 {w : World} (P er : Value) (l : List (List UInt8)) (who kind : Int) (s : ByteArray) (x y z : Nat) (hk1 : -9223372036854775808 ≤ kind) (hk2 : kind ≤ 9223372036854775807) (hkd : kind % 7 = 4) (QF : ∀ W, Nw w W → Calls Tryz.prog 35 #[P, .int .u64 (x : Int), .int .u64 (y : Int)] W fun e w' => ∃ u, e = .returned (.tuple #[u, er]) ∧ w'.ownsRow W.heap.size 56 32 u l.length (hsc l) ∧ Nw W w') :
    Calls Tryz.prog 10 #[P, .agg (opc who kind s x y z)] w fun e w' => ∃ u, e = .returned (.tuple #[.agg (tcs 0 ⟨#[]⟩ zh u), er]) ∧ w'.ownsRow w.heap.size 56 32 u l.length (hsc l) ∧ Nw w w' := by
  have QR := show Hid (∀ W, Calls Tryz.prog 6 #[.int .i64 kind, .int .i64 7] W fun e w' => e = .returned (.int .i64 4) ∧ w' = W) from fun W => by have q := round_any kind 7 hk1 hk2 (by decide) (by decide) W; rw [hkd] at q; exact q
  have QF' := show Hid (∀ W, Nw w W → Calls Tryz.prog 35 #[P, .int .u64 (x : Int), .int .u64 (y : Int)] W fun e w' => ∃ u, e = .returned (.tuple #[u, er]) ∧ w'.ownsRow W.heap.size 56 32 u l.length (hsc l) ∧ Nw W w') from QF
  clear QF
  clear hkd
  go_enter Tryz.func10, Tryz.ntmps10
  go_wp2_with fail
  rw [tz_h]
  refine (QR.out _).mono ?_
  rintro e w1 ⟨rfl, h1⟩
  have b0 : w1.heap[w.heap.size]? = some (.cells (opc who kind s x y z) 53) := by rw [h1]; (repeat first | with_reducible exact heap_new _ _ | with_reducible exact heap_new _ _ | with_reducible exact heap_next _ _ _ | with_reducible exact heap_third _ _ _ _ | with_reducible refine hp_dr ?_ | (with_reducible refine hp_ne ?_ ?_; focus omega) | (with_reducible refine hp_al ?_ ?_; focus (first | omega | (simp <;> omega))) | with_reducible apply hp_set) <;> rfl
  have b1 : w1.heap[w.heap.size + 1]? = some (.cells (tcs 0 ⟨#[]⟩ zh (.slice none 0 0)) 59) := by rw [h1]; (repeat first | with_reducible exact heap_next _ _ _ | with_reducible exact heap_new _ _ | with_reducible exact heap_next _ _ _ | with_reducible exact heap_third _ _ _ _ | with_reducible refine hp_dr ?_ | (with_reducible refine hp_ne ?_ ?_; focus omega) | (with_reducible refine hp_al ?_ ?_; focus (first | omega | (simp <;> omega))) | with_reducible apply hp_set) <;> rfl
  have b2 : w1.heap[w.heap.size + 1 + 1]? = some (.cells (tcs 0 ⟨#[]⟩ zh (.slice none 0 0)) 59) := by rw [h1]; exact heap_third _ _ _ _
  have N1 : Hid (Nw w w1) := by rw [h1]; exact ((nwa w _).alloc _).alloc _
  clear h1
  have o1 := (cell_of b0 1).trans rfl
  have o2 := (cell_of b0 2).trans rfl
  have o3 := (cell_of b0 3).trans rfl
  have o4 := (cell_of b0 4).trans rfl
  have o5 := (cell_of b0 5).trans rfl
  have l0 := heap_lt b0
  obtain ⟨br, hbr⟩ : ∃ br, br = w.heap.size + 1 := ⟨_, rfl⟩
  obtain ⟨bt, hbt⟩ : ∃ bt, bt = w.heap.size + 1 + 1 := ⟨_, rfl⟩
  have HBR : Hid (br ≠ bt ∧ w.heap.size < br ∧ w.heap.size < bt) := ⟨by omega, by omega, by omega⟩
  rw [← hbt] at b2 ⊢
  rw [← hbr] at b1 ⊢
  have B1 : Hid (w1.heap[br]? = some (.cells (tcs 0 ⟨#[]⟩ zh (.slice none 0 0)) 59)) := b1
  have B2 : Hid (w1.heap[bt]? = some (.cells (tcs 0 ⟨#[]⟩ zh (.slice none 0 0)) 59)) := b2
  clear hbr hbt b0 b1 b2
  go_wp2_with fail
  refine (QF'.out _ N1.out).mono ?_
  rintro e w2 ⟨u, rfl, ou, n2⟩
  have C1 : Hid (w2.heap[br]? = some (.cells (tcs 0 ⟨#[]⟩ zh (.slice none 0 0)) 59)) := (n2.block _ (heap_lt B1.out) (fun f => f)).trans B1.out
  have C2 : Hid (w2.heap[bt]? = some (.cells (tcs 0 ⟨#[]⟩ zh (.slice none 0 0)) 59)) := (n2.block _ (heap_lt B2.out) (fun f => f)).trans B2.out
  have N2 : Hid (Nw w w2) := N1.out.tr n2
  have O2 : Hid (w2.ownsRow w.heap.size 56 32 u l.length (hsc l)) := ownsRow_base ou N1.out.size
  have GU : Hid (∀ g, u.ownBlock = some g → g ≠ br ∧ g ≠ bt) := fun g hg => by have h1 := (ou.lt g hg).1; have h2 := heap_lt B1.out; have h3 := heap_lt B2.out; omega
  obtain ⟨ua, uc, rfl⟩ := ownsRow_form ou
  clear ou n2 B1 B2 o1 o2 o3 o4 o5 l0
  have lr := heap_lt C1.out
  have lt := heap_lt C2.out
  have c2 := (cell_of C2.out 34).trans (tcs_34 _ _ _ zh32 _)
  have f2 := frozen_of C2.out 34
  have hs35 : (tcs 0 ⟨#[]⟩ zh (.slice ua l.length uc)).size = 35 := tcs_size _ _ _ zh32 _
  go_wp2_with first
    | (refine wp_load_agg rfl (.tmp 6) 59 35 rfl Tryz.isAgg59 Tryz.sizeOf59 bt 0 rfl _ 59 (0, 0) (hp_set C2.out (tcs_set34 _ _ _ zh32 _ _)) (tcs 0 ⟨#[]⟩ zh (.slice ua l.length uc)) hs35 (fun j _ => by rw [Nat.zero_add]) ?_)
    | (refine wp_store_agg rfl (.tmp 4) (.tmp 90) 59 35 rfl Tryz.sizeOf59 br 0 rfl _ 59 (hp_ne HBR.out.1 C1.out) (tcs 0 ⟨#[]⟩ zh (.slice ua l.length uc)) rfl hs35 (tcs_one _ _ _ _ _ _) (Nat.le_of_eq (by rw [tcs_size _ _ _ zh32])) (tcs 0 ⟨#[]⟩ zh (.slice ua l.length uc)) (by rw [drop_all (tcs_size _ _ _ zh32 _)]; simp) ?_; intro w4 j4 f4 _)
  exact bodyPost_ret (results_cell_slot Tryz.results10 Tryz.isAgg59 Tryz.sizeOf59 rfl _ rfl j4 hs35) rfl ⟨_, rfl, ownsRow_keep (ownsRow_setCell_other O2.out (fun q => (GU.out _ q).2 rfl) _) (fun g hg => f4.block g (by simp only [World.setCell, Array.size_modify]; exact (O2.out.lt g hg).2) (GU.out g hg).1), (N2.out.setCell _ _ (fun q => by have := HBR.out; simp only at q; omega)).trans f4 (fun k hk q => by have := HBR.out; omega)⟩

set_option maxRecDepth 100000 in
set_option maxHeartbeats 2000000 in
theorem step_5 {w : World} (P er : Value) (l : List (List UInt8)) (who kind : Int) (s : ByteArray) (x y z : Nat) (hk1 : -9223372036854775808 ≤ kind) (hk2 : kind ≤ 9223372036854775807) (hkd : kind % 7 = 5) (QF : ∀ W, Nw w W → Calls Tryz.prog 36 #[P, .int .u64 (x : Int), .int .u64 (y : Int)] W fun e w' => ∃ u, e = .returned (.tuple #[u, er]) ∧ w'.ownsRow W.heap.size 56 32 u l.length (hsc l) ∧ Nw W w') :
    Calls Tryz.prog 10 #[P, .agg (opc who kind s x y z)] w fun e w' => ∃ u, e = .returned (.tuple #[.agg (tcs 0 ⟨#[]⟩ zh u), er]) ∧ w'.ownsRow w.heap.size 56 32 u l.length (hsc l) ∧ Nw w w' := by
  have QR := show Hid (∀ W, Calls Tryz.prog 6 #[.int .i64 kind, .int .i64 7] W fun e w' => e = .returned (.int .i64 5) ∧ w' = W) from fun W => by have q := round_any kind 7 hk1 hk2 (by decide) (by decide) W; rw [hkd] at q; exact q
  have QF' := show Hid (∀ W, Nw w W → Calls Tryz.prog 36 #[P, .int .u64 (x : Int), .int .u64 (y : Int)] W fun e w' => ∃ u, e = .returned (.tuple #[u, er]) ∧ w'.ownsRow W.heap.size 56 32 u l.length (hsc l) ∧ Nw W w') from QF
  clear QF
  clear hkd
  go_enter Tryz.func10, Tryz.ntmps10
  go_wp2_with fail
  rw [tz_h]
  refine (QR.out _).mono ?_
  rintro e w1 ⟨rfl, h1⟩
  have b0 : w1.heap[w.heap.size]? = some (.cells (opc who kind s x y z) 53) := by rw [h1]; (repeat first | with_reducible exact heap_new _ _ | with_reducible exact heap_new _ _ | with_reducible exact heap_next _ _ _ | with_reducible exact heap_third _ _ _ _ | with_reducible refine hp_dr ?_ | (with_reducible refine hp_ne ?_ ?_; focus omega) | (with_reducible refine hp_al ?_ ?_; focus (first | omega | (simp <;> omega))) | with_reducible apply hp_set) <;> rfl
  have b1 : w1.heap[w.heap.size + 1]? = some (.cells (tcs 0 ⟨#[]⟩ zh (.slice none 0 0)) 59) := by rw [h1]; (repeat first | with_reducible exact heap_next _ _ _ | with_reducible exact heap_new _ _ | with_reducible exact heap_next _ _ _ | with_reducible exact heap_third _ _ _ _ | with_reducible refine hp_dr ?_ | (with_reducible refine hp_ne ?_ ?_; focus omega) | (with_reducible refine hp_al ?_ ?_; focus (first | omega | (simp <;> omega))) | with_reducible apply hp_set) <;> rfl
  have b2 : w1.heap[w.heap.size + 1 + 1]? = some (.cells (tcs 0 ⟨#[]⟩ zh (.slice none 0 0)) 59) := by rw [h1]; exact heap_third _ _ _ _
  have N1 : Hid (Nw w w1) := by rw [h1]; exact ((nwa w _).alloc _).alloc _
  clear h1
  have o1 := (cell_of b0 1).trans rfl
  have o2 := (cell_of b0 2).trans rfl
  have o3 := (cell_of b0 3).trans rfl
  have o4 := (cell_of b0 4).trans rfl
  have o5 := (cell_of b0 5).trans rfl
  have l0 := heap_lt b0
  obtain ⟨br, hbr⟩ : ∃ br, br = w.heap.size + 1 := ⟨_, rfl⟩
  obtain ⟨bt, hbt⟩ : ∃ bt, bt = w.heap.size + 1 + 1 := ⟨_, rfl⟩
  have HBR : Hid (br ≠ bt ∧ w.heap.size < br ∧ w.heap.size < bt) := ⟨by omega, by omega, by omega⟩
  rw [← hbt] at b2 ⊢
  rw [← hbr] at b1 ⊢
  have B1 : Hid (w1.heap[br]? = some (.cells (tcs 0 ⟨#[]⟩ zh (.slice none 0 0)) 59)) := b1
  have B2 : Hid (w1.heap[bt]? = some (.cells (tcs 0 ⟨#[]⟩ zh (.slice none 0 0)) 59)) := b2
  clear hbr hbt b0 b1 b2
  go_wp2_with fail
  refine (QF'.out _ N1.out).mono ?_
  rintro e w2 ⟨u, rfl, ou, n2⟩
  have C1 : Hid (w2.heap[br]? = some (.cells (tcs 0 ⟨#[]⟩ zh (.slice none 0 0)) 59)) := (n2.block _ (heap_lt B1.out) (fun f => f)).trans B1.out
  have C2 : Hid (w2.heap[bt]? = some (.cells (tcs 0 ⟨#[]⟩ zh (.slice none 0 0)) 59)) := (n2.block _ (heap_lt B2.out) (fun f => f)).trans B2.out
  have N2 : Hid (Nw w w2) := N1.out.tr n2
  have O2 : Hid (w2.ownsRow w.heap.size 56 32 u l.length (hsc l)) := ownsRow_base ou N1.out.size
  have GU : Hid (∀ g, u.ownBlock = some g → g ≠ br ∧ g ≠ bt) := fun g hg => by have h1 := (ou.lt g hg).1; have h2 := heap_lt B1.out; have h3 := heap_lt B2.out; omega
  obtain ⟨ua, uc, rfl⟩ := ownsRow_form ou
  clear ou n2 B1 B2 o1 o2 o3 o4 o5 l0
  have lr := heap_lt C1.out
  have lt := heap_lt C2.out
  have c2 := (cell_of C2.out 34).trans (tcs_34 _ _ _ zh32 _)
  have f2 := frozen_of C2.out 34
  have hs35 : (tcs 0 ⟨#[]⟩ zh (.slice ua l.length uc)).size = 35 := tcs_size _ _ _ zh32 _
  go_wp2_with first
    | (refine wp_load_agg rfl (.tmp 6) 59 35 rfl Tryz.isAgg59 Tryz.sizeOf59 bt 0 rfl _ 59 (0, 0) (hp_set C2.out (tcs_set34 _ _ _ zh32 _ _)) (tcs 0 ⟨#[]⟩ zh (.slice ua l.length uc)) hs35 (fun j _ => by rw [Nat.zero_add]) ?_)
    | (refine wp_store_agg rfl (.tmp 4) (.tmp 90) 59 35 rfl Tryz.sizeOf59 br 0 rfl _ 59 (hp_ne HBR.out.1 C1.out) (tcs 0 ⟨#[]⟩ zh (.slice ua l.length uc)) rfl hs35 (tcs_one _ _ _ _ _ _) (Nat.le_of_eq (by rw [tcs_size _ _ _ zh32])) (tcs 0 ⟨#[]⟩ zh (.slice ua l.length uc)) (by rw [drop_all (tcs_size _ _ _ zh32 _)]; simp) ?_; intro w4 j4 f4 _)
  exact bodyPost_ret (results_cell_slot Tryz.results10 Tryz.isAgg59 Tryz.sizeOf59 rfl _ rfl j4 hs35) rfl ⟨_, rfl, ownsRow_keep (ownsRow_setCell_other O2.out (fun q => (GU.out _ q).2 rfl) _) (fun g hg => f4.block g (by simp only [World.setCell, Array.size_modify]; exact (O2.out.lt g hg).2) (GU.out g hg).1), (N2.out.setCell _ _ (fun q => by have := HBR.out; simp only at q; omega)).trans f4 (fun k hk q => by have := HBR.out; omega)⟩

set_option maxRecDepth 100000 in
set_option maxHeartbeats 2000000 in
theorem step_6 {w : World} (P er : Value) (l : List (List UInt8)) (who kind : Int) (s : ByteArray) (x y z : Nat) (hk1 : -9223372036854775808 ≤ kind) (hk2 : kind ≤ 9223372036854775807) (hkd : kind % 7 = 6) (QF : ∀ W, Nw w W → Calls Tryz.prog 37 #[P, .int .u64 (x : Int), .int .u64 (y : Int), .int .u64 (z : Int)] W fun e w' => ∃ u, e = .returned (.tuple #[u, er]) ∧ w'.ownsRow W.heap.size 56 32 u l.length (hsc l) ∧ Nw W w') :
    Calls Tryz.prog 10 #[P, .agg (opc who kind s x y z)] w fun e w' => ∃ u, e = .returned (.tuple #[.agg (tcs 0 ⟨#[]⟩ zh u), er]) ∧ w'.ownsRow w.heap.size 56 32 u l.length (hsc l) ∧ Nw w w' := by
  have QR := show Hid (∀ W, Calls Tryz.prog 6 #[.int .i64 kind, .int .i64 7] W fun e w' => e = .returned (.int .i64 6) ∧ w' = W) from fun W => by have q := round_any kind 7 hk1 hk2 (by decide) (by decide) W; rw [hkd] at q; exact q
  have QF' := show Hid (∀ W, Nw w W → Calls Tryz.prog 37 #[P, .int .u64 (x : Int), .int .u64 (y : Int), .int .u64 (z : Int)] W fun e w' => ∃ u, e = .returned (.tuple #[u, er]) ∧ w'.ownsRow W.heap.size 56 32 u l.length (hsc l) ∧ Nw W w') from QF
  clear QF
  clear hkd
  go_enter Tryz.func10, Tryz.ntmps10
  go_wp2_with fail
  rw [tz_h]
  refine (QR.out _).mono ?_
  rintro e w1 ⟨rfl, h1⟩
  have b0 : w1.heap[w.heap.size]? = some (.cells (opc who kind s x y z) 53) := by rw [h1]; (repeat first | with_reducible exact heap_new _ _ | with_reducible exact heap_new _ _ | with_reducible exact heap_next _ _ _ | with_reducible exact heap_third _ _ _ _ | with_reducible refine hp_dr ?_ | (with_reducible refine hp_ne ?_ ?_; focus omega) | (with_reducible refine hp_al ?_ ?_; focus (first | omega | (simp <;> omega))) | with_reducible apply hp_set) <;> rfl
  have b1 : w1.heap[w.heap.size + 1]? = some (.cells (tcs 0 ⟨#[]⟩ zh (.slice none 0 0)) 59) := by rw [h1]; (repeat first | with_reducible exact heap_next _ _ _ | with_reducible exact heap_new _ _ | with_reducible exact heap_next _ _ _ | with_reducible exact heap_third _ _ _ _ | with_reducible refine hp_dr ?_ | (with_reducible refine hp_ne ?_ ?_; focus omega) | (with_reducible refine hp_al ?_ ?_; focus (first | omega | (simp <;> omega))) | with_reducible apply hp_set) <;> rfl
  have b2 : w1.heap[w.heap.size + 1 + 1]? = some (.cells (tcs 0 ⟨#[]⟩ zh (.slice none 0 0)) 59) := by rw [h1]; exact heap_third _ _ _ _
  have N1 : Hid (Nw w w1) := by rw [h1]; exact ((nwa w _).alloc _).alloc _
  clear h1
  have o1 := (cell_of b0 1).trans rfl
  have o2 := (cell_of b0 2).trans rfl
  have o3 := (cell_of b0 3).trans rfl
  have o4 := (cell_of b0 4).trans rfl
  have o5 := (cell_of b0 5).trans rfl
  have l0 := heap_lt b0
  obtain ⟨br, hbr⟩ : ∃ br, br = w.heap.size + 1 := ⟨_, rfl⟩
  obtain ⟨bt, hbt⟩ : ∃ bt, bt = w.heap.size + 1 + 1 := ⟨_, rfl⟩
  have HBR : Hid (br ≠ bt ∧ w.heap.size < br ∧ w.heap.size < bt) := ⟨by omega, by omega, by omega⟩
  rw [← hbt] at b2 ⊢
  rw [← hbr] at b1 ⊢
  have B1 : Hid (w1.heap[br]? = some (.cells (tcs 0 ⟨#[]⟩ zh (.slice none 0 0)) 59)) := b1
  have B2 : Hid (w1.heap[bt]? = some (.cells (tcs 0 ⟨#[]⟩ zh (.slice none 0 0)) 59)) := b2
  clear hbr hbt b0 b1 b2
  go_wp2_with fail
  refine (QF'.out _ N1.out).mono ?_
  rintro e w2 ⟨u, rfl, ou, n2⟩
  have C1 : Hid (w2.heap[br]? = some (.cells (tcs 0 ⟨#[]⟩ zh (.slice none 0 0)) 59)) := (n2.block _ (heap_lt B1.out) (fun f => f)).trans B1.out
  have C2 : Hid (w2.heap[bt]? = some (.cells (tcs 0 ⟨#[]⟩ zh (.slice none 0 0)) 59)) := (n2.block _ (heap_lt B2.out) (fun f => f)).trans B2.out
  have N2 : Hid (Nw w w2) := N1.out.tr n2
  have O2 : Hid (w2.ownsRow w.heap.size 56 32 u l.length (hsc l)) := ownsRow_base ou N1.out.size
  have GU : Hid (∀ g, u.ownBlock = some g → g ≠ br ∧ g ≠ bt) := fun g hg => by have h1 := (ou.lt g hg).1; have h2 := heap_lt B1.out; have h3 := heap_lt B2.out; omega
  obtain ⟨ua, uc, rfl⟩ := ownsRow_form ou
  clear ou n2 B1 B2 o1 o2 o3 o4 o5 l0
  have lr := heap_lt C1.out
  have lt := heap_lt C2.out
  have c2 := (cell_of C2.out 34).trans (tcs_34 _ _ _ zh32 _)
  have f2 := frozen_of C2.out 34
  have hs35 : (tcs 0 ⟨#[]⟩ zh (.slice ua l.length uc)).size = 35 := tcs_size _ _ _ zh32 _
  go_wp2_with first
    | (refine wp_load_agg rfl (.tmp 6) 59 35 rfl Tryz.isAgg59 Tryz.sizeOf59 bt 0 rfl _ 59 (0, 0) (hp_set C2.out (tcs_set34 _ _ _ zh32 _ _)) (tcs 0 ⟨#[]⟩ zh (.slice ua l.length uc)) hs35 (fun j _ => by rw [Nat.zero_add]) ?_)
    | (refine wp_store_agg rfl (.tmp 4) (.tmp 90) 59 35 rfl Tryz.sizeOf59 br 0 rfl _ 59 (hp_ne HBR.out.1 C1.out) (tcs 0 ⟨#[]⟩ zh (.slice ua l.length uc)) rfl hs35 (tcs_one _ _ _ _ _ _) (Nat.le_of_eq (by rw [tcs_size _ _ _ zh32])) (tcs 0 ⟨#[]⟩ zh (.slice ua l.length uc)) (by rw [drop_all (tcs_size _ _ _ zh32 _)]; simp) ?_; intro w4 j4 f4 _)
  exact bodyPost_ret (results_cell_slot Tryz.results10 Tryz.isAgg59 Tryz.sizeOf59 rfl _ rfl j4 hs35) rfl ⟨_, rfl, ownsRow_keep (ownsRow_setCell_other O2.out (fun q => (GU.out _ q).2 rfl) _) (fun g hg => f4.block g (by simp only [World.setCell, Array.size_modify]; exact (O2.out.lt g hg).2) (GU.out g hg).1), (N2.out.setCell _ _ (fun q => by have := HBR.out; simp only at q; omega)).trans f4 (fun k hk q => by have := HBR.out; omega)⟩

set_option maxRecDepth 100000 in
set_option maxHeartbeats 2000000 in
theorem step_app {w : World} (P er : Value) (m : Nat) (S : Nat → Prop) (G : World → World → Prop) (hSlt : ∀ k, S k → k < w.heap.size) (hG : ∀ W A B : World, Nw w W → G W A → ∀ T : Nat → Prop, Fr T A B → (∀ k, T k → w.heap.size ≤ k) → (∀ k, T k → k < W.heap.size) → G W B) (who kind : Int) (s : ByteArray) (x y z : Nat) (hk1 : -9223372036854775808 ≤ kind) (hk2 : kind ≤ 9223372036854775807) (hkd : kind % 7 = 0) (QF : ∀ W, Nw w W → Calls Tryz.prog 32 #[P, .string s] W fun e w' => e = .returned (.tuple #[.int .u64 (m : Int), er]) ∧ G W w' ∧ Fr S W w') :
    Calls Tryz.prog 10 #[P, .agg (opc who kind s x y z)] w fun e w' => e = .returned (.tuple #[.agg (tcs (m : Int) ⟨#[]⟩ zh (.slice none 0 0)), er]) ∧ (∃ W, Nw w W ∧ G W w') ∧ Fr S w w' := by
  have QR := show Hid (∀ W, Calls Tryz.prog 6 #[.int .i64 kind, .int .i64 7] W fun e w' => e = .returned (.int .i64 0) ∧ w' = W) from fun W => by have q := round_any kind 7 hk1 hk2 (by decide) (by decide) W; rw [hkd] at q; exact q
  have QF' := show Hid (∀ W, Nw w W → Calls Tryz.prog 32 #[P, .string s] W fun e w' => e = .returned (.tuple #[.int .u64 (m : Int), er]) ∧ G W w' ∧ Fr S W w') from QF
  clear QF
  clear hkd
  go_enter Tryz.func10, Tryz.ntmps10
  go_wp2_with fail
  rw [tz_h]
  refine (QR.out _).mono ?_
  rintro e w1 ⟨rfl, h1⟩
  have b0 : w1.heap[w.heap.size]? = some (.cells (opc who kind s x y z) 53) := by rw [h1]; (repeat first | with_reducible exact heap_new _ _ | with_reducible exact heap_new _ _ | with_reducible exact heap_next _ _ _ | with_reducible exact heap_third _ _ _ _ | with_reducible refine hp_dr ?_ | (with_reducible refine hp_ne ?_ ?_; focus omega) | (with_reducible refine hp_al ?_ ?_; focus (first | omega | (simp <;> omega))) | with_reducible apply hp_set) <;> rfl
  have b1 : w1.heap[w.heap.size + 1]? = some (.cells (tcs 0 ⟨#[]⟩ zh (.slice none 0 0)) 59) := by rw [h1]; (repeat first | with_reducible exact heap_next _ _ _ | with_reducible exact heap_new _ _ | with_reducible exact heap_next _ _ _ | with_reducible exact heap_third _ _ _ _ | with_reducible refine hp_dr ?_ | (with_reducible refine hp_ne ?_ ?_; focus omega) | (with_reducible refine hp_al ?_ ?_; focus (first | omega | (simp <;> omega))) | with_reducible apply hp_set) <;> rfl
  have b2 : w1.heap[w.heap.size + 1 + 1]? = some (.cells (tcs 0 ⟨#[]⟩ zh (.slice none 0 0)) 59) := by rw [h1]; exact heap_third _ _ _ _
  have N1 : Hid (Nw w w1) := by rw [h1]; exact ((nwa w _).alloc _).alloc _
  clear h1
  have o1 := (cell_of b0 1).trans rfl
  have o2 := (cell_of b0 2).trans rfl
  have o3 := (cell_of b0 3).trans rfl
  have o4 := (cell_of b0 4).trans rfl
  have o5 := (cell_of b0 5).trans rfl
  have l0 := heap_lt b0
  obtain ⟨br, hbr⟩ : ∃ br, br = w.heap.size + 1 := ⟨_, rfl⟩
  obtain ⟨bt, hbt⟩ : ∃ bt, bt = w.heap.size + 1 + 1 := ⟨_, rfl⟩
  have HBR : Hid (br ≠ bt ∧ w.heap.size < br ∧ w.heap.size < bt) := ⟨by omega, by omega, by omega⟩
  rw [← hbt] at b2 ⊢
  rw [← hbr] at b1 ⊢
  have B1 : Hid (w1.heap[br]? = some (.cells (tcs 0 ⟨#[]⟩ zh (.slice none 0 0)) 59)) := b1
  have B2 : Hid (w1.heap[bt]? = some (.cells (tcs 0 ⟨#[]⟩ zh (.slice none 0 0)) 59)) := b2
  clear hbr hbt b0 b1 b2
  go_wp2_with fail
  refine (QF'.out _ N1.out).mono ?_
  rintro e w2 ⟨rfl, g2, n2⟩
  have C1 : Hid (w2.heap[br]? = some (.cells (tcs 0 ⟨#[]⟩ zh (.slice none 0 0)) 59)) := (n2.block _ (heap_lt B1.out) (fun q => by have := hSlt _ q; have := HBR.out; omega)).trans B1.out
  have C2 : Hid (w2.heap[bt]? = some (.cells (tcs 0 ⟨#[]⟩ zh (.slice none 0 0)) 59)) := (n2.block _ (heap_lt B2.out) (fun q => by have := hSlt _ q; have := HBR.out; omega)).trans B2.out
  have N2 : Hid (Fr S w w2) := (N1.out.mono (fun _ _ f => f.elim)).trans n2 (fun _ _ q => q)
  have G2 : Hid (G w1 w2) := g2
  have LB : Hid (br < w1.heap.size ∧ bt < w1.heap.size) := ⟨heap_lt B1.out, heap_lt B2.out⟩
  clear g2 n2 B1 B2 o1 o2 o3 o4 o5 l0
  have lr := heap_lt C1.out
  have lt := heap_lt C2.out
  have c2 := (cell_of C2.out 0).trans (tcs_0 _ _ _ _)
  have f2 := frozen_of C2.out 0
  have hs35 : (tcs (m : Int) ⟨#[]⟩ zh (.slice none 0 0)).size = 35 := tcs_size _ _ _ zh32 _
  go_wp2_with first
    | (refine wp_load_agg rfl (.tmp 6) 59 35 rfl Tryz.isAgg59 Tryz.sizeOf59 bt 0 rfl _ 59 (0, 0) (hp_set C2.out (tcs_set0 _ _ _ _ _)) (tcs (m : Int) ⟨#[]⟩ zh (.slice none 0 0)) hs35 (fun j _ => by rw [Nat.zero_add]) ?_)
    | (refine wp_store_agg rfl (.tmp 4) (.tmp 90) 59 35 rfl Tryz.sizeOf59 br 0 rfl _ 59 (hp_ne HBR.out.1 C1.out) (tcs (m : Int) ⟨#[]⟩ zh (.slice none 0 0)) rfl hs35 (tcs_one _ _ _ _ _ _) (Nat.le_of_eq (by rw [tcs_size _ _ _ zh32])) (tcs (m : Int) ⟨#[]⟩ zh (.slice none 0 0)) (by rw [drop_all (tcs_size _ _ _ zh32 _)]; simp) ?_; intro w4 j4 f4 _)
  exact bodyPost_ret (results_cell_slot Tryz.results10 Tryz.isAgg59 Tryz.sizeOf59 rfl _ rfl j4 hs35) rfl ⟨rfl, ⟨w1, N1.out, hG w1 w2 w4 N1.out G2.out (fun k => k = bt ∨ k = br) ((Fr.setCell (S := fun k => k = bt ∨ k = br) (Fr.refl _ w2) ⟨bt, 0, none⟩ _ (fun _ => .inl rfl)).trans f4 (fun _ _ q => .inr q)) (fun k q => by have := HBR.out; omega) (fun k q => by have := LB.out; omega)⟩, (N2.out.setCell _ _ (fun q => (by have := HBR.out; simp only at q; omega : False).elim)).trans f4 (fun k hk q => (by have := HBR.out; omega : False).elim)⟩
end Go.Proofs.YtdhlmpjoggnkkaaGreatDoor
