/- LeftHashes of a twin that nobody wrote. -/
import Derived.Test.YtaeocbdphfkflaaDoorYvw
import Derived.Test.YtaeocbdphfkflaaDoorKth
import Derived.Test.YtaeocbdphfkflaaDoorGHq
import Derived.Test.YtaeocbdphfkflaaDoorPg
namespace Go.Proofs.YtaeocbdphfkflaaDoor
open Go.RowKit
set_option linter.unusedVariables false
set_option linter.unusedSimpArgs false
set_option maxRecDepth 100000 in
set_option maxHeartbeats 1000000 in
theorem lefth_any (L : List (List UInt8)) (h32 : ∀ x ∈ L, x.length = 32) (hl : L.length ≤ 1048576) (base g : Nat) (ad : Option Addr) (c : Nat) (w : World)
    (ho : w.ownsRow base 24 32 (.slice (some ⟨g, 0, none⟩) (L.length + 1) (L.length + 1)) (L.length + 1) (hsc (L ++ [HB.mk 7777]))) (hs : Hss w (.slice ad L.length c) L) :
    Calls Tryd.prog 13 #[.slice (some ⟨g, 0, none⟩) L.length (L.length + 1), .slice ad L.length c] w fun e w' => e = .returned (.bool true) ∧ Nw w w' := by
  have hall : ∀ x ∈ L ++ [HB.mk 7777], x.length = 32 := fun x hx => by
    rcases List.mem_append.1 hx with h | h
    · exact h32 x h
    · rw [List.mem_singleton.1 h]; exact HB.mk_len _
  have hS := Hss.of hall (show w.ownsRow base 24 32 (.slice (some ⟨g, 0, none⟩) (L.length + 1) (L.length + 1)) (L ++ [HB.mk 7777]).length (hsc (L ++ [HB.mk 7777])) by rw [List.length_append]; exact ho)
  have hT : Hss w (.slice (some ⟨g, 0, none⟩) L.length (L.length + 1)) L := ⟨_, _, rfl, fun k x hk => by
    obtain ⟨ad', cp, e, h2⟩ := hS
    injection e with e1 e2 e3
    obtain ⟨g', o', e4, h3⟩ := h2 k x (by rw [List.getElem?_append_left (List.getElem?_eq_some_iff.1 hk).1]; exact hk)
    exact ⟨g', o', e1.trans e4, h3⟩⟩
  have hM : ∀ j, j < 32 → w.cell? ⟨g, 0 + L.length * 32 + j, none⟩ = (hbs (HB.mk 7777))[j]? := by
    obtain ⟨ad', cp, e, h2⟩ := hS
    injection e with e1 e2 e3
    obtain ⟨g', o', e4, h3⟩ := h2 L.length (HB.mk 7777) (by simp)
    rw [← e1] at e4
    simp only [Option.some.injEq, Addr.mk.injEq, and_true] at e4
    obtain ⟨rfl, rfl⟩ := e4
    exact h3
  have QS : Hid (Calls Tryd.prog 26 #[.slice (some ⟨g, 0, none⟩) L.length (L.length + 1), .slice ad L.length c] w fun e w' => e = .returned (.bool true) ∧ Nw w w') := sameh_yes _ _ L h32 w hT hs (by omega)
  have QI : Hid (∀ V, Calls Tryd.prog 36 #[.agg (hbs (HB.mk 7777)), .int .i64 7777] V fun e w' => e = .returned (.bool true) ∧ Nw V w') := fun V => HB.is_any 7777 (by decide) V
  have M32 : Hid ((HB.mk 7777).length = 32) := HB.mk_len _
  obtain ⟨M, hMe⟩ : ∃ M, M = HB.mk 7777 := ⟨_, rfl⟩
  rw [← hMe] at hM QI M32
  have hcut := cut_hh (some ⟨g, 0, none⟩) L.length (L.length + 1) (L.length + 1) (Nat.le_refl _)
  have HCUT := show Hid _ from hcut
  have HM : Hid (∀ V, Nw w V → ∀ j, j < 32 → V.cell? ⟨g, L.length * 32 + j, none⟩ = (hbs M)[j]?) := fun V nV j hj => by
    have h2 := hM j hj
    rw [Nat.zero_add] at h2
    rw [hbs_get M j (by have := M32.out; omega)] at h2 ⊢
    exact nV.cellOf h2
  clear hMe hM hT hS hall ho hs h32 hcut
  generalize L.length = n at *
  rw [Int.natCast_add] at HCUT
  go_enter Tryd.func13, Tryd.ntmps13
  go_wp2_with fail
  refine QS.out.mono ?_
  rintro _ w1 ⟨rfl, n1⟩
  have N1 : Hid (Nw w w1) := n1
  have hcut : (Instr.sliceAt 25 (.slice (some ⟨g, 0, none⟩) n (n + 1)) none (some (.int .i64 ((n : Int) + 1))) none).run Tryd.prog w1 = .ok (.slice (some ⟨g, 0, none⟩) (n + 1) (n + 1)) w1 := HCUT.out w1
  clear n1
  go_wp2_with (refine wpl_load (by rfl) (.tmp 16) rfl g (n * 32) rfl M M32.out (HM.out w1 N1.out) ?_)
  refine (QI.out _).mono ?_
  rintro _ w2 ⟨rfl, n2⟩
  go_wp2
  go_ret
  exact ⟨rfl, N1.out.tr n2⟩
end Go.Proofs.YtaeocbdphfkflaaDoor
namespace Go.Proofs.YtaeocbdphfkflaaDoor
open Go.RowKit
set_option linter.unusedVariables false
set_option linter.unusedSimpArgs false

/-- Numbers in memory. -/
def Ints (w : World) (p : Option Addr) (l : List Nat) : Prop := ∀ j, j < l.length → ∃ g o, p = some ⟨g, o, none⟩ ∧ w.cell? ⟨g, o + j, none⟩ = some (.int .i64 ((l.getD j 0 : Nat) : Int))
theorem sum_step (l : List Nat) (k : Nat) (h : k < l.length) : (l.take (k + 1)).sum = (l.take k).sum + l.getD k 0 := by
  have e : l.take (k + 1) = l.take k ++ [l[k]] := List.take_succ_eq_append_getElem h
  rw [e, List.sum_append, List.getD_eq_getElem?_getD, List.getElem?_eq_getElem h, Option.getD_some]
  simp
theorem sum_le (l : List Nat) (k : Nat) : (l.take k).sum ≤ l.sum := by
  have h : l.sum = (l.take k).sum + (l.drop k).sum := by rw [← List.sum_append, List.take_append_drop]
  omega
set_option maxRecDepth 100000 in
set_option maxHeartbeats 1000000 in
theorem beyond_any (p : Option Addr) (c : Nat) (l : List Nat) (w : World) (hi : Ints w p l) (hx : ∀ j, l.getD j 0 < 4611686018427387904) (hl : l.length < 4611686018427387904) :
    Calls Tryd.prog 8 #[.slice p l.length c] w fun e w' => e = .returned (.bool (decide (1048576 < l.sum))) ∧ w' = w := by
  have HI : Hid (Ints w p l) := hi
  have HX : Hid (∀ j, l.getD j 0 < 4611686018427387904) := hx
  clear hi hx
  obtain ⟨n, hn⟩ : ∃ n, n = l.length := ⟨_, rfl⟩
  rw [← hn] at hl ⊢
  have Hn : Hid (n = l.length) := hn
  clear hn
  obtain ⟨R, hR⟩ : ∃ R, R = decide (1048576 < l.sum) := ⟨_, rfl⟩
  have HR : Hid (R = decide (1048576 < l.sum)) := hR
  rw [← hR]
  clear hR
  go_enter Tryd.func8, Tryd.ntmps8
  go_wp2
  go_loop [3, 4] (fun s i => ∃ k m : Nat, k ≤ n ∧ i = .int .i64 k ∧ s = .int .i64 m ∧ m = (l.take k).sum ∧ m ≤ 1048576) (fun _ i => n - (intOf i).toNat)
  case atStart => exact ⟨0, 0, by omega, rfl, rfl, rfl, by omega⟩
  case round =>
    obtain ⟨k, m, hk, rfl, rfl, hm, hm2⟩ := hrel
    have HM : Hid (m = (l.take k).sum) := hm
    clear hm
    by_cases hlt : k < n
    · obtain ⟨g, o, rfl, hc⟩ := HI.out k (by have := Hn.out; omega)
      have hx := HX.out k
      have hst : Hid ((l.take (k + 1)).sum = (l.take k).sum + l.getD k 0) := sum_step l k (by have := Hn.out; omega)
      generalize l.getD k 0 = x at hc hx hst
      have hki : (k : Int) < (n : Int) := by omega
      by_cases hbig : 1048576 < m + x
      · have hb : (1048576 : Int) < (m : Int) + (x : Int) := by omega
        go_wp2
        go_ret
        refine ⟨?_, rfl⟩
        have : R = true := by
          rw [HR.out]
          have h1 := sum_le l (k + 1)
          rw [hst.out, ← HM.out] at h1
          exact decide_eq_true (by omega)
        rw [this]; rfl
      · have hb : ¬ (1048576 : Int) < (m : Int) + (x : Int) := by omega
        go_wp2
        exact ⟨⟨k + 1, m + x, by omega, by go_num, by go_num, by rw [hst.out, ← HM.out], by omega⟩, by simp [intOf]; omega⟩
    · have hge : ¬ (k : Int) < (n : Int) := by omega
      have : R = false := by
        rw [HR.out]
        have h1 := HM.out
        rw [List.take_of_length_le (by have := Hn.out; omega)] at h1
        exact decide_eq_false (by omega)
      have HRF : Hid (R = false) := this
      clear this hlt
      go_wp2
      go_ret
      exact ⟨by rw [HRF.out]; rfl, rfl⟩
/-- How many bytes texts have, and one for each. -/
def tsz (ss : List ByteArray) : Nat := (ss.map fun x => 1 + x.size).sum
theorem tsz_step (ss : List ByteArray) (k : Nat) (x : ByteArray) (h : ss[k]? = some x) : tsz (ss.take (k + 1)) = tsz (ss.take k) + 1 + x.size := by
  unfold tsz
  rw [List.take_add_one, h]
  simp
  omega
theorem one_int (w : World) (n : Nat) : Ints (w.alloc (.cells #[.int .i64 (n : Int)] 3)) (some ⟨w.heap.size, 0, none⟩) [n] := fun j hj => by
  match j, hj with
  | 0, _ => exact ⟨_, _, rfl, by simp [cell_of (heap_new w _)]⟩
theorem getD_one (n : Nat) (h : n < 4611686018427387904) : ∀ j, [n].getD j 0 < 4611686018427387904 := fun j => by
  match j with
  | 0 => exact h
  | j + 1 => simp

theorem two_int (w : World) (m n : Nat) : Ints (w.alloc (.cells #[.int .i64 (m : Int), .int .i64 (n : Int)] 3)) (some ⟨w.heap.size, 0, none⟩) [m, n] := fun j hj => by
  match j, hj with
  | 0, _ => exact ⟨_, _, rfl, by simp [cell_of (heap_new w _)]⟩
  | 1, _ => exact ⟨_, _, rfl, by simp [cell_of (heap_new w _)]⟩
theorem four_int (w : World) (m n o q : Nat) : Ints (w.alloc (.cells #[.int .i64 (m : Int), .int .i64 (n : Int), .int .i64 (o : Int), .int .i64 (q : Int)] 3)) (some ⟨w.heap.size, 0, none⟩) [m, n, o, q] := fun j hj => by
  match j, hj with
  | 0, _ => exact ⟨_, _, rfl, by simp [cell_of (heap_new w _)]⟩
  | 1, _ => exact ⟨_, _, rfl, by simp [cell_of (heap_new w _)]⟩
  | 2, _ => exact ⟨_, _, rfl, by simp [cell_of (heap_new w _)]⟩
  | 3, _ => exact ⟨_, _, rfl, by simp [cell_of (heap_new w _)]⟩
theorem getD_all {l : List Nat} (h : ∀ n ∈ l, n < 4611686018427387904) : ∀ j, l.getD j 0 < 4611686018427387904 := fun j => by
  rw [List.getD_eq_getElem?_getD]
  cases e : l[j]? with
  | none => simp
  | some x => exact h x (List.mem_of_getElem? e)
end Go.Proofs.YtaeocbdphfkflaaDoor
