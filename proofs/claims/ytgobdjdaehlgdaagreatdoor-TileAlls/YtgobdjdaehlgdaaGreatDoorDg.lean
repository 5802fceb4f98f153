/- TilePaths. -/
import Derived.Test.YtgobdjdaehlgdaaGreatDoorDcg
import Derived.Test.YtgobdjdaehlgdaaGreatDoorUc
namespace Go.Proofs.YtgobdjdaehlgdaaGreatDoor
open Go.RowKit
open Go.Lib (decDigits nDigits)
set_option linter.unusedVariables false
set_option linter.unusedSimpArgs false
/-- A tile's value. -/
abbrev tld (L I : Nat) (W : Int) : Value := .agg #[.int .u8 (L : Int), .int .u64 (I : Int), .int .i64 W]
theorem same_no {w : World} {B : Nat} {a : Nat → Addr} (hS : Sent B w a) : Calls Tryz.prog 9 #[.nilIface, flt 0 0] w fun e w' => e = .returned (.bool true) ∧ Nw w w' := by
  have := same_any hS (show EV w a .nilIface 0 none from .inl ⟨rfl, rfl, rfl⟩) 0 0
  exact this
theorem same_e1 {w : World} {B : Nat} {a : Nat → Addr} (hS : Sent B w a) : Calls Tryz.prog 9 #[sen (a 1), flt 2 (-1)] w fun e w' => e = .returned (.bool true) ∧ Nw w w' := by
  have := same_any hS (show EV w a (sen (a 1)) 2 none from .inr (.inl ⟨1, by decide, rfl, rfl, rfl⟩)) 2 (-1)
  exact this
theorem same_e2 {w : World} {B : Nat} {a : Nat → Addr} (hS : Sent B w a) : Calls Tryz.prog 9 #[sen (a 2), flt 3 (-1)] w fun e w' => e = .returned (.bool true) ∧ Nw w w' := by
  have := same_any hS (show EV w a (sen (a 2)) 3 none from .inr (.inl ⟨2, by decide, rfl, rfl, rfl⟩)) 3 (-1)
  exact this
theorem both_path (L I : Nat) (W : Int) (hL : L ≤ 255) (hI : I < 18446744073709551616) (w : World) (hP : TX.Pow w) {B : Nat} {a : Nat → Addr} (hS : Sent B w a) :
    ∃ (p : ByteArray) (ev : Value) (fc fp : Int), (∀ V, Nw w V → Calls Tryz.prog 13 #[tld L I W] V fun e w' => e = .returned (.tuple #[.string p, ev]) ∧ Nw V w') ∧
      (∀ V, Calls Tryz.prog 14 #[tld L I W] V fun e w' => e = .returned (.tuple #[.string p, flt fc fp]) ∧ Nw V w') ∧
      (∀ V, Nw w V → Calls Tryz.prog 9 #[ev, flt fc fp] V fun e w' => e = .returned (.bool true) ∧ Nw V w') := by
  have SS : ∀ V, Nw w V → Sent B V a := fun V nV => hS.fr nV (fun _ _ f => f)
  by_cases h : mayT L I W
  · obtain ⟨n, rfl⟩ := mayT_nat h
    exact ⟨_, _, 0, 0, fun V nV => path_yes L I n h V (hP.fr nV), fun V => rpath_yes L I n h V, fun V nV => same_no (SS V nV)⟩
  · exact ⟨_, _, 2, -1, fun V nV => path_no L I W hL hI h V (SS V nV), fun V => rpath_no L I W hL hI h V, fun V nV => same_e1 (SS V nV)⟩
theorem nm_ge (L I W : Nat) : 8 ≤ (nm L I W).length := by
  obtain ⟨k, hk⟩ := pad3_lenU I
  have h1 := thrL_len k _ hk
  have h2 : 1 ≤ (decDigits L).length := by rw [Go.Lib.decDigits_length]; exact Go.Lib.nDigits_pos L
  unfold nm
  simp only [List.length_append, h1]
  simp
  omega
theorem both_parse (s : ByteArray) (hs : s.size < 4611686018427387904) (w : World) (hP : TX.Pow w) (hM : MaxL w) {B : Nat} {a : Nat → Addr} (hS : Sent B w a) :
    ∃ (L I W : Nat) (ev : Value) (fc fp : Int), (∀ V, Nw w V → Calls Tryz.prog 15 #[.string s] V fun e w' => e = .returned (.tuple #[tl L I W, ev]) ∧ Nw V w') ∧
      (∀ V, Calls Tryz.prog 16 #[.string s] V fun e w' => e = .returned (.tuple #[tl L I W, flt fc fp]) ∧ Nw V w') ∧
      (∀ V, Nw w V → Calls Tryz.prog 9 #[ev, flt fc fp] V fun e w' => e = .returned (.bool true) ∧ Nw V w') := by
  have SS : ∀ V, Nw w V → Sent B V a := fun V nV => hS.fr nV (fun _ _ f => f)
  have hlen := bytes_len s
  by_cases h : ∃ L I W : Nat, mayT L I (W : Int) ∧ nm L I W = s.data.toList
  · obtain ⟨L, I, W, hm, he⟩ := h
    have hro := ro_nm hm
    have hrd := rd_nm hm
    rw [he] at hro hrd
    have h41 := (nm_len hm).1
    have h8 := nm_ge L I W
    rw [he, hlen] at h41 h8
    refine ⟨L, I, W, .nilIface, 0, 0, fun V nV => ?_, fun V => ?_, fun V nV => same_no (SS V nV)⟩
    · have q := parse_any s h41 L I (W : Int) true hrd.1 hrd.2.1 hrd.2.2 (by simp [hm, he]) V (hP.fr nV) (hM.nw nV) (SS V nV)
      simpa using q
    · have q := rparse_any s h8 (by omega) L I W true hro.1 hro.2.1 hro.2.2 (by simp [hm, he]) V
      simpa using q
  · refine ⟨0, 0, 0, sen (a 2), 3, -1, fun V nV => ?_, fun V => ?_, fun V nV => same_e2 (SS V nV)⟩
    · by_cases hb : 41 < s.size
      · exact parse_big s hb hs V (SS V nV)
      · have q := parse_any s (by omega) _ _ _ false rfl rfl rfl (by
          simp only [Bool.false_eq_true, false_iff]
          rintro ⟨h1, h2⟩
          obtain ⟨n, hn⟩ := mayT_nat h1
          rw [hn] at h1 h2
          exact h ⟨_, _, n, h1, h2⟩) V (hP.fr nV) (hM.nw nV) (SS V nV)
        simpa using q
    · by_cases hb : s.size < 8
      · exact rparse_short s hb V
      · have q := rparse_any s (by omega) (by omega) _ _ _ false rfl rfl rfl (by
          simp only [Bool.false_eq_true, false_iff]
          rintro ⟨h1, h2⟩
          exact h ⟨_, _, _, h1, h2⟩) V
        simpa using q
set_option maxRecDepth 100000 in
set_option maxHeartbeats 2000000 in
theorem paths_any (L I : Nat) (W : Int) (hL : L ≤ 255) (hI : I < 18446744073709551616) (s : ByteArray) (hs : s.size < 4611686018427387904) (w : World) (hP : TX.Pow w) (hM : MaxL w) {B : Nat} {a : Nat → Addr} (hSe : Sent B w a) :
    Calls Tryz.prog 4 #[tld L I W, .string s] w fun e w' => e = .returned (.bool true) ∧ Nw w w' := by
  obtain ⟨p, ev, fc, fp, h1, h2, h3⟩ := both_path L I W hL hI w hP hSe
  obtain ⟨x, y, z, eu, gc, gp, h4, h5, h6⟩ := both_parse s hs w hP hM hSe
  have Q1 : Hid (∀ V, Nw w V → Calls Tryz.prog 13 #[tld L I W] V fun e w' => e = .returned (.tuple #[.string p, ev]) ∧ Nw V w') := h1
  have Q2 : Hid (∀ V, Calls Tryz.prog 14 #[tld L I W] V fun e w' => e = .returned (.tuple #[.string p, flt fc fp]) ∧ Nw V w') := h2
  have Q3 : Hid (∀ V, Nw w V → Calls Tryz.prog 9 #[ev, flt fc fp] V fun e w' => e = .returned (.bool true) ∧ Nw V w') := h3
  have Q4 : Hid (∀ V, Nw w V → Calls Tryz.prog 15 #[.string s] V fun e w' => e = .returned (.tuple #[tl x y z, eu]) ∧ Nw V w') := h4
  have Q5 : Hid (∀ V, Calls Tryz.prog 16 #[.string s] V fun e w' => e = .returned (.tuple #[tl x y z, flt gc gp]) ∧ Nw V w') := h5
  have Q6 : Hid (∀ V, Nw w V → Calls Tryz.prog 9 #[eu, flt gc gp] V fun e w' => e = .returned (.bool true) ∧ Nw V w') := h6
  have QV : Hid (∀ V, Nw w V → Calls Tryz.prog 12 #[] V fun e w' => e = .returned (.bool true) ∧ Nw V w') := fun V nV => lives_any V (hP.fr nV) (hM.nw nV) (hSe.fr nV (fun _ _ f => f))
  clear h1 h2 h3 h4 h5 h6 hP hM hSe
  go_enter Tryz.func4, Tryz.ntmps4
  go_wp2_with fail
  refine (Q1.out _ (nwa w _)).mono ?_
  rintro e w1 ⟨rfl, n1⟩
  obtain ⟨l0, b0, m1⟩ := one_made n1
  obtain ⟨c0, c1, c2⟩ := cell3 b0
  have N1 : Hid (Nw w w1) := m1
  clear n1 b0 m1
  go_wp2_with fail
  refine (Q2.out _).mono ?_
  rintro e w2 ⟨rfl, n2⟩
  have N2 : Hid (Nw w w2) := N1.out.tr n2
  clear n2 N1 c0 c1 c2 l0
  go_wp2_with fail
  refine (Q4.out _ (N2.out.alloc _)).mono ?_
  rintro e w3 ⟨rfl, n3⟩
  obtain ⟨l3, b3, m3⟩ := one_made n3
  have N3 : Hid (Nw w w3) := N2.out.tr m3
  have B3 : Hid (w3.heap[w2.heap.size]? = some (.cells #[.int .i64 fc, .int .i64 fp] 29)) := b3
  clear n3 b3 m3
  go_wp2_with fail
  refine (Q5.out _).mono ?_
  rintro e w4 ⟨rfl, n4⟩
  obtain ⟨l4, b4, m4⟩ := one_made n4
  have N4 : Hid (Nw w w4) := N3.out.tr m4
  have b5 := (m4.block _ (heap_lt B3.out) (fun f => f)).trans B3.out
  have B4 : Hid (w4.heap[w3.heap.size]? = some (.cells #[.int .u8 (x : Int), .int .u64 (y : Int), .int .i64 (z : Int)] 56)) := b4
  obtain ⟨d0, d1, d2⟩ := cell3 b4
  obtain ⟨e0, e1⟩ : w4.cell? ⟨w2.heap.size, 0, none⟩ = some (.int .i64 fc) ∧ w4.cell? ⟨w2.heap.size, 1, none⟩ = some (.int .i64 fp) := ⟨(cell_of b5 0).trans rfl, (cell_of b5 1).trans rfl⟩
  have l5 := heap_lt b5
  have l6 := heap_lt b4
  clear n4 m4 b4 b5 l3 l4
  go_wp2_with fail
  refine (Q3.out _ ((N4.out.alloc _).alloc _)).mono ?_
  rintro e w5 ⟨rfl, n5⟩
  have M5 := Nw.tr ((nwa w4 _).alloc _) n5
  have N5 : Hid (Nw w w5) := N4.out.tr M5
  have t1 : w5.heap[w4.heap.size]? = some (.cells #[.int .u8 (x : Int), .int .u64 (y : Int), .int .i64 (z : Int)] 56) := (n5.block w4.heap.size (by simp only [World.size_alloc]; omega) (fun f => f)).trans (by (repeat first | with_reducible exact heap_new _ _ | with_reducible exact heap_new _ _ | with_reducible exact heap_next _ _ _ | with_reducible exact heap_third _ _ _ _ | with_reducible refine hp_dr ?_ | (with_reducible refine hp_ne ?_ ?_; focus omega) | (with_reducible refine hp_al ?_ ?_; focus (first | omega | (simp <;> omega))) | with_reducible apply hp_set) <;> rfl)
  have t2 : w5.heap[w4.heap.size + 1]? = some (.cells #[.int .i64 gc, .int .i64 gp] 29) := (n5.block (w4.heap.size + 1) (by simp only [World.size_alloc]; omega) (fun f => f)).trans (heap_next _ _ _)
  have t3 := (M5.block _ l6 (fun f => f)).trans B4.out
  obtain ⟨a0, a1, a2⟩ := cell3 t1
  obtain ⟨f0, f1⟩ : w5.cell? ⟨w4.heap.size + 1, 0, none⟩ = some (.int .i64 gc) ∧ w5.cell? ⟨w4.heap.size + 1, 1, none⟩ = some (.int .i64 gp) := ⟨(cell_of t2 0).trans rfl, (cell_of t2 1).trans rfl⟩
  obtain ⟨g0, g1, g2⟩ := cell3 t3
  clear n5 M5 t1 t2 t3 e0 e1 d0 d1 d2
  go_wp2_with fail
  refine (Q6.out _ N5.out).mono ?_
  rintro e w6 ⟨rfl, n6⟩
  have N6 : Hid (Nw w w6) := N5.out.tr n6
  clear n6
  go_wp2_with fail
  refine (QV.out _ N6.out).mono ?_
  rintro e w7 ⟨rfl, n7⟩
  go_wp2
  go_ret
  exact ⟨rfl, N6.out.tr n7⟩
end Go.Proofs.YtgobdjdaehlgdaaGreatDoor
