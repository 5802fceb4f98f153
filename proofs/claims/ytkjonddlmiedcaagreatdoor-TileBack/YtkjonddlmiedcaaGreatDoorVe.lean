/- TileBack. -/
import Derived.Test.YtkjonddlmiedcaaGreatDoorVg
namespace Go.Proofs.YtkjonddlmiedcaaGreatDoor
open Go.RowKit
set_option linter.unusedVariables false
set_option linter.unusedSimpArgs false
theorem getD_ltV (n m : Nat) (h : n < 4611686018427387904) (h' : m < 4611686018427387904) : ∀ j, [n, m].getD j 0 < 4611686018427387904 := fun j => by
  match j with
  | 0 => exact h
  | 1 => exact h'
  | j + 2 => simp
set_option maxRecDepth 100000 in
set_option maxHeartbeats 4000000 in
theorem back_any (TL TI : Nat) (TW : Int) (hTL : TL ≤ 255) (hTI : TI < 18446744073709551616) (s : ByteArray) (hsz : s.size < 4611686018427387904) (L : List (List UInt8)) (h32 : ∀ x ∈ L, x.length = 32) (hl : L.length < 4611686018427387904) (ad : Option Addr) (c : Nat) (b : ByteArray) (hbz : b.size < 4611686018427387904) (W : Int) (hW : -9223372036854775808 ≤ W ∧ W ≤ 9223372036854775807) (w : World) (hs : Hss w (.slice ad L.length c) L) (hP : TX.Pow w) (hM : MaxL w) {B : Nat} {a : Nat → Addr} (hS : Sent B w a) :
    Calls Tryz.prog 4 #[tlz TL TI TW, .string s, .slice ad L.length c, .string b, .int .i64 W] w fun e w' => e = .returned (.bool true) ∧ Nw w w' := by
  obtain ⟨p1, ev1, b1, qa, qb, qc⟩ := back1 TL TI TW hTL hTI w hP hM hS
  obtain ⟨VL, VI, VW, ev2, b2, ra, rb, rc⟩ := back2 s hsz w hP hM hS
  obtain ⟨t3, ev3, b3, sa, sb, sc⟩ := back3 L h32 ad c w hs hS
  have g1 := qb.gd 38
  have g2 := rb.gd 57
  have g3 := sb.gd 76
  have qb := qb.run
  have rb := rb.run
  have sb := sb.run
  have QV : Hid (∀ V, Nw w V → Calls Tryz.prog 12 #[] V fun e w' => e = .returned (.bool true) ∧ Nw V w') := fun V nV => lives_any V (hP.fr nV) (hM.nw nV) (hS.fr nV (fun _ _ f => f))
  have Q4 : Hid (b.size ≤ 1048576 → (∃ x, ∀ V, Nw w V → Calls Tryz.prog 16 #[.string b, .int .i64 W] V fun e w' => e = .returned (.tuple #[.slice none 0 0, sen x]) ∧ Nw V w') ∨
    (∃ n : Nat, W = (n : Int) ∧ n ≤ 256 ∧ ∀ V, Nw w V → Calls Tryz.prog 16 #[.string b, .int .i64 W] V fun e w' => ∃ g, e = .returned (.tuple #[.slice (some ⟨g, 0, none⟩) n n, .nilIface]) ∧ Nw V w' ∧ ∀ U, Nw w' U → Calls Tryz.prog 15 #[.slice (some ⟨g, 0, none⟩) n n] U fun e u' => e = .returned (.tuple #[.string b, .nilIface]) ∧ Nw U u')) := fun hb => back4 b hb W hW w hS
  have HS : Hid (Hss w (.slice ad L.length c) L) := hs
  have H32 : Hid (∀ x ∈ L, x.length = 32) := h32
  have QA := show Hid _ from qa
  have QC := show Hid _ from qc
  have RA := show Hid _ from ra
  have RC := show Hid _ from rc
  have SA := show Hid _ from sa
  have SC := show Hid _ from sc
  obtain ⟨n, hn⟩ : ∃ n, n = L.length := ⟨_, rfl⟩
  have HN : Hid (n = L.length) := hn
  rw [← hn] at hl SA SC HS ⊢
  clear hs hP hM hS h32 qa qc ra rc sa sc hn
  obtain ⟨w1, hw1⟩ : ∃ q, w.alloc (.cells #[.int .u8 (TL : Int), .int .u64 (TI : Int), .int .i64 TW] 41) = q := ⟨_, rfl⟩
  have N1 : Hid (Nw w w1) := by show Nw w w1; rw [← hw1]; exact nwa w _
  have B1 : Hid (w1.heap[w.heap.size]? = some (.cells #[.int .u8 (TL : Int), .int .u64 (TI : Int), .int .i64 TW] 41)) := by show _ = _; rw [← hw1]; exact heap_new _ _
  have q2 := beyond_any (some ⟨w1.heap.size, 0, none⟩) 2 [n, b.size] _ (two_int w1 n b.size) (getD_ltV n b.size hl hbz) (by simp)
  rw [show [n, b.size].length = 2 from rfl] at q2
  go_enter Tryz.func4, Tryz.ntmps4
  go_upto_region 1 with fail
  try rw [hw1]
  clear hw1
  obtain ⟨tb, htb⟩ : ∃ q, q = w.heap.size := ⟨_, rfl⟩
  rw [← htb] at B1 ⊢
  clear htb
  have hni : (n : Int) < 4611686018427387904 := by omega
  have hbi : (b.size : Int) < 4611686018427387904 := by omega
  go_wp2_with fail
  refine q2.mono ?_
  rintro _ w2 ⟨rfl, h2⟩
  have N2 : Hid (Nw w w2) := by show Nw w w2; rw [h2]; exact N1.out.alloc _
  have B2 : Hid (w2.heap[tb]? = some (.cells #[.int .u8 (TL : Int), .int .u64 (TI : Int), .int .i64 TW] 41)) := by show _ = _; rw [h2]; exact ((nwa w1 _).block _ (heap_lt B1.out) (fun f => f)).trans B1.out
  clear h2 q2 N1 B1
  by_cases hbig : 1048576 < [n, b.size].sum
  · rw [decide_eq_true hbig]
    go_wp2
    go_ret
    exact ⟨rfl, N2.out⟩
  rw [decide_eq_false hbig]
  have hb4 : n ≤ 1048576 ∧ b.size ≤ 1048576 := by simp at hbig; omega
  clear hbig
  obtain ⟨e0, e1, e2⟩ := cell3 B2.out
  go_wp2_with fail
  refine (QA.out _ N2.out).mono ?_
  rintro _ w3 ⟨rfl, n3⟩
  have N3 : Hid (Nw w w3) := N2.out.tr n3
  have B3 : Hid (w3.heap[tb]? = some (.cells #[.int .u8 (TL : Int), .int .u64 (TI : Int), .int .i64 TW] 41)) := (n3.block _ (heap_lt B2.out) (fun f => f)).trans B2.out
  clear n3 e0 e1 e2 N2 B2
  go_upto_if 39 with fail
  go_cut [] (fun wx => Nw w wx)
  case first =>
    cases b1
    · go_wp2_with fail
      go_meet
      exact N3.out
    · have q4 := QC.out rfl w3 N3.out
      go_wp2_with fail
      refine q4.mono ?_
      rintro _ w4 ⟨rfl, n4⟩
      have N4 : Hid (Nw w w4) := N3.out.tr n4
      have b4 := (n4.block _ (heap_lt B3.out) (fun f => f)).trans B3.out
      obtain ⟨e0, e1, e2⟩ := cell3 b4
      have lb := heap_lt b4
      have hs4 := N4.out.size
      clear n4 q4 b4
      go_wp2
      go_meet
      exact (by repeat first | with_reducible exact N4.out | with_reducible refine Fr.alloc ?_ _ | with_reducible refine Fr.drew ?_ | (with_reducible refine Fr.setCell ?_ _ _ (fun h => ?_); rotate_left; focus (simp only at h; omega)))
  case rest =>
  have NC : Hid (Nw w wc) := hcut
  clear hcut N3 B3 QC QA
  obtain ⟨w5, hw5⟩ : ∃ q, q = wc := ⟨_, rfl⟩
  rw [← hw5] at NC ⊢
  clear hw5
  go_wp2_with fail
  refine (RA.out _ NC.out).mono ?_
  rintro _ w6 ⟨rfl, n6⟩
  have N6 : Hid (Nw w w6) := NC.out.tr n6
  clear n6 NC RA
  go_upto_if 58 with fail
  go_cut [] (fun wx => Nw w wx)
  case first =>
    have hs6 := N6.out.size
    cases b2
    · go_wp2_with fail
      go_meet
      exact (by repeat first | with_reducible exact N6.out | with_reducible refine Fr.alloc ?_ _ | with_reducible refine Fr.drew ?_ | (with_reducible refine Fr.setCell ?_ _ _ (fun h => ?_); rotate_left; focus (simp only at h; omega)))
    · obtain ⟨w7, hw7⟩ : ∃ q, w6.alloc (.cells #[.int .u8 (VL : Int), .int .u64 (VI : Int), .int .i64 VW] 41) = q := ⟨_, rfl⟩
      have N7 : Hid (Nw w w7) := by show Nw w w7; rw [← hw7]; exact N6.out.alloc _
      have b7 : w7.heap[w6.heap.size]? = some (.cells #[.int .u8 (VL : Int), .int .u64 (VI : Int), .int .i64 VW] 41) := by rw [← hw7]; exact heap_new _ _
      obtain ⟨e0, e1, e2⟩ := cell3 b7
      have q8 := RC.out rfl w7 N7.out
      rw [hw7]
      clear hw7 b7
      go_wp2_with fail
      refine q8.mono ?_
      rintro _ w8 ⟨rfl, n8⟩
      have N8 : Hid (Nw w w8) := N7.out.tr n8
      have ts : (s.toList == s.toList) = true := by simp
      clear n8 q8
      go_wp2
      go_meet
      exact N8.out
  case rest =>
  have NC : Hid (Nw w wc) := hcut
  clear hcut N6 RC
  obtain ⟨w9, hw9⟩ : ∃ q, q = wc := ⟨_, rfl⟩
  rw [← hw9] at NC ⊢
  clear hw9
  go_wp2_with fail
  refine (SA.out _ NC.out).mono ?_
  rintro _ w10 ⟨rfl, n10⟩
  have N10 : Hid (Nw w w10) := NC.out.tr n10
  clear n10 NC SA
  go_upto_if 77 with fail
  go_cut [] (fun wx => Nw w wx)
  case first =>
    cases b3
    · go_wp2_with fail
      go_meet
      exact N10.out
    · obtain ⟨hts, hn2, q11⟩ := SC.out rfl
      have q12 := q11 w10 N10.out
      have hne : ((t3.size : Int) != 32 * (n : Int)) = false := by
        have : (t3.size : Int) = 32 * (n : Int) := by omega
        simp [this]
      obtain ⟨tz, htz⟩ : ∃ z, z = t3.size := ⟨_, rfl⟩
      clear q11
      go_wp2_with fail
      refine q12.mono ?_
      rintro _ w11 ⟨g, rfl, h11, n11⟩
      have N11 : Hid (Nw w w11) := N10.out.tr n11
      have q13 := sameh_yes _ _ L H32.out w11 h11 (HS.out.nw H32.out N11.out) (by rw [← HN.out]; exact hl)
      clear n11 q12 h11 htz
      go_wp2_with fail
      refine q13.mono ?_
      rintro _ w12 ⟨rfl, n12⟩
      have N12 : Hid (Nw w w12) := N11.out.tr n12
      clear n12 q13
      go_wp2
      go_meet
      exact N12.out
  case rest =>
  have NC : Hid (Nw w wc) := hcut
  clear hcut N10 SC
  obtain ⟨w13, hw13⟩ : ∃ q, q = wc := ⟨_, rfl⟩
  rw [← hw13] at NC ⊢
  clear hw13
  rcases Q4.out hb4.2 with ⟨x, q14⟩ | ⟨m, rfl, hm, q14⟩
  · have q15 := q14 w13 NC.out
    clear q14
    go_wp2_with fail
    refine q15.mono ?_
    rintro _ w14 ⟨rfl, n14⟩
    have N14 : Hid (Nw w w14) := NC.out.tr n14
    clear n14 q15
    go_wp2_with fail
    refine (QV.out _ N14.out).mono ?_
    rintro _ w15 ⟨rfl, n15⟩
    have N15 : Hid (Nw w w15) := N14.out.tr n15
    clear n15
    go_wp2
    go_ret
    exact ⟨rfl, N15.out⟩
  · have q15 := q14 w13 NC.out
    clear q14
    go_wp2_with fail
    refine q15.mono ?_
    rintro _ w14 ⟨g, rfl, n14, q16⟩
    have N14 : Hid (Nw w w14) := NC.out.tr n14
    have q17 := q16 w14 (nwr w14)
    clear n14 q15 q16
    go_wp2_with fail
    refine q17.mono ?_
    rintro _ w16 ⟨rfl, n16⟩
    have N16 : Hid (Nw w w16) := N14.out.tr n16
    have ts : (b.toList == b.toList) = true := by simp
    clear n16 q17
    go_wp2_with fail
    refine (QV.out _ N16.out).mono ?_
    rintro _ w17 ⟨rfl, n17⟩
    have N17 : Hid (Nw w w17) := N16.out.tr n17
    clear n17
    go_wp2
    go_ret
    exact ⟨rfl, N17.out⟩
end Go.Proofs.YtkjonddlmiedcaaGreatDoor
