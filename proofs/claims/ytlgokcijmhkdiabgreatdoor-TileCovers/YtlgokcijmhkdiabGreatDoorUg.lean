/- TileCovers: the walk. -/
import Derived.Test.YtlgokcijmhkdiabGreatDoorUc
namespace Go.Proofs.YtlgokcijmhkdiabGreatDoor
open Go.RowKit
set_option linter.unusedVariables false
set_option linter.unusedSimpArgs false
theorem pow_dvd256 (j : Nat) (h : j < 8) : 2 ^ j ∣ 256 := ⟨2 ^ (8 - j), by rw [← Nat.pow_add, show j + (8 - j) = 8 by omega]⟩
theorem at_facts {L I : Nat} (h : may L I) : (ofA L I % 256) % 2 ^ (L % 8) = 0 ∧ ofA L I % 256 + 2 ^ (L % 8) ≤ ofW L := by
  have hp := pow8 (L % 8) (by omega)
  have hd := pow_dvd256 (L % 8) (by omega)
  have h1 := ofA_lt h
  have hL := h.1
  have hz : (ofA L I % 256) % 2 ^ (L % 8) = 0 := by
    rw [Nat.mod_mod_of_dvd _ hd]; unfold ofA; exact Nat.mul_mod_left _ _
  refine ⟨hz, ?_⟩
  unfold ofW
  by_cases h7 : L / 8 = 7
  · rw [if_pos h7]
    rw [h7, show 63 - 8 * 7 = 7 from rfl, show (2 : Nat) ^ 7 = 128 from rfl] at h1
    omega
  · rw [if_neg h7]
    obtain ⟨q, hq⟩ := hd
    obtain ⟨r, hr⟩ : 2 ^ (L % 8) ∣ ofA L I % 256 := Nat.dvd_of_mod_eq_zero hz
    have hlt : ofA L I % 256 < 256 := Nat.mod_lt _ (by decide)
    rw [hr] at hlt ⊢
    have hrq : r < q := by
      rw [hq] at hlt
      exact Nat.lt_of_mul_lt_mul_left hlt
    have : 2 ^ (L % 8) * (r + 1) ≤ 2 ^ (L % 8) * q := Nat.mul_le_mul_left _ hrq
    rw [Nat.mul_add, Nat.mul_one, ← hq] at this
    exact this
theorem may8 {L I k : Nat} (h : may L I) (hk : k < 2 ^ (L % 8)) : may (8 * (L / 8)) (ofA L I + k) := by
  have h1 := ofA_lt h
  have hL := h.1
  rw [may_lt (by omega)]
  omega
theorem begins (L I : Nat) : ofA L I * 2 ^ (8 * (L / 8)) = I * 2 ^ L := by
  unfold ofA
  rw [Nat.mul_assoc, ← Nat.pow_add, show L % 8 + 8 * (L / 8) = L by omega]
theorem ends (L I : Nat) : (ofA L I + (2 ^ (L % 8) - 1) + 1) * 2 ^ (8 * (L / 8)) = (I + 1) * 2 ^ L := by
  have hp : 0 < 2 ^ (L % 8) := Nat.pow_pos (by decide)
  rw [show ofA L I + (2 ^ (L % 8) - 1) + 1 = ofA L I + 2 ^ (L % 8) by omega]
  unfold ofA
  rw [← Nat.succ_mul, Nat.mul_assoc, ← Nat.pow_add, show L % 8 + 8 * (L / 8) = L by omega]
theorem covers_wid {L I S : Nat} (h : may L I) (hS : S ≤ 9223372036854775808) (hE : (I + 1) * 2 ^ L ≤ S) : ofA L I % 256 + 2 ^ (L % 8) ≤ wid (L / 8) (ofA L I / 256) S ∧ wid (L / 8) (ofA L I / 256) S ≤ ofW L := by
  have hL := h.1
  have hf := at_facts h
  have hN : ofA L I + 2 ^ (L % 8) ≤ nod8 (L / 8) S := by
    unfold nod8
    rw [Nat.le_div_iff_mul_le (Nat.pow_pos (by decide)), ← ends L I] at *
    have hp : 0 < 2 ^ (L % 8) := Nat.pow_pos (by decide)
    rw [show ofA L I + (2 ^ (L % 8) - 1) + 1 = ofA L I + 2 ^ (L % 8) by omega] at hE
    exact hE
  have hM : nod8 (L / 8) S ≤ nod8 (L / 8) 9223372036854775808 := Nat.div_le_div_right hS
  have hw := of_wid h
  unfold wid at hw ⊢
  rw [if_neg (by omega)] at hw ⊢
  have hW : ofW L ≤ 256 := by unfold ofW; split <;> omega
  omega
theorem wid_le (L I S : Nat) : wid L I S ≤ 256 := by unfold wid; split <;> omega
theorem keep_made {w w1 : World} {o : Obj} (n : Nw (w.alloc o) w1) {b : Nat} {X : Option Obj} (hb : b < w.heap.size) (h : w.heap[b]? = X) : w1.heap[b]? = X := (n.block _ (by simp; omega) (fun f => f)).trans ((Below.heap_alloc _ _ _ hb).trans h)
set_option maxRecDepth 100000 in
set_option maxHeartbeats 2000000 in
theorem covers_core (L I S T J A C W b e e1 b2 x y z : Nat) (ok : Bool) (hL : L ≤ 255) (hI : I < 18446744073709551616) (hS : S < 18446744073709551616) (hT : T ≤ 7) (hJ : J * 256 + A + C ≤ 9223372036854775808) (hC : 0 < C) (hAC : A + C ≤ W) (hW : W ≤ 256) (hd : A % C = 0) (hb : b ≤ 9223372036854775808) (he : e ≤ 9223372036854775808) (he1 : e1 ≤ 9223372036854775808) (hb2 : b2 ≤ 9223372036854775808) (hz : z ≤ 256) (hx : x ≤ 255) (hy : y < 18446744073709551616) (w : World)
    (Q1 : Hid (∀ V, Calls Tryz.prog 19 #[cd L I] V fun e w' => e = .returned (.tuple #[tl T J W, .int .i64 (A : Int), .int .i64 (C : Int), .bool true]) ∧ Nw V w'))
    (Q2 : Hid (∀ V, Calls Tryz.prog 20 #[cd L I] V fun e' w' => e' = .returned (.tuple #[sp b e, .bool true]) ∧ Nw V w'))
    (Q3 : Hid (∀ V, Calls Tryz.prog 20 #[cd (8 * T) (J * 256 + A)] V fun e' w' => e' = .returned (.tuple #[sp b e1, .bool true]) ∧ Nw V w'))
    (Q4 : Hid (∀ V, Calls Tryz.prog 20 #[.agg #[.int .u8 (8 * (T : Int)), .int .u64 ((J : Int) * 256 + ((A : Int) + (C : Int) - 1))]] V fun e' w' => e' = .returned (.tuple #[sp b2 e, .bool true]) ∧ Nw V w'))
    (Q5 : Hid (∀ V, Calls Tryz.prog 17 #[.int .u8 (T : Int), .int .u64 (J : Int), .int .u64 (S : Int)] V fun e' w' => e' = .returned (.tuple #[tl x y z, .bool ok]) ∧ Nw V w'))
    (h6 : Hid (S ≤ 9223372036854775808 ∧ e ≤ S → ok = true ∧ x = T ∧ y = J ∧ A + C ≤ z ∧ z ≤ W))
    (QV : Hid (∀ V, Nw w V → Calls Tryz.prog 15 #[] V fun e w' => e = .returned (.bool true) ∧ Nw V w')) :
    Calls Tryz.prog 5 #[cd L I, .int .u64 (S : Int)] w fun e w' => e = .returned (.bool true) ∧ Nw w w' := by
  have hdi : ((A : Int) % (C : Int) != 0) = false := by
    have : (A : Int) % (C : Int) = 0 := by omega
    simp [this]
  go_enter Tryz.func5, Tryz.ntmps5
  go_wp2_with fail
  refine (Q1.out _).mono ?_
  rintro _ w1 ⟨rfl, n1⟩
  obtain ⟨l0, b0, m1⟩ := one_made n1
  have N1 : Hid (Nw w w1) := m1
  have e0 := cell2a b0
  have e1' := cell2b b0
  clear n1 b0 m1
  go_wp2_with fail
  refine (Q2.out _).mono ?_
  rintro _ w2 ⟨rfl, n2⟩
  obtain ⟨l1, b1, m2⟩ := one_made n2
  have N2 : Hid (Nw w w2) := N1.out.tr m2
  have B1 : Hid (w2.heap[w1.heap.size]? = some _) := b1
  obtain ⟨c0, c1, c2⟩ := cell3 b1
  clear n2 m2 N1 e0 e1' l0 b1
  go_wp2_with fail
  refine (Q3.out _).mono ?_
  rintro _ w3 ⟨rfl, n3⟩
  obtain ⟨l3, b3, m3⟩ := one_made n3
  have N3 : Hid (Nw w w3) := N2.out.tr m3
  have B3 : Hid (w3.heap[w2.heap.size]? = some _) := b3
  have D1 : Hid (w3.heap[w1.heap.size]? = some _) := keep_made n3 l1 B1.out
  obtain ⟨d0, d1, d2⟩ := cell3 D1.out
  have f0 := cell2a b3
  have f1 := cell2b b3
  have l1' : w1.heap.size < w3.heap.size := by omega
  clear n3 m3 N2 B1 b3 c0 c1 c2 l1
  go_wp2_with fail
  refine (Q4.out _).mono ?_
  rintro _ w4 ⟨rfl, n4⟩
  obtain ⟨l4, b4, m4⟩ := one_made n4
  have N4 : Hid (Nw w w4) := N3.out.tr m4
  have B4 : Hid (w4.heap[w3.heap.size]? = some _) := b4
  have D4 : Hid (w4.heap[w1.heap.size]? = some _) := keep_made n4 l1' D1.out
  have E4 : Hid (w4.heap[w2.heap.size]? = some _) := keep_made n4 l3 B3.out
  obtain ⟨g0, g1, g2⟩ := cell3 D4.out
  have i0 := cell2a b4
  have i1 := cell2b b4
  have j0 := cell2a E4.out
  have j1 := cell2b E4.out
  have l1'' : w1.heap.size < w4.heap.size := by omega
  have l3' : w2.heap.size < w4.heap.size := by omega
  clear n4 m4 N3 B3 D1 b4 d0 d1 d2 f0 f1 l1' l3
  go_wp2_with fail
  refine (Q5.out _).mono ?_
  rintro _ w5 ⟨rfl, n5⟩
  obtain ⟨l5, b5, m5⟩ := one_made n5
  have N5 : Hid (Nw w w5) := N4.out.tr m5
  have D5 : Hid (w5.heap[w1.heap.size]? = some _) := keep_made n5 l1'' D4.out
  have E5 : Hid (w5.heap[w2.heap.size]? = some _) := keep_made n5 l3' E4.out
  obtain ⟨k0, k1, k2⟩ := cell3 D5.out
  have p0 := cell2a E5.out
  have p1 := cell2b E5.out
  have q1 : w1.heap.size < w5.heap.size := by omega
  have q3 : w2.heap.size < w5.heap.size := by omega
  clear n5 m5 N4 B4 D4 E4 b5 g0 g1 g2 i0 i1 j0 j1 l1'' l3' D5 E5 l4 l5
  by_cases hh : S ≤ 9223372036854775808 ∧ e ≤ S
  · obtain ⟨rfl, rfl, rfl, hz1, hz2⟩ := h6.out hh
    obtain ⟨hh1, hh2⟩ := hh
    go_wp2_with fail
    refine (QV.out _ (N5.out.alloc _)).mono ?_
    rintro e w6 ⟨rfl, n6⟩
    go_wp2
    go_ret
    exact ⟨rfl, N5.out.tr ((nwa w5 _).tr n6)⟩
  by_cases hs : e ≤ S
  · have hs2 : ¬ S ≤ 9223372036854775808 := fun q => hh ⟨q, hs⟩
    clear hh h6
    go_wp2_with fail
    refine (QV.out _ (N5.out.alloc _)).mono ?_
    rintro e w6 ⟨rfl, n6⟩
    go_wp2
    go_ret
    exact ⟨rfl, N5.out.tr ((nwa w5 _).tr n6)⟩
  · clear hh h6
    go_wp2_with fail
    refine (QV.out _ (N5.out.alloc _)).mono ?_
    rintro e w6 ⟨rfl, n6⟩
    go_wp2
    go_ret
    exact ⟨rfl, N5.out.tr ((nwa w5 _).tr n6)⟩
set_option maxRecDepth 100000 in
set_option maxHeartbeats 2000000 in
theorem covers_any (L I S : Nat) (hL : L ≤ 255) (hI : I < 18446744073709551616) (hS : S < 18446744073709551616) (w : World) (hP : TX.Pow w) (hM : MaxL w) {B : Nat} {a : Nat → Addr} (hSe : Sent B w a) :
    Calls Tryz.prog 5 #[cd L I, .int .u64 (S : Int)] w fun e w' => e = .returned (.bool true) ∧ Nw w w' := by
  have QV : Hid (∀ V, Nw w V → Calls Tryz.prog 15 #[] V fun e w' => e = .returned (.bool true) ∧ Nw V w') := fun V nV => lives_any V (hP.fr nV) (hM.nw nV) (hSe.fr nV (fun _ _ f => f))
  clear hP hM hSe
  by_cases h : may L I
  case neg =>
    have Q1 : Hid (∀ V, Calls Tryz.prog 19 #[cd L I] V fun e w' => e = .returned (.tuple #[tl 0 0 0, .int .i64 0, .int .i64 0, .bool false]) ∧ Nw V w') := fun V => tof_no L I h hL hI V
    have Q2 : Hid (∀ V, Calls Tryz.prog 20 #[cd L I] V fun e w' => e = .returned (.tuple #[sp 0 0, .bool false]) ∧ Nw V w') := fun V => span_no L I h hL hI V
    go_enter Tryz.func5, Tryz.ntmps5
    go_wp2_with fail
    refine (Q1.out _).mono ?_
    rintro e w1 ⟨rfl, n1⟩
    obtain ⟨l0, b0, m1⟩ := one_made n1
    have N1 : Hid (Nw w w1) := m1
    have e0 := cell2a b0
    have e1 := cell2b b0
    clear n1 b0 m1
    go_wp2_with fail
    refine (Q2.out _).mono ?_
    rintro e w2 ⟨rfl, n2⟩
    obtain ⟨l1, b1, m2⟩ := one_made n2
    have N2 : Hid (Nw w w2) := N1.out.tr m2
    obtain ⟨c0, c1, c2⟩ := cell3 b1
    clear n2 m2 N1 e0 e1 l0
    go_wp2_with fail
    refine (QV.out _ (N2.out.alloc _)).mono ?_
    rintro e w3 ⟨rfl, n3⟩
    go_wp2
    go_ret
    exact ⟨rfl, N2.out.tr ((nwa w2 _).tr n3)⟩
  have Q1 := show Hid _ from fun V => tof_yes L I h V
  have Q2 := show Hid _ from fun V => span_yes L I h V
  have hf := at_facts h
  have hp := pow8 (L % 8) (by omega)
  have hb := ofA_bd h
  have Q3 := show Hid _ from fun V => span_yes _ _ (may8 (k := 0) h hp.2) V
  have Q4 := show Hid _ from fun V => span_yes _ _ (may8 (k := 2 ^ (L % 8) - 1) h (by omega)) V
  have hl7 : L / 8 ≤ 7 := by have := h.1; omega
  have hIb : ofA L I / 256 < 18446744073709551616 := by omega
  have H : Hid (may L I) := h
  have HX : Hid (∀ X, X = wid (L / 8) (ofA L I / 256) S → (S ≤ 9223372036854775808 ∧ (I + 1) * 2 ^ L ≤ S → ofA L I % 256 + 2 ^ (L % 8) ≤ X ∧ X ≤ ofW L)) := fun X hX hh => by rw [hX]; exact covers_wid H.out hh.1 hh.2
  obtain ⟨x, y, z, ok, hx6, hy6, hz6, h5, h6⟩ : ∃ (x y z : Nat) (ok : Bool), x ≤ 255 ∧ y < 18446744073709551616 ∧ z ≤ 256 ∧ (∀ V, Calls Tryz.prog 17 #[.int .u8 ((L / 8 : Nat) : Int), .int .u64 ((ofA L I / 256 : Nat) : Int), .int .u64 (S : Int)] V fun e w' => e = .returned (.tuple #[tl x y z, .bool ok]) ∧ Nw V w') ∧ (S ≤ 9223372036854775808 ∧ (I + 1) * 2 ^ L ≤ S → ok = true ∧ x = L / 8 ∧ y = ofA L I / 256 ∧ ofA L I % 256 + 2 ^ (L % 8) ≤ z ∧ z ≤ ofW L) := by
    by_cases hw : wid (L / 8) (ofA L I / 256) S = 0
    · refine ⟨0, 0, 0, false, by omega, by omega, by omega, in_no _ _ S (by omega) hIb hS hw, fun hh => ?_⟩
      have := HX.out _ rfl hh
      omega
    · exact ⟨_, _, _, true, by omega, hIb, wid_le _ _ _, in_yes _ _ S _ hIb rfl (by omega), fun hh => ⟨rfl, rfl, rfl, HX.out _ rfl hh⟩⟩
  have Q5 := show Hid _ from h5
  have hbg := begins L I
  have hen := ends L I
  have hsb : (I + 1) * 2 ^ L ≤ 9223372036854775808 := by have := h.2; rwa [p63] at this
  have hsb0 : I * 2 ^ L ≤ (I + 1) * 2 ^ L := Nat.mul_le_mul_right _ (by omega)
  rw [Nat.add_zero, hbg] at Q3
  rw [hen] at Q4
  have hWb : ofW L ≤ 256 := by unfold ofW; split <;> omega
  have hE1 : (ofA L I + 1) * 2 ^ (8 * (L / 8)) ≤ 9223372036854775808 := by have := (may8 (k := 0) h hp.2).2; rwa [p63, Nat.add_zero] at this
  have hB2 : (ofA L I + (2 ^ (L % 8) - 1)) * 2 ^ (8 * (L / 8)) ≤ (I + 1) * 2 ^ L := by rw [← hen]; exact Nat.mul_le_mul_right _ (by omega)
  have hA : ofA L I / 256 * 256 + ofA L I % 256 = ofA L I := by omega
  have hfl : ofA L I + 2 ^ (L % 8) ≤ 9223372036854775808 := by
    have h1 := ofA_lt h
    have h2 : 2 ^ (63 - 8 * (L / 8)) ≤ 2 ^ 63 := Nat.pow_le_pow_right (by decide) (by omega)
    rw [p63] at h2
    omega
  refine covers_core L I S (L / 8) (ofA L I / 256) (ofA L I % 256) (2 ^ (L % 8)) (ofW L) (I * 2 ^ L) ((I + 1) * 2 ^ L) ((ofA L I + 1) * 2 ^ (8 * (L / 8))) ((ofA L I + (2 ^ (L % 8) - 1)) * 2 ^ (8 * (L / 8))) x y z ok hL hI hS hl7 (by omega) hp.2 hf.2 hWb hf.1 (by omega) hsb hE1 (by omega) ?_ ?_ ?_ w Q1 Q2 (by rw [hA]; exact Q3) ?_ Q5 h6 QV
  · exact hz6
  · exact hx6
  · exact hy6
  · have : (.int .u64 (((ofA L I / 256 : Nat) : Int) * 256 + (((ofA L I % 256 : Nat) : Int) + ((2 ^ (L % 8) : Nat) : Int) - 1)) : Value) = .int .u64 ((ofA L I + (2 ^ (L % 8) - 1) : Nat) : Int) := by
      congr 1
      have h3 := hp.2
      generalize 2 ^ (L % 8) = C at *
      omega
    rw [this]
    exact Q4
end Go.Proofs.YtlgokcijmhkdiabGreatDoor
