/- tile: readName, Parse. -/
import Derived.Test.YtgobdjdaehlgdaaGreatDoorU9
namespace Go.Proofs.YtgobdjdaehlgdaaGreatDoor
open Go.RowKit
open Go.Lib (decDigits nDigits)
set_option linter.unusedVariables false
set_option linter.unusedSimpArgs false
abbrev mP : List UInt8 := [46, 112, 47]
abbrev mS : List UInt8 := [47]
/-- What is read out of a text that may be a name. -/
def rdL (X : List UInt8) : Nat := num (cutA (cutB (cutA X mP) mS) mS) % 256
def rdI (X : List UInt8) : Nat := num (joinL (cutB (cutB (cutA X mP) mS) mS))
def rdW (X : List UInt8) : Int := if 0 ≤ Lib.index X mP then IntKind.i64.wrap (num (cutB X mP) : Int) else 256
theorem undec_le : ∀ (t : List UInt8) (p n z : Nat), n ≤ 18446744073709551615 → TX.undec p n t = .ok z → z ≤ 18446744073709551615
  | [], p, n, z, hn, h => by simp [TX.undec] at h; omega
  | c :: r, p, n, z, hn, h => by
    rw [TX.undec] at h
    split at h
    · cases h
    · exact undec_le r _ _ z (by omega) h
theorem num_le (X : List UInt8) : num X ≤ 18446744073709551615 := by
  unfold num
  split
  · next n h =>
    unfold TX.fromdec at h
    split at h
    · cases h
    · exact undec_le _ _ _ _ (by omega) h
  · omega
theorem cutA_len (X M : List UInt8) : (cutA X M).length ≤ X.length := by
  unfold cutA; split
  · exact Nat.le_refl _
  · rw [List.length_take]; omega
theorem cutB_len (X M : List UInt8) : (cutB X M).length ≤ X.length := by
  unfold cutB; split
  · simp
  · rw [List.length_drop]; omega
theorem joinF_len : ∀ (f : Nat) (X : List UInt8), (joinF f X).length ≤ X.length
  | 0, X => by simp [joinF]
  | f + 1, X => by
    unfold joinF
    have h1 := cut_lens X
    have h2 := strp_len (cutA X [47])
    split
    · have := joinF_len f (cutB X [47])
      rw [List.length_append]; omega
    · rw [List.append_nil]; omega
theorem joinL_len (X : List UInt8) : (joinL X).length ≤ X.length := joinF_len _ X
set_option maxRecDepth 100000 in
set_option maxHeartbeats 1000000 in
theorem read_any (X : List UInt8) (hX : X.length ≤ 1000) (v : Value) (w : World) (hv : Byl w v X) (hM : MaxL w) {B : Nat} {a : Nat → Addr} (hS : Sent B w a) :
    Calls Tryz.prog 85 #[v] w fun e w' => e = .returned (.agg #[.int .u8 (rdL X : Int), .int .u64 (rdI X : Int), .int .i64 (rdW X)]) ∧ Nw w w' := by
  have HM : Hid (MaxL w) := hM
  have SS : Hid (∀ V, Nw w V → Sent B V a) := fun V nV => hS.fr nV (fun _ _ f => f)
  have HV : Hid (Byl w v X) := hv
  have QC : Hid (∀ (Y : List UInt8) (m : ByteArray), 1 ≤ m.size → m.size ≤ 3 → ∀ (u : Value) (V : World), Byl w u Y → Nw w V → Calls Tryz.prog 130 #[u, .string m] V fun e w' => ∃ v1 v2, e = .returned (.tuple #[v1, v2, .bool (decide (0 ≤ Lib.index Y m.data.toList))]) ∧ Byl w v1 (cutA Y m.data.toList) ∧ Byl w v2 (cutB Y m.data.toList) ∧ Nw V w') := fun Y m h1 h2 u V hu nV => cut_any Y m h1 h2 u V w hu nV (HM.out.nw nV)
  have QN : Hid (∀ (Y : List UInt8) (u : Value) (V : World), Y.length ≤ 1000 → Byl V u Y → Nw w V → Calls Tryz.prog 131 #[u] V fun e w' => e = .returned (.int .u64 (num Y : Int)) ∧ Nw V w') := fun Y u V hY hu nV => number_any Y (by omega) u V hu (SS.out V nV)
  have lA := cutA_len X mP
  have lB := cutB_len X mP
  have lA1 := cutB_len (cutA X mP) mS
  have lL := cutA_len (cutB (cutA X mP) mS) mS
  have lI := cutB_len (cutB (cutA X mP) mS) mS
  have lJ := joinL_len (cutB (cutB (cutA X mP) mS) mS)
  have HJ : Hid ((cutB X mP).length ≤ 1000 ∧ (cutA (cutB (cutA X mP) mS) mS).length ≤ 1000 ∧ (cutB (cutB (cutA X mP) mS) mS).length ≤ 1000 ∧ (joinL (cutB (cutB (cutA X mP) mS) mS)).length ≤ 1000) := ⟨by omega, by omega, by omega, by omega⟩
  obtain ⟨L0, hL0⟩ : ∃ n, n = num (cutA (cutB (cutA X mP) mS) mS) := ⟨_, rfl⟩
  obtain ⟨I0, hI0⟩ : ∃ n, n = num (joinL (cutB (cutB (cutA X mP) mS) mS)) := ⟨_, rfl⟩
  obtain ⟨W0, hW0⟩ : ∃ n, n = num (cutB X mP) := ⟨_, rfl⟩
  have hLb : L0 ≤ 18446744073709551615 := by rw [hL0]; exact num_le _
  have hIb : I0 ≤ 18446744073709551615 := by rw [hI0]; exact num_le _
  have hWb : W0 ≤ 18446744073709551615 := by rw [hW0]; exact num_le _
  have HL0 : Hid (num (cutA (cutB (cutA X mP) mS) mS) = L0) := hL0.symm
  have HI0 : Hid (num (joinL (cutB (cutB (cutA X mP) mS) mS)) = I0) := hI0.symm
  have HW0 : Hid (num (cutB X mP) = W0) := hW0.symm
  unfold rdL rdI rdW
  rw [← hL0, ← hI0, ← hW0, show (((L0 % 256 : Nat)) : Int) = (L0 : Int) % 256 by omega]
  obtain ⟨Z, hZ⟩ : ∃ Z : Int, Z = if 0 ≤ Lib.index X mP then IntKind.i64.wrap (W0 : Int) else 256 := ⟨_, rfl⟩
  have HZ : Hid (Z = if 0 ≤ Lib.index X mP then IntKind.i64.wrap (W0 : Int) else 256) := hZ
  rw [← hZ]
  clear hZ
  clear hv hM hS lA lB lA1 lL lI lJ hL0 hI0 hW0
  go_enter Tryz.func85, Tryz.ntmps85
  go_wp2_with fail
  refine (QC.out X ⟨#[46, 112, 47]⟩ (by decide) (by decide) v _ HV.out (nwa w _)).mono ?_
  rintro e w1 ⟨vA, vW, rfl, hA, hW, n1⟩
  obtain ⟨l0, b0, m1⟩ := one_made n1
  have B1 : Hid (w1.heap[w.heap.size]? = some (.cells #[.int .u8 0, .int .u64 0, .int .i64 0] 56)) := b0
  have M1 : Hid (Nw w w1) := m1
  have HA : Hid (Byl w vA (cutA X mP)) := hA
  have HW : Hid (Byl w vW (cutB X mP)) := hW
  obtain ⟨nar, hnar⟩ : ∃ b, b = decide (0 ≤ Lib.index X mP) := ⟨_, rfl⟩
  rw [show (⟨#[46, 112, 47]⟩ : ByteArray).data.toList = mP from rfl, ← hnar]
  have HNAR : Hid (nar = decide (0 ≤ Lib.index X mP)) := hnar
  clear n1 l0 b0 m1 hA hW hnar
  go_wp2_with fail
  refine (QC.out _ ⟨#[47]⟩ (by decide) (by decide) vA _ HA.out M1.out).mono ?_
  rintro e w2 ⟨vx, vB, rfl, hx, hB, n2⟩
  have M2 : Hid (Nw w w2) := M1.out.tr n2
  have B2 : Hid (w2.heap[w.heap.size]? = some (.cells #[.int .u8 0, .int .u64 0, .int .i64 0] 56)) := (n2.block _ (heap_lt B1.out) (fun f => f)).trans B1.out
  have HB : Hid (Byl w vB (cutB (cutA X mP) mS)) := hB
  obtain ⟨b2, hb2⟩ : ∃ b, b = decide (0 ≤ Lib.index (cutA X mP) (⟨#[47]⟩ : ByteArray).data.toList) := ⟨_, rfl⟩
  rw [← hb2]
  clear n2 hx hB hb2
  go_wp2_with fail
  refine (QC.out _ ⟨#[47]⟩ (by decide) (by decide) vB _ HB.out M2.out).mono ?_
  rintro e w3 ⟨vL, vI, rfl, hL, hI, n3⟩
  have M3 : Hid (Nw w w3) := M2.out.tr n3
  have B3 : Hid (w3.heap[w.heap.size]? = some (.cells #[.int .u8 0, .int .u64 0, .int .i64 0] 56)) := (n3.block _ (heap_lt B2.out) (fun f => f)).trans B2.out
  have HLv : Hid (Byl w vL (cutA (cutB (cutA X mP) mS) mS)) := hL
  have HIv : Hid (Byl w vI (cutB (cutB (cutA X mP) mS) mS)) := hI
  obtain ⟨b3, hb3⟩ : ∃ b, b = decide (0 ≤ Lib.index (cutB (cutA X mP) (⟨#[47]⟩ : ByteArray).data.toList) (⟨#[47]⟩ : ByteArray).data.toList) := ⟨_, rfl⟩
  rw [← hb3]
  clear n3 hL hI hb3
  have q4 := QN.out _ vL w3 HJ.out.2.1 (HLv.out.nw M3.out) M3.out
  rw [HL0.out] at q4
  go_wp2_with fail
  refine q4.mono ?_
  rintro e w4 ⟨rfl, n4⟩
  have M4 : Hid (Nw w w4) := M3.out.tr n4
  have B4 : Hid (w4.heap[w.heap.size]? = some (.cells #[.int .u8 0, .int .u64 0, .int .i64 0] 56)) := (n4.block _ (heap_lt B3.out) (fun f => f)).trans B3.out
  clear n4 q4
  go_wp2_with fail
  refine (join_any _ (by have := HJ.out.2.2.1; omega) vI w4 (HIv.out.nw M4.out) (HM.out.nw M4.out)).mono ?_
  rintro e w5 ⟨vJ, rfl, hJ5, n5⟩
  have M5 : Hid (Nw w w5) := M4.out.tr n5
  have B5 : Hid (w5.heap[w.heap.size]? = some (.cells #[.int .u8 0, .int .u64 0, .int .i64 0] 56)) := (n5.block _ (heap_lt B4.out) (fun f => f)).trans B4.out
  have q5 := QN.out _ vJ w5 HJ.out.2.2.2 hJ5 M5.out
  rw [HI0.out] at q5
  clear n5 hJ5
  go_wp2_with fail
  refine q5.mono ?_
  rintro e w6 ⟨rfl, n6⟩
  have M6 : Hid (Nw w w6) := M5.out.tr n6
  have B6 : w6.heap[w.heap.size]? = some (.cells #[.int .u8 0, .int .u64 0, .int .i64 0] 56) := (n6.block _ (heap_lt B5.out) (fun f => f)).trans B5.out
  clear n6 q5
  cases nar with
  | false =>
    have hneg : ¬ 0 ≤ Lib.index X mP := of_decide_eq_false HNAR.out.symm
    have hZ : Z = 256 := by rw [HZ.out, if_neg hneg]
    subst hZ
    obtain ⟨d0, d1, d2⟩ := cell3 B6
    have z0 := frozen_of B6 0
    have z1 := frozen_of B6 1
    have z2 := frozen_of B6 2
    have l6 := heap_lt B6
    have m6 := M6.out
    clear hneg HNAR HZ
    go_wp2
    (refine bodyPost_ret (results_cell (V := #[.int .u8 ((L0 : Int) % 256), .int .u64 (I0 : Int), .int .i64 256]) (ty := 56) (f := (0, 0)) Tryz.results85 Tryz.isAgg56 Tryz.sizeOf56 rfl ?_ rfl) rfl ⟨rfl, (by repeat first | with_reducible exact m6 | with_reducible refine Fr.alloc ?_ _ | with_reducible refine Fr.drew ?_ | (with_reducible refine Fr.setCell ?_ _ _ (fun h => ?_); rotate_left; focus (simp only at h; omega)))⟩; (repeat first | with_reducible exact B6 | with_reducible exact heap_new _ _ | with_reducible exact heap_next _ _ _ | with_reducible exact heap_third _ _ _ _ | with_reducible refine hp_dr ?_ | (with_reducible refine hp_ne ?_ ?_; focus omega) | (with_reducible refine hp_al ?_ ?_; focus (first | omega | (simp <;> omega))) | with_reducible apply hp_set) <;> rfl)
  | true =>
    have hpos : 0 ≤ Lib.index X mP := of_decide_eq_true HNAR.out.symm
    have hZ : Z = IntKind.i64.wrap (W0 : Int) := by rw [HZ.out, if_pos hpos]
    subst hZ
    clear HZ
    have l6 := heap_lt B6
    obtain ⟨w7, hw7⟩ : ∃ q, q = w6.alloc (.cells #[.int .u8 ((L0 : Int) % 256), .int .u64 (I0 : Int), .int .i64 256] 56) := ⟨_, rfl⟩
    have n7 : Nw w6 w7 := by rw [hw7]; exact nwa w6 _
    have q7 := QN.out _ vW w7 HJ.out.1 (HW.out.nw (M6.out.tr n7)) (M6.out.tr n7)
    rw [HW0.out, hw7] at q7
    clear hpos HNAR n7 hw7
    go_wp2_with fail
    refine q7.mono ?_
    rintro e w8 ⟨rfl, n8⟩
    have n68 : Nw w6 w8 := (nwa w6 _).tr n8
    have B8 : w8.heap[w.heap.size]? = some (.cells #[.int .u8 0, .int .u64 0, .int .i64 0] 56) := (n68.block _ l6 (fun f => f)).trans B6
    have T8 : w8.heap[w6.heap.size]? = some (.cells #[.int .u8 ((L0 : Int) % 256), .int .u64 (I0 : Int), .int .i64 256] 56) := (n8.block _ (by simp) (fun f => f)).trans (heap_new w6 _)
    obtain ⟨d0, d1, d2⟩ := cell3 B8
    have z0 := frozen_of B8 0
    have z1 := frozen_of B8 1
    have z2 := frozen_of B8 2
    obtain ⟨e0, e1, e2⟩ := cell3 T8
    have y0 := frozen_of T8 0
    have y1 := frozen_of T8 1
    have y2 := frozen_of T8 2
    have l8 := heap_lt B8
    have k8 := heap_lt T8
    have m8 := M6.out.tr n68
    have hsz6 := M6.out.size
    have hq : Ending.returned (.agg #[.int .u8 ((L0 : Int) % 256), .int .u64 (I0 : Int), .int .i64 (wrap64 (W0 : Int))]) = .returned (.agg #[.int .u8 ((L0 : Int) % 256), .int .u64 (I0 : Int), .int .i64 (IntKind.i64.wrap (W0 : Int))]) := by rw [IntKind.wrap_i64, wrap64]
    have HQ := show Hid _ from hq
    clear hq
    clear q7 n8 n68
    go_wp2
    (refine bodyPost_ret (results_cell (V := #[.int .u8 ((L0 : Int) % 256), .int .u64 (I0 : Int), .int .i64 (wrap64 (W0 : Int))]) (ty := 56) (f := (0, 0)) Tryz.results85 Tryz.isAgg56 Tryz.sizeOf56 rfl ?_ rfl) rfl ⟨HQ.out, (by repeat first | with_reducible exact m8 | with_reducible refine Fr.alloc ?_ _ | with_reducible refine Fr.drew ?_ | (with_reducible refine Fr.setCell ?_ _ _ (fun h => ?_); rotate_left; focus (simp only at h; omega)))⟩; (repeat first | with_reducible exact B8 | with_reducible exact heap_new _ _ | with_reducible exact heap_next _ _ _ | with_reducible exact heap_third _ _ _ _ | with_reducible refine hp_dr ?_ | (with_reducible refine hp_ne ?_ ?_; focus omega) | (with_reducible refine hp_al ?_ ?_; focus (first | omega | (simp <;> omega))) | with_reducible apply hp_set) <;> rfl)
theorem nm_size {L I W : Nat} : (⟨(nm L I W).toArray⟩ : ByteArray).data.toList = nm L I W := bx _
set_option maxRecDepth 100000 in
set_option maxHeartbeats 1000000 in
theorem parse_big (s : ByteArray) (h : 41 < s.size) (hs : s.size < 4611686018427387904) (w : World) {B : Nat} {a : Nat → Addr} (hS : Sent B w a) :
    Calls Tryz.prog 15 #[.string s] w fun e w' => e = .returned (.tuple #[tl 0 0 0, sen (a 2)]) ∧ Nw w w' := by
  have hbi : (41 : Int) < (s.size : Int) := by omega
  have n0 := nwa w (.cells #[.int .u8 0, .int .u64 0, .int .i64 0] 56)
  have e2 := (hS.fr n0 (fun _ _ f => f)).c2
  have hlt : 2 < w.heap.size := World.block_lt_of_cell? w _ hS.c2
  have b0 := heap_new w (.cells #[.int .u8 0, .int .u64 0, .int .i64 0] 56)
  obtain ⟨w1, hw1⟩ : ∃ q, w.alloc (.cells #[.int .u8 0, .int .u64 0, .int .i64 0] 56) = q := ⟨_, rfl⟩
  rw [hw1] at n0 e2 b0
  clear hS h
  go_enter Tryz.func15, Tryz.ntmps15
  go_wp2_with fail
  clear hw1
  obtain ⟨d0, d1, d2⟩ := cell3 b0
  have z0 := frozen_of b0 0
  have z1 := frozen_of b0 1
  have z2 := frozen_of b0 2
  have l0 := heap_lt b0
  go_region
  all_goals
    go_wp2
    (refine bodyPost_ret (results_cell_slot (V := #[.int .u8 0, .int .u64 0, .int .i64 0]) (ty := 56) (f := (0, 0)) Tryz.results15 Tryz.isAgg56 Tryz.sizeOf56 rfl _ rfl ?_ rfl) rfl ⟨rfl, (by repeat first | with_reducible exact n0 | with_reducible refine Fr.alloc ?_ _ | with_reducible refine Fr.drew ?_ | (with_reducible refine Fr.setCell ?_ _ _ (fun h => ?_); rotate_left; focus (simp only at h; omega)))⟩; (repeat first | with_reducible exact b0 | with_reducible exact heap_new _ _ | with_reducible exact heap_next _ _ _ | with_reducible exact heap_third _ _ _ _ | with_reducible refine hp_dr ?_ | (with_reducible refine hp_ne ?_ ?_; focus omega) | (with_reducible refine hp_al ?_ ?_; focus (first | omega | (simp <;> omega))) | with_reducible apply hp_set) <;> rfl)
set_option maxRecDepth 100000 in
set_option maxHeartbeats 2000000 in
theorem parse_any (s : ByteArray) (hs : s.size ≤ 41) (L I : Nat) (W : Int) (ok : Bool) (hL : rdL s.data.toList = L) (hI : rdI s.data.toList = I) (hW : rdW s.data.toList = W) (hok : ok = true ↔ mayT L I W ∧ nm L I W.toNat = s.data.toList) (w : World) (hP : TX.Pow w) (hM : MaxL w) {B : Nat} {a : Nat → Addr} (hS : Sent B w a) :
    Calls Tryz.prog 15 #[.string s] w fun e w' => e = .returned (.tuple #[if ok = true then .agg #[.int .u8 (L : Int), .int .u64 (I : Int), .int .i64 W] else tl 0 0 0, if ok = true then .nilIface else sen (a 2)]) ∧ Nw w w' := by
  have hbi : ¬ (41 : Int) < (s.size : Int) := by omega
  have SS : Hid (∀ V, Nw w V → Sent B V a) := fun V nV => hS.fr nV (fun _ _ f => f)
  have HP : Hid (TX.Pow w) := hP
  have HM : Hid (MaxL w) := hM
  have hlt : 2 < w.heap.size := World.block_lt_of_cell? w _ hS.c2
  have HOK : Hid (ok = true ↔ mayT L I W ∧ nm L I W.toNat = s.data.toList) := hok
  have hLb : L ≤ 255 := by rw [← hL]; unfold rdL; omega
  have hIb : I < 18446744073709551616 := by rw [← hI]; unfold rdI; have := num_le (joinL (cutB (cutB (cutA s.data.toList mP) mS) mS)); omega
  have n0 := nwa w (.cells #[.int .u8 0, .int .u64 0, .int .i64 0] 56)
  have b0 := heap_new w (.cells #[.int .u8 0, .int .u64 0, .int .i64 0] 56)
  obtain ⟨w1, hw1⟩ : ∃ q, w.alloc (.cells #[.int .u8 0, .int .u64 0, .int .i64 0] 56) = q := ⟨_, rfl⟩
  rw [hw1] at n0 b0
  obtain ⟨w2, c2, hcv, hB2, n2, _⟩ := conv_str s (by omega) w1
  have q3 := read_any s.data.toList (by rw [bytes_len]; omega) _ w2 hB2 (HM.out.nw (n0.tr n2)) (SS.out _ (n0.tr n2))
  rw [hL, hI, hW] at q3
  have N0 : Hid (Nw w w1) := n0
  have B0 : Hid (w1.heap[w.heap.size]? = some (.cells #[.int .u8 0, .int .u64 0, .int .i64 0] 56)) := b0
  have N2 : Hid (Nw w1 w2) := n2
  clear hS hP hM hok hL hI hW hB2 n0 b0 n2
  go_enter Tryz.func15, Tryz.ntmps15
  go_wp2_with fail
  refine q3.mono ?_
  rintro e w3 ⟨rfl, n3⟩
  have B3 : Hid (w3.heap[w.heap.size]? = some (.cells #[.int .u8 0, .int .u64 0, .int .i64 0] 56)) := ((N2.out.tr n3).block _ (heap_lt B0.out) (fun f => f)).trans B0.out
  have N3 : Hid (Nw w w3) := N0.out.tr (N2.out.tr n3)
  clear q3 hcv hw1 n3
  obtain ⟨w4, hw4⟩ : ∃ q, w3.alloc (.cells #[.int .u8 (L : Int), .int .u64 (I : Int), .int .i64 W] 56) = q := ⟨_, rfl⟩
  have n4 : Nw w3 w4 := by rw [← hw4]; exact nwa w3 _
  have t4 : w4.heap[w3.heap.size]? = some (.cells #[.int .u8 (L : Int), .int .u64 (I : Int), .int .i64 W] 56) := by rw [← hw4]; exact heap_new w3 _
  have B4 : Hid (w4.heap[w.heap.size]? = some (.cells #[.int .u8 0, .int .u64 0, .int .i64 0] 56)) := (n4.block _ (heap_lt B3.out) (fun f => f)).trans B3.out
  have N4 : Hid (Nw w w4) := N3.out.tr n4
  have T4 : Hid (w4.heap[w3.heap.size]? = some (.cells #[.int .u8 (L : Int), .int .u64 (I : Int), .int .i64 W] 56)) := t4
  obtain ⟨d0, d1, d2⟩ := cell3 t4
  clear n4 t4
  by_cases hm : mayT L I W
  · obtain ⟨n, rfl⟩ := mayT_nat hm
    have q5 := path_yes L I n hm w4 (HP.out.fr N4.out)
    obtain ⟨x, hx⟩ : ∃ x, x = (⟨(nm L I n).toArray⟩ : ByteArray) := ⟨_, rfl⟩
    rw [← hx] at q5
    have HX : Hid (x.data.toList = nm L I n) := by show _ = _; rw [hx, bx]
    clear hx
    go_wp2_with fail
    refine q5.mono ?_
    rintro e w5 ⟨rfl, n5⟩
    have B5 : w5.heap[w.heap.size]? = some (.cells #[.int .u8 0, .int .u64 0, .int .i64 0] 56) := (n5.block _ (heap_lt B4.out) (fun f => f)).trans B4.out
    have T5 : w5.heap[w3.heap.size]? = some (.cells #[.int .u8 (L : Int), .int .u64 (I : Int), .int .i64 (n : Int)] 56) := (n5.block _ (heap_lt T4.out) (fun f => f)).trans T4.out
    have N5 : Nw w w5 := N4.out.tr n5
    have e2 := (SS.out _ N5).c2
    clear q5 n5 hw4 d0 d1 d2
    obtain ⟨f0, f1, f2⟩ := cell3 T5
    obtain ⟨d0, d1, d2⟩ := cell3 B5
    have z0 := frozen_of B5 0
    have z1 := frozen_of B5 1
    have z2 := frozen_of B5 2
    have l5 := heap_lt B5
    by_cases hxs : x = s
    · subst hxs
      obtain rfl : ok = true := HOK.out.2 ⟨hm, by rw [Int.toNat_natCast]; exact HX.out.symm⟩
      go_wp2
      (refine bodyPost_ret (results_cell_slot (V := #[.int .u8 (L : Int), .int .u64 (I : Int), .int .i64 (n : Int)]) (ty := 56) (f := (0, 0)) Tryz.results15 Tryz.isAgg56 Tryz.sizeOf56 rfl _ rfl ?_ rfl) rfl ⟨rfl, (by repeat first | with_reducible exact N5 | with_reducible refine Fr.alloc ?_ _ | with_reducible refine Fr.drew ?_ | (with_reducible refine Fr.setCell ?_ _ _ (fun h => ?_); rotate_left; focus (simp only at h; omega)))⟩; (repeat first | with_reducible exact B5 | with_reducible exact heap_new _ _ | with_reducible exact heap_next _ _ _ | with_reducible exact heap_third _ _ _ _ | with_reducible refine hp_dr ?_ | (with_reducible refine hp_ne ?_ ?_; focus omega) | (with_reducible refine hp_al ?_ ?_; focus (first | omega | (simp <;> omega))) | with_reducible apply hp_set) <;> rfl)
    · have hok : ok = false := by
        cases ok with
        | false => rfl
        | true =>
          have := (HOK.out.1 rfl).2
          rw [Int.toNat_natCast, ← HX.out] at this
          exact absurd (ByteArray.ext (Array.ext' this)) hxs
      subst hok
      have hq : (x.toList == s.toList) = false := by
        rw [beq_eq_false_iff_ne]
        intro e
        rw [ByteArray.toList_eq, ByteArray.toList_eq] at e
        exact hxs (ByteArray.ext (Array.ext' e))
      clear hxs f0 f1 f2
      go_wp2
      go_region
      all_goals
        go_wp2
        (refine bodyPost_ret (results_cell_slot (V := #[.int .u8 0, .int .u64 0, .int .i64 0]) (ty := 56) (f := (0, 0)) Tryz.results15 Tryz.isAgg56 Tryz.sizeOf56 rfl _ rfl ?_ rfl) rfl ⟨rfl, (by repeat first | with_reducible exact N5 | with_reducible refine Fr.alloc ?_ _ | with_reducible refine Fr.drew ?_ | (with_reducible refine Fr.setCell ?_ _ _ (fun h => ?_); rotate_left; focus (simp only at h; omega)))⟩; (repeat first | with_reducible exact B5 | with_reducible exact heap_new _ _ | with_reducible exact heap_next _ _ _ | with_reducible exact heap_third _ _ _ _ | with_reducible refine hp_dr ?_ | (with_reducible refine hp_ne ?_ ?_; focus omega) | (with_reducible refine hp_al ?_ ?_; focus (first | omega | (simp <;> omega))) | with_reducible apply hp_set) <;> rfl)
  · have q5 := path_no L I W hLb hIb hm w4 (SS.out _ N4.out)
    obtain rfl : ok = false := by
      cases ok with
      | false => rfl
      | true => exact absurd (HOK.out.1 rfl).1 hm
    go_wp2_with fail
    refine q5.mono ?_
    rintro e w5 ⟨rfl, n5⟩
    have B5 : w5.heap[w.heap.size]? = some (.cells #[.int .u8 0, .int .u64 0, .int .i64 0] 56) := (n5.block _ (heap_lt B4.out) (fun f => f)).trans B4.out
    have N5 : Nw w w5 := N4.out.tr n5
    have e2 := (SS.out _ N5).c2
    clear q5 n5 hw4 d0 d1 d2 hm
    obtain ⟨d0, d1, d2⟩ := cell3 B5
    have z0 := frozen_of B5 0
    have z1 := frozen_of B5 1
    have z2 := frozen_of B5 2
    have l5 := heap_lt B5
    go_wp2
    go_region
    all_goals
      go_wp2
      (refine bodyPost_ret (results_cell_slot (V := #[.int .u8 0, .int .u64 0, .int .i64 0]) (ty := 56) (f := (0, 0)) Tryz.results15 Tryz.isAgg56 Tryz.sizeOf56 rfl _ rfl ?_ rfl) rfl ⟨rfl, (by repeat first | with_reducible exact N5 | with_reducible refine Fr.alloc ?_ _ | with_reducible refine Fr.drew ?_ | (with_reducible refine Fr.setCell ?_ _ _ (fun h => ?_); rotate_left; focus (simp only at h; omega)))⟩; (repeat first | with_reducible exact B5 | with_reducible exact heap_new _ _ | with_reducible exact heap_next _ _ _ | with_reducible exact heap_third _ _ _ _ | with_reducible refine hp_dr ?_ | (with_reducible refine hp_ne ?_ ?_; focus omega) | (with_reducible refine hp_al ?_ ?_; focus (first | omega | (simp <;> omega))) | with_reducible apply hp_set) <;> rfl)
end Go.Proofs.YtgobdjdaehlgdaaGreatDoor
