/- CoordMeets. -/
import Derived.Test.YtibkmcmgolbhhabDoorD3
import Derived.Test.YtibkmcmgolbhhabDoorD6
namespace Go.Proofs.YtibkmcmgolbhhabDoor
open Go.RowKit
set_option linter.unusedVariables false
set_option linter.unusedSimpArgs false

theorem hid2 {p : Prop} (h : p) : Hid p := h
theorem half_pow {m : Nat} (h : 0 < m) (q : Nat) : q * 2 ^ m = 2 * q * 2 ^ (m - 1) := by
  have hp : 2 ^ m = 2 * 2 ^ (m - 1) := by rw [← Nat.pow_succ']; congr 1; omega
  rw [hp, Nat.mul_comm 2 q, Nat.mul_assoc]
theorem meets_mid {La Ia Lb Ib m q : Nat} (hC : IsC La Ia Lb Ib m) (hq : q = Ia / 2 ^ (m - La)) (h0 : 0 < m) :
    ¬ ((Ia + 1) * 2 ^ La ≤ (2 * q + 1) * 2 ^ (m - 1) ∧ (Ib + 1) * 2 ^ Lb ≤ (2 * q + 1) * 2 ^ (m - 1)) ∧ ¬ ((2 * q + 1) * 2 ^ (m - 1) ≤ Ia * 2 ^ La ∧ (2 * q + 1) * 2 ^ (m - 1) ≤ Ib * 2 ^ Lb) := by
  obtain ⟨a1, a2⟩ := has_iff.2 ⟨hC.la, hq.symm⟩
  obtain ⟨b1, b2⟩ := has_iff.2 ⟨hC.lb, hC.eq.symm.trans hq.symm⟩
  rw [half_pow h0] at a1 a2 b1 b2
  constructor
  · rintro ⟨k1, k2⟩
    obtain ⟨c1, c2⟩ := has_iff.1 ⟨a1, k1⟩
    obtain ⟨d1, d2⟩ := has_iff.1 ⟨b1, k2⟩
    exact hC.least (m - 1) c1 d1 (by omega) (c2.trans d2.symm)
  · rintro ⟨k1, k2⟩
    have e : 2 * (q + 1) = 2 * q + 1 + 1 := by omega
    rw [e] at a2 b2
    obtain ⟨c1, c2⟩ := has_iff.1 ⟨k1, a2⟩
    obtain ⟨d1, d2⟩ := has_iff.1 ⟨k2, b2⟩
    exact hC.least (m - 1) c1 d1 (by omega) (c2.trans d2.symm)
theorem may_child {m q : Nat} (h : may m q) (h0 : 0 < m) : may (m - 1) (2 * q) ∧ may (m - 1) (2 * q + 1) := by
  have h1 := h.1
  have h2 := h.2
  rw [half_pow h0] at h2
  have e : 2 * (q + 1) = 2 * q + 1 + 1 := by omega
  rw [e] at h2
  refine ⟨⟨by omega, Nat.le_trans (Nat.mul_le_mul_right _ (by omega)) h2⟩, ⟨by omega, h2⟩⟩

set_option maxRecDepth 100000 in
set_option maxHeartbeats 4000000 in
theorem meets_no (La Ia Lb Ib : Nat) (hm : ¬ (may La Ia ∧ may Lb Ib)) (hLa : La ≤ 255) (hIa : Ia < 18446744073709551616) (hLb : Lb ≤ 255) (hIb : Ib < 18446744073709551616) (w : World) (hT : TabAt w) :
    Calls Tryd.prog 3 #[cd La Ia, cd Lb Ib] w fun x w' => x = .returned (.bool true) ∧ Nw w w' := by
  have HT : Hid (TabAt w) := hT
  clear hT
  have q1 := fun w => common_no La Ia Lb Ib hm hLa hIa hLb hIb w
  have q2 := fun w => common_no Lb Ib La Ia (fun k => hm ⟨k.2, k.1⟩) hLb hIb hLa hIa w
  obtain ⟨s1, s2, o2, h2, bs1, bs2⟩ := spanIs_ex La Ia
  obtain ⟨s3, s4, o3, h3, bs3, bs4⟩ := spanIs_ex Lb Ib
  have hoo : o2 = false ∨ (o2 = true ∧ o3 = false) := by
    rcases h2 with ⟨k1, _, _, k2⟩ | ⟨_, _, _, k2⟩
    · rcases h3 with ⟨j1, _, _, j2⟩ | ⟨_, _, _, j2⟩
      · exact absurd ⟨k1, j1⟩ hm
      · exact .inr ⟨k2, j2⟩
    · exact .inl k2
  have H2 := hid2 h2
  have H3 := hid2 h3
  clear h2 h3 hm
  go_enter Tryd.func3, Tryd.ntmps3
  go_wp2_with fail
  refine (q1 _).mono ?_
  rintro e1 w1 ⟨rfl, m1⟩
  have n1 : Nw w w1 := Nw.tr (by repeat first | with_reducible exact nwr w | with_reducible refine Fr.alloc ?_ _ | with_reducible refine Fr.drew ?_ | (with_reducible refine Fr.setCell ?_ _ _ (fun h => ?_); rotate_left; focus (simp only at h; omega))) m1
  have ba1 : w1.heap[w.heap.size]? = some (.cells #[.int .u8 (La : Int), .int .u64 (Ia : Int)] 24) := (m1.block _ (by first | omega | (simp <;> omega)) (fun f => f)).trans (by (repeat first | with_reducible exact heap_new _ _ | with_reducible exact heap_new _ _ | with_reducible exact heap_next _ _ _ | with_reducible exact heap_third _ _ _ _ | with_reducible refine hp_dr ?_ | (with_reducible refine hp_ne ?_ ?_; focus omega) | (with_reducible refine hp_al ?_ ?_; focus (first | omega | (simp <;> omega))) | with_reducible apply hp_set) <;> rfl)
  have bb1 : w1.heap[w.heap.size + 1]? = some (.cells #[.int .u8 (Lb : Int), .int .u64 (Ib : Int)] 24) := (m1.block _ (by first | omega | (simp <;> omega)) (fun f => f)).trans (by (repeat first | with_reducible exact heap_new _ _ | with_reducible exact heap_new _ _ | with_reducible exact heap_next _ _ _ | with_reducible exact heap_third _ _ _ _ | with_reducible refine hp_dr ?_ | (with_reducible refine hp_ne ?_ ?_; focus omega) | (with_reducible refine hp_al ?_ ?_; focus (first | omega | (simp <;> omega))) | with_reducible apply hp_set) <;> rfl)
  clear m1
  have la1 := heap_lt ba1
  have xa1 := cell2a ba1
  have ya1 := cell2b ba1
  have lb1 := heap_lt bb1
  have xb1 := cell2a bb1
  have yb1 := cell2b bb1
  go_wp2_with fail
  refine (q2 _).mono ?_
  rintro e2 w2 ⟨rfl, m2⟩
  have n2 : Nw w w2 := Nw.tr (by repeat first | with_reducible exact n1 | with_reducible refine Fr.alloc ?_ _ | with_reducible refine Fr.drew ?_ | (with_reducible refine Fr.setCell ?_ _ _ (fun h => ?_); rotate_left; focus (simp only at h; omega))) m2
  have ba2 : w2.heap[w.heap.size]? = some (.cells #[.int .u8 (La : Int), .int .u64 (Ia : Int)] 24) := (m2.block _ (by first | omega | (simp <;> omega)) (fun f => f)).trans (by (repeat first | with_reducible exact ba1 | with_reducible exact heap_new _ _ | with_reducible exact heap_next _ _ _ | with_reducible exact heap_third _ _ _ _ | with_reducible refine hp_dr ?_ | (with_reducible refine hp_ne ?_ ?_; focus omega) | (with_reducible refine hp_al ?_ ?_; focus (first | omega | (simp <;> omega))) | with_reducible apply hp_set) <;> rfl)
  have bb2 : w2.heap[w.heap.size + 1]? = some (.cells #[.int .u8 (Lb : Int), .int .u64 (Ib : Int)] 24) := (m2.block _ (by first | omega | (simp <;> omega)) (fun f => f)).trans (by (repeat first | with_reducible exact bb1 | with_reducible exact heap_new _ _ | with_reducible exact heap_next _ _ _ | with_reducible exact heap_third _ _ _ _ | with_reducible refine hp_dr ?_ | (with_reducible refine hp_ne ?_ ?_; focus omega) | (with_reducible refine hp_al ?_ ?_; focus (first | omega | (simp <;> omega))) | with_reducible apply hp_set) <;> rfl)
  have bc2 : w2.heap[w1.heap.size]? = some (.cells #[.int .u8 0, .int .u64 0] 24) := (m2.block _ (by first | omega | (simp <;> omega)) (fun f => f)).trans (by (repeat first | with_reducible exact heap_new _ _ | with_reducible exact heap_new _ _ | with_reducible exact heap_next _ _ _ | with_reducible exact heap_third _ _ _ _ | with_reducible refine hp_dr ?_ | (with_reducible refine hp_ne ?_ ?_; focus omega) | (with_reducible refine hp_al ?_ ?_; focus (first | omega | (simp <;> omega))) | with_reducible apply hp_set) <;> rfl)
  clear m2 n1 ba1 la1 xa1 ya1 bb1 lb1 xb1 yb1
  have la2 := heap_lt ba2
  have xa2 := cell2a ba2
  have ya2 := cell2b ba2
  have lb2 := heap_lt bb2
  have xb2 := cell2a bb2
  have yb2 := cell2b bb2
  have lc2 := heap_lt bc2
  have xc2 := cell2a bc2
  have yc2 := cell2b bc2
  go_wp2_with fail
  refine (span_any H2.out hLa hIa _).mono ?_
  rintro e3 w3 ⟨rfl, m3⟩
  have n3 : Nw w w3 := Nw.tr (by repeat first | with_reducible exact n2 | with_reducible refine Fr.alloc ?_ _ | with_reducible refine Fr.drew ?_ | (with_reducible refine Fr.setCell ?_ _ _ (fun h => ?_); rotate_left; focus (simp only at h; omega))) m3
  have bb3 : w3.heap[w.heap.size + 1]? = some (.cells #[.int .u8 (Lb : Int), .int .u64 (Ib : Int)] 24) := (m3.block _ (by first | omega | (simp <;> omega)) (fun f => f)).trans (by (repeat first | with_reducible exact bb2 | with_reducible exact heap_new _ _ | with_reducible exact heap_next _ _ _ | with_reducible exact heap_third _ _ _ _ | with_reducible refine hp_dr ?_ | (with_reducible refine hp_ne ?_ ?_; focus omega) | (with_reducible refine hp_al ?_ ?_; focus (first | omega | (simp <;> omega))) | with_reducible apply hp_set) <;> rfl)
  have bc3 : w3.heap[w1.heap.size]? = some (.cells #[.int .u8 0, .int .u64 0] 24) := (m3.block _ (by first | omega | (simp <;> omega)) (fun f => f)).trans (by (repeat first | with_reducible exact bc2 | with_reducible exact heap_new _ _ | with_reducible exact heap_next _ _ _ | with_reducible exact heap_third _ _ _ _ | with_reducible refine hp_dr ?_ | (with_reducible refine hp_ne ?_ ?_; focus omega) | (with_reducible refine hp_al ?_ ?_; focus (first | omega | (simp <;> omega))) | with_reducible apply hp_set) <;> rfl)
  have bd3 : w3.heap[w2.heap.size]? = some (.cells #[.int .u8 0, .int .u64 0] 24) := (m3.block _ (by first | omega | (simp <;> omega)) (fun f => f)).trans (by (repeat first | with_reducible exact heap_new _ _ | with_reducible exact heap_new _ _ | with_reducible exact heap_next _ _ _ | with_reducible exact heap_third _ _ _ _ | with_reducible refine hp_dr ?_ | (with_reducible refine hp_ne ?_ ?_; focus omega) | (with_reducible refine hp_al ?_ ?_; focus (first | omega | (simp <;> omega))) | with_reducible apply hp_set) <;> rfl)
  clear m3 n2 ba2 la2 xa2 ya2 bb2 lb2 xb2 yb2 bc2 lc2 xc2 yc2
  have lb3 := heap_lt bb3
  have xb3 := cell2a bb3
  have yb3 := cell2b bb3
  have lc3 := heap_lt bc3
  have xc3 := cell2a bc3
  have yc3 := cell2b bc3
  have ld3 := heap_lt bd3
  have xd3 := cell2a bd3
  have yd3 := cell2b bd3
  go_wp2_with fail
  refine (span_any H3.out hLb hIb _).mono ?_
  rintro e4 w4 ⟨rfl, m4⟩
  have n4 : Nw w w4 := Nw.tr (by repeat first | with_reducible exact n3 | with_reducible refine Fr.alloc ?_ _ | with_reducible refine Fr.drew ?_ | (with_reducible refine Fr.setCell ?_ _ _ (fun h => ?_); rotate_left; focus (simp only at h; omega))) m4
  have bc4 : w4.heap[w1.heap.size]? = some (.cells #[.int .u8 0, .int .u64 0] 24) := (m4.block _ (by first | omega | (simp <;> omega)) (fun f => f)).trans (by (repeat first | with_reducible exact bc3 | with_reducible exact heap_new _ _ | with_reducible exact heap_next _ _ _ | with_reducible exact heap_third _ _ _ _ | with_reducible refine hp_dr ?_ | (with_reducible refine hp_ne ?_ ?_; focus omega) | (with_reducible refine hp_al ?_ ?_; focus (first | omega | (simp <;> omega))) | with_reducible apply hp_set) <;> rfl)
  have bd4 : w4.heap[w2.heap.size]? = some (.cells #[.int .u8 0, .int .u64 0] 24) := (m4.block _ (by first | omega | (simp <;> omega)) (fun f => f)).trans (by (repeat first | with_reducible exact bd3 | with_reducible exact heap_new _ _ | with_reducible exact heap_next _ _ _ | with_reducible exact heap_third _ _ _ _ | with_reducible refine hp_dr ?_ | (with_reducible refine hp_ne ?_ ?_; focus omega) | (with_reducible refine hp_al ?_ ?_; focus (first | omega | (simp <;> omega))) | with_reducible apply hp_set) <;> rfl)
  have bs4 : w4.heap[w3.heap.size]? = some (.cells #[.int .u64 (s1 : Int), .int .u64 (s2 : Int)] 28) := (m4.block _ (by first | omega | (simp <;> omega)) (fun f => f)).trans (by (repeat first | with_reducible exact heap_new _ _ | with_reducible exact heap_new _ _ | with_reducible exact heap_next _ _ _ | with_reducible exact heap_third _ _ _ _ | with_reducible refine hp_dr ?_ | (with_reducible refine hp_ne ?_ ?_; focus omega) | (with_reducible refine hp_al ?_ ?_; focus (first | omega | (simp <;> omega))) | with_reducible apply hp_set) <;> rfl)
  clear m4 n3 bb3 lb3 xb3 yb3 bc3 lc3 xc3 yc3 bd3 ld3 xd3 yd3
  have lc4 := heap_lt bc4
  have xc4 := cell2a bc4
  have yc4 := cell2b bc4
  have ld4 := heap_lt bd4
  have xd4 := cell2a bd4
  have yd4 := cell2b bd4
  have ls4 := heap_lt bs4
  have xs4 := cell2a bs4
  have ys4 := cell2b bs4
  clear q1 q2 H2 H3
  have al := fun W (k : Nw w W) => alive_any W (HT.out.nw k)
  rcases hoo with rfl | ⟨rfl, rfl⟩
  all_goals
    go_wp2_with fail
    refine (al _ (by repeat first | with_reducible exact n4 | with_reducible refine Fr.alloc ?_ _ | with_reducible refine Fr.drew ?_ | (with_reducible refine Fr.setCell ?_ _ _ (fun h => ?_); rotate_left; focus (simp only at h; omega)))).mono ?_
    rintro ex wx ⟨rfl, nx⟩
    have ny := Nw.tr (show Nw w _ from (by repeat first | with_reducible exact n4 | with_reducible refine Fr.alloc ?_ _ | with_reducible refine Fr.drew ?_ | (with_reducible refine Fr.setCell ?_ _ _ (fun h => ?_); rotate_left; focus (simp only at h; omega)))) nx
    clear nx n4 bc4 bd4 bs4 lc4 xc4 yc4 ld4 xd4 yd4
    go_wp2
    go_ret
    exact ⟨rfl, ny⟩

set_option maxRecDepth 100000 in
set_option maxHeartbeats 4000000 in
theorem meets_yes (La Ia Lb Ib m : Nat) (ha : may La Ia) (hb : may Lb Ib) (hC : IsC La Ia Lb Ib m) (w : World) (hT : TabAt w) :
    Calls Tryd.prog 3 #[cd La Ia, cd Lb Ib] w fun x w' => x = .returned (.bool true) ∧ Nw w w' := by
  have HT : Hid (TabAt w) := hT
  clear hT
  have hm63 := hC.le63 ha hb
  have q1 := fun w => common_yes La Ia Lb Ib m ha hb hC w
  have q2 := fun w => common_yes Lb Ib La Ia m hb ha hC.symm w
  rw [← hC.eq] at q2
  have q3 := fun w => common_yes La Ia La Ia La ha ha (IsC.self La Ia) w
  rw [anc_self] at q3
  have hmq := anc_may ha hC.la hm63
  obtain ⟨q, hq⟩ : ∃ q, q = Ia / 2 ^ (m - La) := ⟨_, rfl⟩
  have hmid := meets_mid hC hq
  obtain ⟨a1, a2⟩ := has_iff.2 ⟨hC.la, hq.symm⟩
  obtain ⟨b1, b2⟩ := has_iff.2 ⟨hC.lb, hC.eq.symm.trans hq.symm⟩
  rw [← hq] at q1 q2 hmq
  have p1 := fun w => span_yes La Ia ha w
  have p2 := fun w => span_yes Lb Ib hb w
  have p3 := fun w => span_yes m q hmq w
  have hsa := ha.2
  have hsb := hb.2
  have hsc := hmq.2
  have hse : Ia * 2 ^ La ≤ (Ia + 1) * 2 ^ La := Nat.mul_le_mul_right _ (by omega)
  have hsf : Ib * 2 ^ Lb ≤ (Ib + 1) * 2 ^ Lb := Nat.mul_le_mul_right _ (by omega)
  have hsg : q * 2 ^ m ≤ (q + 1) * 2 ^ m := Nat.mul_le_mul_right _ (by omega)
  rw [p63] at hsa hsb hsc
  obtain ⟨sa, hsa1⟩ : ∃ x, x = Ia * 2 ^ La := ⟨_, rfl⟩
  obtain ⟨ea, hea1⟩ : ∃ x, x = (Ia + 1) * 2 ^ La := ⟨_, rfl⟩
  obtain ⟨sb, hsb1⟩ : ∃ x, x = Ib * 2 ^ Lb := ⟨_, rfl⟩
  obtain ⟨eb, heb1⟩ : ∃ x, x = (Ib + 1) * 2 ^ Lb := ⟨_, rfl⟩
  obtain ⟨sc, hsc1⟩ : ∃ x, x = q * 2 ^ m := ⟨_, rfl⟩
  obtain ⟨ec, hec1⟩ : ∃ x, x = (q + 1) * 2 ^ m := ⟨_, rfl⟩
  rw [← hsa1] at a1 p1 hse hmid
  rw [← hea1] at a2 p1 hsa hse hmid
  rw [← hsb1] at b1 p2 hsf hmid
  rw [← heb1] at b2 p2 hsb hsf hmid
  rw [← hsc1] at a1 b1 p3 hsg
  rw [← hec1] at a2 b2 p3 hsc hsg
  have hLa := ha.1
  have hLb := hb.1
  have hIa := may_bd ha
  have hIb := may_bd hb
  have hqb := may_bd hmq
  rw [p63] at hIa hIb hqb
  have HMQ := hid2 hmq
  have HMID := hid2 hmid
  clear hq hsa1 hea1 hsb1 heb1 hsc1 hec1 hmq hmid ha hb hC
  have i1 : ¬ (sc : Int) > (sa : Int) := by omega
  have i2 : ¬ (ec : Int) < (ea : Int) := by omega
  have i3 : ¬ (sc : Int) > (sb : Int) := by omega
  have i4 : ¬ (ec : Int) < (eb : Int) := by omega
  go_enter Tryd.func3, Tryd.ntmps3
  go_wp2_with fail
  refine (q1 _).mono ?_
  rintro e1 w1 ⟨rfl, m1⟩
  have n1 : Nw w w1 := Nw.tr (by repeat first | with_reducible exact nwr w | with_reducible refine Fr.alloc ?_ _ | with_reducible refine Fr.drew ?_ | (with_reducible refine Fr.setCell ?_ _ _ (fun h => ?_); rotate_left; focus (simp only at h; omega))) m1
  have ba1 : w1.heap[w.heap.size]? = some (.cells #[.int .u8 (La : Int), .int .u64 (Ia : Int)] 24) := (m1.block _ (by first | omega | (simp <;> omega)) (fun f => f)).trans (by (repeat first | with_reducible exact heap_new _ _ | with_reducible exact heap_new _ _ | with_reducible exact heap_next _ _ _ | with_reducible exact heap_third _ _ _ _ | with_reducible refine hp_dr ?_ | (with_reducible refine hp_ne ?_ ?_; focus omega) | (with_reducible refine hp_al ?_ ?_; focus (first | omega | (simp <;> omega))) | with_reducible apply hp_set) <;> rfl)
  have bb1 : w1.heap[w.heap.size + 1]? = some (.cells #[.int .u8 (Lb : Int), .int .u64 (Ib : Int)] 24) := (m1.block _ (by first | omega | (simp <;> omega)) (fun f => f)).trans (by (repeat first | with_reducible exact heap_new _ _ | with_reducible exact heap_new _ _ | with_reducible exact heap_next _ _ _ | with_reducible exact heap_third _ _ _ _ | with_reducible refine hp_dr ?_ | (with_reducible refine hp_ne ?_ ?_; focus omega) | (with_reducible refine hp_al ?_ ?_; focus (first | omega | (simp <;> omega))) | with_reducible apply hp_set) <;> rfl)
  clear m1
  have la1 := heap_lt ba1
  have xa1 := cell2a ba1
  have ya1 := cell2b ba1
  have lb1 := heap_lt bb1
  have xb1 := cell2a bb1
  have yb1 := cell2b bb1
  go_wp2_with fail
  refine (q2 _).mono ?_
  rintro e2 w2 ⟨rfl, m2⟩
  have n2 : Nw w w2 := Nw.tr (by repeat first | with_reducible exact n1 | with_reducible refine Fr.alloc ?_ _ | with_reducible refine Fr.drew ?_ | (with_reducible refine Fr.setCell ?_ _ _ (fun h => ?_); rotate_left; focus (simp only at h; omega))) m2
  have ba2 : w2.heap[w.heap.size]? = some (.cells #[.int .u8 (La : Int), .int .u64 (Ia : Int)] 24) := (m2.block _ (by first | omega | (simp <;> omega)) (fun f => f)).trans (by (repeat first | with_reducible exact ba1 | with_reducible exact heap_new _ _ | with_reducible exact heap_next _ _ _ | with_reducible exact heap_third _ _ _ _ | with_reducible refine hp_dr ?_ | (with_reducible refine hp_ne ?_ ?_; focus omega) | (with_reducible refine hp_al ?_ ?_; focus (first | omega | (simp <;> omega))) | with_reducible apply hp_set) <;> rfl)
  have bb2 : w2.heap[w.heap.size + 1]? = some (.cells #[.int .u8 (Lb : Int), .int .u64 (Ib : Int)] 24) := (m2.block _ (by first | omega | (simp <;> omega)) (fun f => f)).trans (by (repeat first | with_reducible exact bb1 | with_reducible exact heap_new _ _ | with_reducible exact heap_next _ _ _ | with_reducible exact heap_third _ _ _ _ | with_reducible refine hp_dr ?_ | (with_reducible refine hp_ne ?_ ?_; focus omega) | (with_reducible refine hp_al ?_ ?_; focus (first | omega | (simp <;> omega))) | with_reducible apply hp_set) <;> rfl)
  have bc2 : w2.heap[w1.heap.size]? = some (.cells #[.int .u8 (m : Int), .int .u64 (q : Int)] 24) := (m2.block _ (by first | omega | (simp <;> omega)) (fun f => f)).trans (by (repeat first | with_reducible exact heap_new _ _ | with_reducible exact heap_new _ _ | with_reducible exact heap_next _ _ _ | with_reducible exact heap_third _ _ _ _ | with_reducible refine hp_dr ?_ | (with_reducible refine hp_ne ?_ ?_; focus omega) | (with_reducible refine hp_al ?_ ?_; focus (first | omega | (simp <;> omega))) | with_reducible apply hp_set) <;> rfl)
  clear m2 n1 ba1 la1 xa1 ya1 bb1 lb1 xb1 yb1
  have la2 := heap_lt ba2
  have xa2 := cell2a ba2
  have ya2 := cell2b ba2
  have lb2 := heap_lt bb2
  have xb2 := cell2a bb2
  have yb2 := cell2b bb2
  have lc2 := heap_lt bc2
  have xc2 := cell2a bc2
  have yc2 := cell2b bc2
  go_wp2_with fail
  refine (p1 _).mono ?_
  rintro e3 w3 ⟨rfl, m3⟩
  have n3 : Nw w w3 := Nw.tr (by repeat first | with_reducible exact n2 | with_reducible refine Fr.alloc ?_ _ | with_reducible refine Fr.drew ?_ | (with_reducible refine Fr.setCell ?_ _ _ (fun h => ?_); rotate_left; focus (simp only at h; omega))) m3
  have ba3 : w3.heap[w.heap.size]? = some (.cells #[.int .u8 (La : Int), .int .u64 (Ia : Int)] 24) := (m3.block _ (by first | omega | (simp <;> omega)) (fun f => f)).trans (by (repeat first | with_reducible exact ba2 | with_reducible exact heap_new _ _ | with_reducible exact heap_next _ _ _ | with_reducible exact heap_third _ _ _ _ | with_reducible refine hp_dr ?_ | (with_reducible refine hp_ne ?_ ?_; focus omega) | (with_reducible refine hp_al ?_ ?_; focus (first | omega | (simp <;> omega))) | with_reducible apply hp_set) <;> rfl)
  have bb3 : w3.heap[w.heap.size + 1]? = some (.cells #[.int .u8 (Lb : Int), .int .u64 (Ib : Int)] 24) := (m3.block _ (by first | omega | (simp <;> omega)) (fun f => f)).trans (by (repeat first | with_reducible exact bb2 | with_reducible exact heap_new _ _ | with_reducible exact heap_next _ _ _ | with_reducible exact heap_third _ _ _ _ | with_reducible refine hp_dr ?_ | (with_reducible refine hp_ne ?_ ?_; focus omega) | (with_reducible refine hp_al ?_ ?_; focus (first | omega | (simp <;> omega))) | with_reducible apply hp_set) <;> rfl)
  have bc3 : w3.heap[w1.heap.size]? = some (.cells #[.int .u8 (m : Int), .int .u64 (q : Int)] 24) := (m3.block _ (by first | omega | (simp <;> omega)) (fun f => f)).trans (by (repeat first | with_reducible exact bc2 | with_reducible exact heap_new _ _ | with_reducible exact heap_next _ _ _ | with_reducible exact heap_third _ _ _ _ | with_reducible refine hp_dr ?_ | (with_reducible refine hp_ne ?_ ?_; focus omega) | (with_reducible refine hp_al ?_ ?_; focus (first | omega | (simp <;> omega))) | with_reducible apply hp_set) <;> rfl)
  have bd3 : w3.heap[w2.heap.size]? = some (.cells #[.int .u8 (m : Int), .int .u64 (q : Int)] 24) := (m3.block _ (by first | omega | (simp <;> omega)) (fun f => f)).trans (by (repeat first | with_reducible exact heap_new _ _ | with_reducible exact heap_new _ _ | with_reducible exact heap_next _ _ _ | with_reducible exact heap_third _ _ _ _ | with_reducible refine hp_dr ?_ | (with_reducible refine hp_ne ?_ ?_; focus omega) | (with_reducible refine hp_al ?_ ?_; focus (first | omega | (simp <;> omega))) | with_reducible apply hp_set) <;> rfl)
  clear m3 n2 ba2 la2 xa2 ya2 bb2 lb2 xb2 yb2 bc2 lc2 xc2 yc2
  have la3 := heap_lt ba3
  have xa3 := cell2a ba3
  have ya3 := cell2b ba3
  have lb3 := heap_lt bb3
  have xb3 := cell2a bb3
  have yb3 := cell2b bb3
  have lc3 := heap_lt bc3
  have xc3 := cell2a bc3
  have yc3 := cell2b bc3
  have ld3 := heap_lt bd3
  have xd3 := cell2a bd3
  have yd3 := cell2b bd3
  go_wp2_with fail
  refine (p2 _).mono ?_
  rintro e4 w4 ⟨rfl, m4⟩
  have n4 : Nw w w4 := Nw.tr (by repeat first | with_reducible exact n3 | with_reducible refine Fr.alloc ?_ _ | with_reducible refine Fr.drew ?_ | (with_reducible refine Fr.setCell ?_ _ _ (fun h => ?_); rotate_left; focus (simp only at h; omega))) m4
  have ba4 : w4.heap[w.heap.size]? = some (.cells #[.int .u8 (La : Int), .int .u64 (Ia : Int)] 24) := (m4.block _ (by first | omega | (simp <;> omega)) (fun f => f)).trans (by (repeat first | with_reducible exact ba3 | with_reducible exact heap_new _ _ | with_reducible exact heap_next _ _ _ | with_reducible exact heap_third _ _ _ _ | with_reducible refine hp_dr ?_ | (with_reducible refine hp_ne ?_ ?_; focus omega) | (with_reducible refine hp_al ?_ ?_; focus (first | omega | (simp <;> omega))) | with_reducible apply hp_set) <;> rfl)
  have bb4 : w4.heap[w.heap.size + 1]? = some (.cells #[.int .u8 (Lb : Int), .int .u64 (Ib : Int)] 24) := (m4.block _ (by first | omega | (simp <;> omega)) (fun f => f)).trans (by (repeat first | with_reducible exact bb3 | with_reducible exact heap_new _ _ | with_reducible exact heap_next _ _ _ | with_reducible exact heap_third _ _ _ _ | with_reducible refine hp_dr ?_ | (with_reducible refine hp_ne ?_ ?_; focus omega) | (with_reducible refine hp_al ?_ ?_; focus (first | omega | (simp <;> omega))) | with_reducible apply hp_set) <;> rfl)
  have bc4 : w4.heap[w1.heap.size]? = some (.cells #[.int .u8 (m : Int), .int .u64 (q : Int)] 24) := (m4.block _ (by first | omega | (simp <;> omega)) (fun f => f)).trans (by (repeat first | with_reducible exact bc3 | with_reducible exact heap_new _ _ | with_reducible exact heap_next _ _ _ | with_reducible exact heap_third _ _ _ _ | with_reducible refine hp_dr ?_ | (with_reducible refine hp_ne ?_ ?_; focus omega) | (with_reducible refine hp_al ?_ ?_; focus (first | omega | (simp <;> omega))) | with_reducible apply hp_set) <;> rfl)
  have bd4 : w4.heap[w2.heap.size]? = some (.cells #[.int .u8 (m : Int), .int .u64 (q : Int)] 24) := (m4.block _ (by first | omega | (simp <;> omega)) (fun f => f)).trans (by (repeat first | with_reducible exact bd3 | with_reducible exact heap_new _ _ | with_reducible exact heap_next _ _ _ | with_reducible exact heap_third _ _ _ _ | with_reducible refine hp_dr ?_ | (with_reducible refine hp_ne ?_ ?_; focus omega) | (with_reducible refine hp_al ?_ ?_; focus (first | omega | (simp <;> omega))) | with_reducible apply hp_set) <;> rfl)
  have bs4 : w4.heap[w3.heap.size]? = some (.cells #[.int .u64 (sa : Int), .int .u64 (ea : Int)] 28) := (m4.block _ (by first | omega | (simp <;> omega)) (fun f => f)).trans (by (repeat first | with_reducible exact heap_new _ _ | with_reducible exact heap_new _ _ | with_reducible exact heap_next _ _ _ | with_reducible exact heap_third _ _ _ _ | with_reducible refine hp_dr ?_ | (with_reducible refine hp_ne ?_ ?_; focus omega) | (with_reducible refine hp_al ?_ ?_; focus (first | omega | (simp <;> omega))) | with_reducible apply hp_set) <;> rfl)
  clear m4 n3 ba3 la3 xa3 ya3 bb3 lb3 xb3 yb3 bc3 lc3 xc3 yc3 bd3 ld3 xd3 yd3
  have la4 := heap_lt ba4
  have xa4 := cell2a ba4
  have ya4 := cell2b ba4
  have lb4 := heap_lt bb4
  have xb4 := cell2a bb4
  have yb4 := cell2b bb4
  have lc4 := heap_lt bc4
  have xc4 := cell2a bc4
  have yc4 := cell2b bc4
  have ld4 := heap_lt bd4
  have xd4 := cell2a bd4
  have yd4 := cell2b bd4
  have ls4 := heap_lt bs4
  have xs4 := cell2a bs4
  have ys4 := cell2b bs4
  go_wp2_with fail
  refine (p3 _).mono ?_
  rintro e5 w5 ⟨rfl, m5⟩
  have n5 : Nw w w5 := Nw.tr (by repeat first | with_reducible exact n4 | with_reducible refine Fr.alloc ?_ _ | with_reducible refine Fr.drew ?_ | (with_reducible refine Fr.setCell ?_ _ _ (fun h => ?_); rotate_left; focus (simp only at h; omega))) m5
  have ba5 : w5.heap[w.heap.size]? = some (.cells #[.int .u8 (La : Int), .int .u64 (Ia : Int)] 24) := (m5.block _ (by first | omega | (simp <;> omega)) (fun f => f)).trans (by (repeat first | with_reducible exact ba4 | with_reducible exact heap_new _ _ | with_reducible exact heap_next _ _ _ | with_reducible exact heap_third _ _ _ _ | with_reducible refine hp_dr ?_ | (with_reducible refine hp_ne ?_ ?_; focus omega) | (with_reducible refine hp_al ?_ ?_; focus (first | omega | (simp <;> omega))) | with_reducible apply hp_set) <;> rfl)
  have bc5 : w5.heap[w1.heap.size]? = some (.cells #[.int .u8 (m : Int), .int .u64 (q : Int)] 24) := (m5.block _ (by first | omega | (simp <;> omega)) (fun f => f)).trans (by (repeat first | with_reducible exact bc4 | with_reducible exact heap_new _ _ | with_reducible exact heap_next _ _ _ | with_reducible exact heap_third _ _ _ _ | with_reducible refine hp_dr ?_ | (with_reducible refine hp_ne ?_ ?_; focus omega) | (with_reducible refine hp_al ?_ ?_; focus (first | omega | (simp <;> omega))) | with_reducible apply hp_set) <;> rfl)
  have bs5 : w5.heap[w3.heap.size]? = some (.cells #[.int .u64 (sa : Int), .int .u64 (ea : Int)] 28) := (m5.block _ (by first | omega | (simp <;> omega)) (fun f => f)).trans (by (repeat first | with_reducible exact bs4 | with_reducible exact heap_new _ _ | with_reducible exact heap_next _ _ _ | with_reducible exact heap_third _ _ _ _ | with_reducible refine hp_dr ?_ | (with_reducible refine hp_ne ?_ ?_; focus omega) | (with_reducible refine hp_al ?_ ?_; focus (first | omega | (simp <;> omega))) | with_reducible apply hp_set) <;> rfl)
  have bt5 : w5.heap[w4.heap.size]? = some (.cells #[.int .u64 (sb : Int), .int .u64 (eb : Int)] 28) := (m5.block _ (by first | omega | (simp <;> omega)) (fun f => f)).trans (by (repeat first | with_reducible exact heap_new _ _ | with_reducible exact heap_new _ _ | with_reducible exact heap_next _ _ _ | with_reducible exact heap_third _ _ _ _ | with_reducible refine hp_dr ?_ | (with_reducible refine hp_ne ?_ ?_; focus omega) | (with_reducible refine hp_al ?_ ?_; focus (first | omega | (simp <;> omega))) | with_reducible apply hp_set) <;> rfl)
  clear m5 n4 ba4 la4 xa4 ya4 bb4 lb4 xb4 yb4 bc4 lc4 xc4 yc4 bd4 ld4 xd4 yd4 bs4 ls4 xs4 ys4
  have la5 := heap_lt ba5
  have xa5 := cell2a ba5
  have ya5 := cell2b ba5
  have lc5 := heap_lt bc5
  have xc5 := cell2a bc5
  have yc5 := cell2b bc5
  have ls5 := heap_lt bs5
  have xs5 := cell2a bs5
  have ys5 := cell2b bs5
  have lt5 := heap_lt bt5
  have xt5 := cell2a bt5
  have yt5 := cell2b bt5
  clear q1 q2 p1 p2 p3
  by_cases h0 : 0 < m
  · have g1 := fun w => children_yes m q HMQ.out h0 w
    obtain ⟨mc1, mc2⟩ := may_child HMQ.out h0
    have g2 := fun w => span_yes (m - 1) (2 * q) mc1 w
    have g3 := fun w => span_yes (m - 1) (2 * q + 1) mc2 w
    have hmm := HMID.out h0
    have hx1 := mc1.2
    have hx2 := mc2.2
    have hx3 : 2 * q * 2 ^ (m - 1) ≤ (2 * q + 1) * 2 ^ (m - 1) := Nat.mul_le_mul_right _ (by omega)
    rw [p63] at hx1 hx2
    obtain ⟨v1, hv1⟩ : ∃ x, x = 2 * q * 2 ^ (m - 1) := ⟨_, rfl⟩
    obtain ⟨v2, hv2⟩ : ∃ x, x = (2 * q + 1) * 2 ^ (m - 1) := ⟨_, rfl⟩
    obtain ⟨v3, hv3⟩ : ∃ x, x = (2 * q + 1 + 1) * 2 ^ (m - 1) := ⟨_, rfl⟩
    rw [← hv1] at g2 hx3
    rw [← hv2] at g2 g3 hmm hx1 hx3
    rw [← hv3] at g3 hx2
    clear mc1 mc2 hv1 hv2 hv3 HMID HMQ
    have hk : (¬ v2 ≥ ea ∨ (v2 ≥ ea ∧ ¬ v2 ≥ eb)) ∧ (¬ v2 ≤ sa ∨ (v2 ≤ sa ∧ ¬ v2 ≤ sb)) := by omega
    clear hmm
    obtain ⟨c1, hc1⟩ : ∃ c1, c1 = m - 1 := ⟨_, rfl⟩
    obtain ⟨c2, hc2⟩ : ∃ c2, c2 = 2 * q := ⟨_, rfl⟩
    rw [← hc1] at g1 g2 g3
    rw [← hc2] at g1 g2 g3
    obtain ⟨c3, hc3⟩ : ∃ c3, c3 = c2 + 1 := ⟨_, rfl⟩
    rw [← hc3] at g1 g3
    clear hc1 hc2 hc3
    go_wp2_with fail
    refine (g1 _).mono ?_
    rintro e6 w6 ⟨rfl, m6⟩
    have n6 : Nw w w6 := Nw.tr (by repeat first | with_reducible exact n5 | with_reducible refine Fr.alloc ?_ _ | with_reducible refine Fr.drew ?_ | (with_reducible refine Fr.setCell ?_ _ _ (fun h => ?_); rotate_left; focus (simp only at h; omega))) m6
    have ba6 : w6.heap[w.heap.size]? = some (.cells #[.int .u8 (La : Int), .int .u64 (Ia : Int)] 24) := (m6.block _ (by first | omega | (simp <;> omega)) (fun f => f)).trans (by (repeat first | with_reducible exact ba5 | with_reducible exact heap_new _ _ | with_reducible exact heap_next _ _ _ | with_reducible exact heap_third _ _ _ _ | with_reducible refine hp_dr ?_ | (with_reducible refine hp_ne ?_ ?_; focus omega) | (with_reducible refine hp_al ?_ ?_; focus (first | omega | (simp <;> omega))) | with_reducible apply hp_set) <;> rfl)
    have bs6 : w6.heap[w3.heap.size]? = some (.cells #[.int .u64 (sa : Int), .int .u64 (ea : Int)] 28) := (m6.block _ (by first | omega | (simp <;> omega)) (fun f => f)).trans (by (repeat first | with_reducible exact bs5 | with_reducible exact heap_new _ _ | with_reducible exact heap_next _ _ _ | with_reducible exact heap_third _ _ _ _ | with_reducible refine hp_dr ?_ | (with_reducible refine hp_ne ?_ ?_; focus omega) | (with_reducible refine hp_al ?_ ?_; focus (first | omega | (simp <;> omega))) | with_reducible apply hp_set) <;> rfl)
    have bt6 : w6.heap[w4.heap.size]? = some (.cells #[.int .u64 (sb : Int), .int .u64 (eb : Int)] 28) := (m6.block _ (by first | omega | (simp <;> omega)) (fun f => f)).trans (by (repeat first | with_reducible exact bt5 | with_reducible exact heap_new _ _ | with_reducible exact heap_next _ _ _ | with_reducible exact heap_third _ _ _ _ | with_reducible refine hp_dr ?_ | (with_reducible refine hp_ne ?_ ?_; focus omega) | (with_reducible refine hp_al ?_ ?_; focus (first | omega | (simp <;> omega))) | with_reducible apply hp_set) <;> rfl)
    have bu6 : w6.heap[w5.heap.size]? = some (.cells #[.int .u64 (sc : Int), .int .u64 (ec : Int)] 28) := (m6.block _ (by first | omega | (simp <;> omega)) (fun f => f)).trans (by (repeat first | with_reducible exact heap_new _ _ | with_reducible exact heap_new _ _ | with_reducible exact heap_next _ _ _ | with_reducible exact heap_third _ _ _ _ | with_reducible refine hp_dr ?_ | (with_reducible refine hp_ne ?_ ?_; focus omega) | (with_reducible refine hp_al ?_ ?_; focus (first | omega | (simp <;> omega))) | with_reducible apply hp_set) <;> rfl)
    clear m6 n5 ba5 la5 xa5 ya5 bc5 lc5 xc5 yc5 bs5 ls5 xs5 ys5 bt5 lt5 xt5 yt5
    have la6 := heap_lt ba6
    have xa6 := cell2a ba6
    have ya6 := cell2b ba6
    have ls6 := heap_lt bs6
    have xs6 := cell2a bs6
    have ys6 := cell2b bs6
    have lt6 := heap_lt bt6
    have xt6 := cell2a bt6
    have yt6 := cell2b bt6
    have lu6 := heap_lt bu6
    have xu6 := cell2a bu6
    have yu6 := cell2b bu6
    go_wp2_with fail
    refine (g2 _).mono ?_
    rintro e7 w7 ⟨rfl, m7⟩
    have n7 : Nw w w7 := Nw.tr (by repeat first | with_reducible exact n6 | with_reducible refine Fr.alloc ?_ _ | with_reducible refine Fr.drew ?_ | (with_reducible refine Fr.setCell ?_ _ _ (fun h => ?_); rotate_left; focus (simp only at h; omega))) m7
    have ba7 : w7.heap[w.heap.size]? = some (.cells #[.int .u8 (La : Int), .int .u64 (Ia : Int)] 24) := (m7.block _ (by first | omega | (simp <;> omega)) (fun f => f)).trans (by (repeat first | with_reducible exact ba6 | with_reducible exact heap_new _ _ | with_reducible exact heap_next _ _ _ | with_reducible exact heap_third _ _ _ _ | with_reducible refine hp_dr ?_ | (with_reducible refine hp_ne ?_ ?_; focus omega) | (with_reducible refine hp_al ?_ ?_; focus (first | omega | (simp <;> omega))) | with_reducible apply hp_set) <;> rfl)
    have bs7 : w7.heap[w3.heap.size]? = some (.cells #[.int .u64 (sa : Int), .int .u64 (ea : Int)] 28) := (m7.block _ (by first | omega | (simp <;> omega)) (fun f => f)).trans (by (repeat first | with_reducible exact bs6 | with_reducible exact heap_new _ _ | with_reducible exact heap_next _ _ _ | with_reducible exact heap_third _ _ _ _ | with_reducible refine hp_dr ?_ | (with_reducible refine hp_ne ?_ ?_; focus omega) | (with_reducible refine hp_al ?_ ?_; focus (first | omega | (simp <;> omega))) | with_reducible apply hp_set) <;> rfl)
    have bt7 : w7.heap[w4.heap.size]? = some (.cells #[.int .u64 (sb : Int), .int .u64 (eb : Int)] 28) := (m7.block _ (by first | omega | (simp <;> omega)) (fun f => f)).trans (by (repeat first | with_reducible exact bt6 | with_reducible exact heap_new _ _ | with_reducible exact heap_next _ _ _ | with_reducible exact heap_third _ _ _ _ | with_reducible refine hp_dr ?_ | (with_reducible refine hp_ne ?_ ?_; focus omega) | (with_reducible refine hp_al ?_ ?_; focus (first | omega | (simp <;> omega))) | with_reducible apply hp_set) <;> rfl)
    have bl7 : w7.heap[w6.heap.size]? = some (.cells #[.int .u8 (c1 : Int), .int .u64 (c2 : Int)] 24) := (m7.block _ (by first | omega | (simp <;> omega)) (fun f => f)).trans (by (repeat first | with_reducible exact heap_new _ _ | with_reducible exact heap_new _ _ | with_reducible exact heap_next _ _ _ | with_reducible exact heap_third _ _ _ _ | with_reducible refine hp_dr ?_ | (with_reducible refine hp_ne ?_ ?_; focus omega) | (with_reducible refine hp_al ?_ ?_; focus (first | omega | (simp <;> omega))) | with_reducible apply hp_set) <;> rfl)
    have br7 : w7.heap[w6.heap.size + 1]? = some (.cells #[.int .u8 (c1 : Int), .int .u64 (c3 : Int)] 24) := (m7.block _ (by first | omega | (simp <;> omega)) (fun f => f)).trans (by (repeat first | with_reducible exact heap_new _ _ | with_reducible exact heap_new _ _ | with_reducible exact heap_next _ _ _ | with_reducible exact heap_third _ _ _ _ | with_reducible refine hp_dr ?_ | (with_reducible refine hp_ne ?_ ?_; focus omega) | (with_reducible refine hp_al ?_ ?_; focus (first | omega | (simp <;> omega))) | with_reducible apply hp_set) <;> rfl)
    clear m7 n6 ba6 la6 xa6 ya6 bs6 ls6 xs6 ys6 bt6 lt6 xt6 yt6 bu6 lu6 xu6 yu6
    have la7 := heap_lt ba7
    have xa7 := cell2a ba7
    have ya7 := cell2b ba7
    have ls7 := heap_lt bs7
    have xs7 := cell2a bs7
    have ys7 := cell2b bs7
    have lt7 := heap_lt bt7
    have xt7 := cell2a bt7
    have yt7 := cell2b bt7
    have ll7 := heap_lt bl7
    have xl7 := cell2a bl7
    have yl7 := cell2b bl7
    have lr7 := heap_lt br7
    have xr7 := cell2a br7
    have yr7 := cell2b br7
    go_wp2_with fail
    refine (g3 _).mono ?_
    rintro e8 w8 ⟨rfl, m8⟩
    have n8 : Nw w w8 := Nw.tr (by repeat first | with_reducible exact n7 | with_reducible refine Fr.alloc ?_ _ | with_reducible refine Fr.drew ?_ | (with_reducible refine Fr.setCell ?_ _ _ (fun h => ?_); rotate_left; focus (simp only at h; omega))) m8
    have ba8 : w8.heap[w.heap.size]? = some (.cells #[.int .u8 (La : Int), .int .u64 (Ia : Int)] 24) := (m8.block _ (by first | omega | (simp <;> omega)) (fun f => f)).trans (by (repeat first | with_reducible exact ba7 | with_reducible exact heap_new _ _ | with_reducible exact heap_next _ _ _ | with_reducible exact heap_third _ _ _ _ | with_reducible refine hp_dr ?_ | (with_reducible refine hp_ne ?_ ?_; focus omega) | (with_reducible refine hp_al ?_ ?_; focus (first | omega | (simp <;> omega))) | with_reducible apply hp_set) <;> rfl)
    have bs8 : w8.heap[w3.heap.size]? = some (.cells #[.int .u64 (sa : Int), .int .u64 (ea : Int)] 28) := (m8.block _ (by first | omega | (simp <;> omega)) (fun f => f)).trans (by (repeat first | with_reducible exact bs7 | with_reducible exact heap_new _ _ | with_reducible exact heap_next _ _ _ | with_reducible exact heap_third _ _ _ _ | with_reducible refine hp_dr ?_ | (with_reducible refine hp_ne ?_ ?_; focus omega) | (with_reducible refine hp_al ?_ ?_; focus (first | omega | (simp <;> omega))) | with_reducible apply hp_set) <;> rfl)
    have bt8 : w8.heap[w4.heap.size]? = some (.cells #[.int .u64 (sb : Int), .int .u64 (eb : Int)] 28) := (m8.block _ (by first | omega | (simp <;> omega)) (fun f => f)).trans (by (repeat first | with_reducible exact bt7 | with_reducible exact heap_new _ _ | with_reducible exact heap_next _ _ _ | with_reducible exact heap_third _ _ _ _ | with_reducible refine hp_dr ?_ | (with_reducible refine hp_ne ?_ ?_; focus omega) | (with_reducible refine hp_al ?_ ?_; focus (first | omega | (simp <;> omega))) | with_reducible apply hp_set) <;> rfl)
    have bv8 : w8.heap[w7.heap.size]? = some (.cells #[.int .u64 (v1 : Int), .int .u64 (v2 : Int)] 28) := (m8.block _ (by first | omega | (simp <;> omega)) (fun f => f)).trans (by (repeat first | with_reducible exact heap_new _ _ | with_reducible exact heap_new _ _ | with_reducible exact heap_next _ _ _ | with_reducible exact heap_third _ _ _ _ | with_reducible refine hp_dr ?_ | (with_reducible refine hp_ne ?_ ?_; focus omega) | (with_reducible refine hp_al ?_ ?_; focus (first | omega | (simp <;> omega))) | with_reducible apply hp_set) <;> rfl)
    clear m8 n7 ba7 la7 xa7 ya7 bs7 ls7 xs7 ys7 bt7 lt7 xt7 yt7 bl7 ll7 xl7 yl7 br7 lr7 xr7 yr7
    have la8 := heap_lt ba8
    have xa8 := cell2a ba8
    have ya8 := cell2b ba8
    have ls8 := heap_lt bs8
    have xs8 := cell2a bs8
    have ys8 := cell2b bs8
    have lt8 := heap_lt bt8
    have xt8 := cell2a bt8
    have yt8 := cell2b bt8
    have lv8 := heap_lt bv8
    have xv8 := cell2a bv8
    have yv8 := cell2b bv8
    clear g1 g2 g3
    have q4 := fun W (k : Nw w W) => alive_any W (HT.out.nw k)
    obtain ⟨hk1, hk2⟩ := hk
    rcases hk1 with hk1 | ⟨hk1, hk3⟩
    all_goals rcases hk2 with hk2 | ⟨hk2, hk4⟩
    all_goals
      first | (have z1 : ¬ (v2 : Int) ≥ (ea : Int) := by omega) | (have z1 : (v2 : Int) ≥ (ea : Int) := (by omega); have z2 : ¬ (v2 : Int) ≥ (eb : Int) := by omega)
      first | (have z3 : ¬ (v2 : Int) ≤ (sa : Int) := by omega) | (have z3 : (v2 : Int) ≤ (sa : Int) := (by omega); have z4 : ¬ (v2 : Int) ≤ (sb : Int) := by omega)
    all_goals
      go_wp2_with fail
      refine (q3 _).mono ?_
      rintro e9 w9 ⟨rfl, m9⟩
      have n9 : Nw w w9 := Nw.tr (by repeat first | with_reducible exact n8 | with_reducible refine Fr.alloc ?_ _ | with_reducible refine Fr.drew ?_ | (with_reducible refine Fr.setCell ?_ _ _ (fun h => ?_); rotate_left; focus (simp only at h; omega))) m9
      have ba9 : w9.heap[w.heap.size]? = some (.cells #[.int .u8 (La : Int), .int .u64 (Ia : Int)] 24) := (m9.block _ (by first | omega | (simp <;> omega)) (fun f => f)).trans (by (repeat first | with_reducible exact ba8 | with_reducible exact heap_new _ _ | with_reducible exact heap_next _ _ _ | with_reducible exact heap_third _ _ _ _ | with_reducible refine hp_dr ?_ | (with_reducible refine hp_ne ?_ ?_; focus omega) | (with_reducible refine hp_al ?_ ?_; focus (first | omega | (simp <;> omega))) | with_reducible apply hp_set) <;> rfl)
      clear m9 n8 ba8 la8 xa8 ya8 bs8 ls8 xs8 ys8 bt8 lt8 xt8 yt8 bv8 lv8 xv8 yv8
      have la9 := heap_lt ba9
      have xa9 := cell2a ba9
      have ya9 := cell2b ba9
      go_wp2_with fail
      refine (q4 _ (by repeat first | with_reducible exact n9 | with_reducible refine Fr.alloc ?_ _ | with_reducible refine Fr.drew ?_ | (with_reducible refine Fr.setCell ?_ _ _ (fun h => ?_); rotate_left; focus (simp only at h; omega)))).mono ?_
      rintro e10 w10 ⟨rfl, m10⟩
      have n10 : Nw w w10 := Nw.tr (by repeat first | with_reducible exact n9 | with_reducible refine Fr.alloc ?_ _ | with_reducible refine Fr.drew ?_ | (with_reducible refine Fr.setCell ?_ _ _ (fun h => ?_); rotate_left; focus (simp only at h; omega))) m10
      clear m10 n9 ba9 la9 xa9 ya9
      go_wp2
      go_ret
      exact ⟨rfl, n10⟩
  · have hm0 : m = 0 := by omega
    subst hm0
    have g1 := fun w => children_no 0 q (by omega) (by omega) (by omega) w
    clear HMID HMQ
    go_wp2_with fail
    refine (g1 _).mono ?_
    rintro e6 w6 ⟨rfl, m6⟩
    have n6 : Nw w w6 := Nw.tr (by repeat first | with_reducible exact n5 | with_reducible refine Fr.alloc ?_ _ | with_reducible refine Fr.drew ?_ | (with_reducible refine Fr.setCell ?_ _ _ (fun h => ?_); rotate_left; focus (simp only at h; omega))) m6
    have ba6 : w6.heap[w.heap.size]? = some (.cells #[.int .u8 (La : Int), .int .u64 (Ia : Int)] 24) := (m6.block _ (by first | omega | (simp <;> omega)) (fun f => f)).trans (by (repeat first | with_reducible exact ba5 | with_reducible exact heap_new _ _ | with_reducible exact heap_next _ _ _ | with_reducible exact heap_third _ _ _ _ | with_reducible refine hp_dr ?_ | (with_reducible refine hp_ne ?_ ?_; focus omega) | (with_reducible refine hp_al ?_ ?_; focus (first | omega | (simp <;> omega))) | with_reducible apply hp_set) <;> rfl)
    clear m6 n5 ba5 la5 xa5 ya5 bc5 lc5 xc5 yc5 bs5 ls5 xs5 ys5 bt5 lt5 xt5 yt5
    have la6 := heap_lt ba6
    have xa6 := cell2a ba6
    have ya6 := cell2b ba6
    clear g1
    have q4 := fun W (k : Nw w W) => alive_any W (HT.out.nw k)
    go_wp2_with fail
    refine (q3 _).mono ?_
    rintro e7 w7 ⟨rfl, m7⟩
    have n7 : Nw w w7 := Nw.tr (by repeat first | with_reducible exact n6 | with_reducible refine Fr.alloc ?_ _ | with_reducible refine Fr.drew ?_ | (with_reducible refine Fr.setCell ?_ _ _ (fun h => ?_); rotate_left; focus (simp only at h; omega))) m7
    have ba7 : w7.heap[w.heap.size]? = some (.cells #[.int .u8 (La : Int), .int .u64 (Ia : Int)] 24) := (m7.block _ (by first | omega | (simp <;> omega)) (fun f => f)).trans (by (repeat first | with_reducible exact ba6 | with_reducible exact heap_new _ _ | with_reducible exact heap_next _ _ _ | with_reducible exact heap_third _ _ _ _ | with_reducible refine hp_dr ?_ | (with_reducible refine hp_ne ?_ ?_; focus omega) | (with_reducible refine hp_al ?_ ?_; focus (first | omega | (simp <;> omega))) | with_reducible apply hp_set) <;> rfl)
    have bl7 : w7.heap[w6.heap.size]? = some (.cells #[.int .u8 0, .int .u64 0] 24) := (m7.block _ (by first | omega | (simp <;> omega)) (fun f => f)).trans (by (repeat first | with_reducible exact heap_new _ _ | with_reducible exact heap_new _ _ | with_reducible exact heap_next _ _ _ | with_reducible exact heap_third _ _ _ _ | with_reducible refine hp_dr ?_ | (with_reducible refine hp_ne ?_ ?_; focus omega) | (with_reducible refine hp_al ?_ ?_; focus (first | omega | (simp <;> omega))) | with_reducible apply hp_set) <;> rfl)
    have br7 : w7.heap[w6.heap.size + 1]? = some (.cells #[.int .u8 0, .int .u64 0] 24) := (m7.block _ (by first | omega | (simp <;> omega)) (fun f => f)).trans (by (repeat first | with_reducible exact heap_new _ _ | with_reducible exact heap_new _ _ | with_reducible exact heap_next _ _ _ | with_reducible exact heap_third _ _ _ _ | with_reducible refine hp_dr ?_ | (with_reducible refine hp_ne ?_ ?_; focus omega) | (with_reducible refine hp_al ?_ ?_; focus (first | omega | (simp <;> omega))) | with_reducible apply hp_set) <;> rfl)
    clear m7 n6 ba6 la6 xa6 ya6
    have la7 := heap_lt ba7
    have xa7 := cell2a ba7
    have ya7 := cell2b ba7
    have ll7 := heap_lt bl7
    have xl7 := cell2a bl7
    have yl7 := cell2b bl7
    have lr7 := heap_lt br7
    have xr7 := cell2a br7
    have yr7 := cell2b br7
    go_wp2_with fail
    refine (q4 _ (by repeat first | with_reducible exact n7 | with_reducible refine Fr.alloc ?_ _ | with_reducible refine Fr.drew ?_ | (with_reducible refine Fr.setCell ?_ _ _ (fun h => ?_); rotate_left; focus (simp only at h; omega)))).mono ?_
    rintro e8 w8 ⟨rfl, m8⟩
    have n8 : Nw w w8 := Nw.tr (by repeat first | with_reducible exact n7 | with_reducible refine Fr.alloc ?_ _ | with_reducible refine Fr.drew ?_ | (with_reducible refine Fr.setCell ?_ _ _ (fun h => ?_); rotate_left; focus (simp only at h; omega))) m8
    have bl8 : w8.heap[w6.heap.size]? = some (.cells #[.int .u8 0, .int .u64 0] 24) := (m8.block _ (by first | omega | (simp <;> omega)) (fun f => f)).trans (by (repeat first | with_reducible exact bl7 | with_reducible exact heap_new _ _ | with_reducible exact heap_next _ _ _ | with_reducible exact heap_third _ _ _ _ | with_reducible refine hp_dr ?_ | (with_reducible refine hp_ne ?_ ?_; focus omega) | (with_reducible refine hp_al ?_ ?_; focus (first | omega | (simp <;> omega))) | with_reducible apply hp_set) <;> rfl)
    have br8 : w8.heap[w6.heap.size + 1]? = some (.cells #[.int .u8 0, .int .u64 0] 24) := (m8.block _ (by first | omega | (simp <;> omega)) (fun f => f)).trans (by (repeat first | with_reducible exact br7 | with_reducible exact heap_new _ _ | with_reducible exact heap_next _ _ _ | with_reducible exact heap_third _ _ _ _ | with_reducible refine hp_dr ?_ | (with_reducible refine hp_ne ?_ ?_; focus omega) | (with_reducible refine hp_al ?_ ?_; focus (first | omega | (simp <;> omega))) | with_reducible apply hp_set) <;> rfl)
    clear m8 n7 ba7 la7 xa7 ya7 bl7 ll7 xl7 yl7 br7 lr7 xr7 yr7
    have ll8 := heap_lt bl8
    have xl8 := cell2a bl8
    have yl8 := cell2b bl8
    have lr8 := heap_lt br8
    have xr8 := cell2a br8
    have yr8 := cell2b br8
    go_wp2
    go_ret
    exact ⟨rfl, n8⟩

theorem meets_any (La Ia Lb Ib : Nat) (hLa : La ≤ 255) (hIa : Ia < 18446744073709551616) (hLb : Lb ≤ 255) (hIb : Ib < 18446744073709551616) (w : World) (hT : TabAt w) :
    Calls Tryd.prog 3 #[cd La Ia, cd Lb Ib] w fun x w' => x = .returned (.bool true) ∧ Nw w w' := by
  by_cases h : may La Ia ∧ may Lb Ib
  · obtain ⟨m, _, hC⟩ := isC_ex h.1 h.2
    exact meets_yes La Ia Lb Ib m h.1 h.2 hC w hT
  · exact meets_no La Ia Lb Ib h hLa hIa hLb hIb w hT
end Go.Proofs.YtibkmcmgolbhhabDoor
