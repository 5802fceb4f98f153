/- CoordFamily. -/
import Derived.Test.YtibkmcmgolbhhaaDoorD3
import Derived.Deep.DeepCutAuto
namespace Go.Proofs.YtibkmcmgolbhhaaDoor
open Go.RowKit
set_option linter.unusedVariables false
set_option linter.unusedSimpArgs false

theorem hidf {p : Prop} (h : p) : Hid p := h
theorem half_powf {m : Nat} (h : 0 < m) (q : Nat) : q * 2 ^ m = 2 * q * 2 ^ (m - 1) := by
  have hp : 2 ^ m = 2 * 2 ^ (m - 1) := by rw [← Nat.pow_succ']; congr 1; omega
  rw [hp, Nat.mul_comm 2 q, Nat.mul_assoc]
theorem may_childf {m q : Nat} (h : may m q) (h0 : 0 < m) : may (m - 1) (2 * q) ∧ may (m - 1) (2 * q + 1) := by
  have h1 := h.1
  have h2 := h.2
  rw [half_powf h0] at h2
  have e : 2 * (q + 1) = 2 * q + 1 + 1 := by omega
  rw [e] at h2
  refine ⟨⟨by omega, Nat.le_trans (Nat.mul_le_mul_right _ (by omega)) h2⟩, ⟨by omega, h2⟩⟩
theorem sib_facts (I : Nat) : sib I / 2 = I / 2 ∧ sib (sib I) = I ∧ sib I ≠ I ∧ ((I = 2 * (I / 2) ∧ sib I = 2 * (I / 2) + 1) ∨ (I = 2 * (I / 2) + 1 ∧ sib I = 2 * (I / 2))) := by
  unfold sib
  by_cases h : I % 2 = 0
  · rw [if_pos h, if_neg (by omega)]; omega
  · rw [if_neg h, if_pos (by omega)]; omega
theorem may_sib {L I : Nat} (h : may L I) (h63 : L < 63) : may L (sib I) := by
  have h1 := may_childf (may_up h h63) (by omega)
  rw [Nat.add_sub_cancel] at h1
  rcases (sib_facts I).2.2.2 with ⟨_, k⟩ | ⟨_, k⟩
  · rw [k]; exact h1.2
  · rw [k]; exact h1.1

/-- Behind the first look: the tree in its block. -/
def Fam (w W : World) (L I : Nat) : Prop := W.heap[w.heap.size]? = some (.cells #[.int .u8 (L : Int), .int .u64 (I : Int)] 24) ∧ Nw w W

set_option maxRecDepth 100000 in
set_option maxHeartbeats 8000000 in
theorem family_no (L I b e : Nat) (hm : ¬ may L I) (hL : L ≤ 255) (hI : I < 18446744073709551616) (hb : b < 18446744073709551616) (he : e < 18446744073709551616) (w : World) (hT : TabAt w) :
    Calls Tryd.prog 5 #[cd L I, sp b e] w fun x w' => x = .returned (.bool true) ∧ Nw w w' := by
  have HT : Hid (TabAt w) := hT
  clear hT
  have q1 := fun w => span_no L I hm hL hI w
  have q2 := fun w => parent_no L I (fun k => hm k.2) hL hI w
  have q3 := fun w => sibling_no L I (fun k => hm k.2) hL hI w
  have q4 := fun w => children_no L I (fun k => hm k.2) hL hI w
  have hlv : 63 < L ∨ (L ≤ 63 ∧ 2 ^ (63 - L) ≤ I) := by
    rcases Nat.lt_or_ge 63 L with k | k
    · exact .inl k
    · exact .inr ⟨k, Nat.le_of_not_lt fun k2 => hm ((may_lt k).2 k2)⟩
  have HLV := hidf hlv
  clear hm hlv
  obtain ⟨x2, y2, o2, h2, bx2, by2⟩ := ofIs_ex b e
  have H2 := hidf h2
  clear h2
  go_enter Tryd.func5, Tryd.ntmps5
  go_wp2_with fail
  refine (of_any H2.out hb he _ (HT.out.nw (by repeat first | with_reducible exact nwr w | with_reducible refine Fr.alloc ?_ _ | with_reducible refine Fr.drew ?_ | (with_reducible refine Fr.setCell ?_ _ _ (fun h => ?_); rotate_left; focus (simp only at h; omega))))).mono ?_
  rintro e1 w1 ⟨rfl, m1⟩
  have n1 : Nw w w1 := Nw.tr (by repeat first | with_reducible exact nwr w | with_reducible refine Fr.alloc ?_ _ | with_reducible refine Fr.drew ?_ | (with_reducible refine Fr.setCell ?_ _ _ (fun h => ?_); rotate_left; focus (simp only at h; omega))) m1
  have bc1 : w1.heap[w.heap.size]? = some (.cells #[.int .u8 (L : Int), .int .u64 (I : Int)] 24) := (m1.block _ (by first | omega | (simp <;> omega)) (fun f => f)).trans (by (repeat first | with_reducible exact heap_new _ _ | with_reducible exact heap_new _ _ | with_reducible exact heap_next _ _ _ | with_reducible exact heap_third _ _ _ _ | with_reducible refine hp_dr ?_ | (with_reducible refine hp_ne ?_ ?_; focus omega) | (with_reducible refine hp_al ?_ ?_; focus (first | omega | (simp <;> omega))) | with_reducible apply hp_set) <;> rfl)
  have bs1 : w1.heap[w.heap.size + 1]? = some (.cells #[.int .u64 (b : Int), .int .u64 (e : Int)] 26) := (m1.block _ (by first | omega | (simp <;> omega)) (fun f => f)).trans (by (repeat first | with_reducible exact heap_new _ _ | with_reducible exact heap_new _ _ | with_reducible exact heap_next _ _ _ | with_reducible exact heap_third _ _ _ _ | with_reducible refine hp_dr ?_ | (with_reducible refine hp_ne ?_ ?_; focus omega) | (with_reducible refine hp_al ?_ ?_; focus (first | omega | (simp <;> omega))) | with_reducible apply hp_set) <;> rfl)
  clear m1
  have lc1 := heap_lt bc1
  have xc1 := cell2a bc1
  have yc1 := cell2b bc1
  have ls1 := heap_lt bs1
  have xs1 := cell2a bs1
  have ys1 := cell2b bs1
  go_upto_if 39 with fail
  refine gen_world (fun W => W.heap[w.heap.size]? = some (.cells #[.int .u8 (L : Int), .int .u64 (I : Int)] 24) ∧ W.heap[w.heap.size + 1]? = some (.cells #[.int .u64 (b : Int), .int .u64 (e : Int)] 26) ∧ W.heap[w1.heap.size]? = some (.cells #[.int .u8 (x2 : Int), .int .u64 (y2 : Int)] 24) ∧ Nw w W) ⟨by (repeat first | with_reducible exact bc1 | with_reducible exact heap_new _ _ | with_reducible exact heap_next _ _ _ | with_reducible exact heap_third _ _ _ _ | with_reducible refine hp_dr ?_ | (with_reducible refine hp_ne ?_ ?_; focus omega) | (with_reducible refine hp_al ?_ ?_; focus (first | omega | (simp <;> omega))) | with_reducible apply hp_set) <;> rfl, by (repeat first | with_reducible exact bs1 | with_reducible exact heap_new _ _ | with_reducible exact heap_next _ _ _ | with_reducible exact heap_third _ _ _ _ | with_reducible refine hp_dr ?_ | (with_reducible refine hp_ne ?_ ?_; focus omega) | (with_reducible refine hp_al ?_ ?_; focus (first | omega | (simp <;> omega))) | with_reducible apply hp_set) <;> rfl, by (repeat first | with_reducible exact heap_new _ _ | with_reducible exact heap_new _ _ | with_reducible exact heap_next _ _ _ | with_reducible exact heap_third _ _ _ _ | with_reducible refine hp_dr ?_ | (with_reducible refine hp_ne ?_ ?_; focus omega) | (with_reducible refine hp_al ?_ ?_; focus (first | omega | (simp <;> omega))) | with_reducible apply hp_set) <;> rfl, (by repeat first | with_reducible exact n1 | with_reducible refine Fr.alloc ?_ _ | with_reducible refine Fr.drew ?_ | (with_reducible refine Fr.setCell ?_ _ _ (fun h => ?_); rotate_left; focus (simp only at h; omega)))⟩ ?_
  clear bc1 bs1 n1 lc1 ls1 xc1 yc1 xs1 ys1
  rintro w2 ⟨bc2, bs2, bt2, n2⟩
  go_cut [] (fun wx => wx.heap[w.heap.size]? = some (.cells #[.int .u8 (L : Int), .int .u64 (I : Int)] 24) ∧ Nw w wx)
  case first =>
    have hof : o2 = false ∨ (o2 = true ∧ SpanIs x2 y2 b e true) := by
      rcases H2.out with ⟨k1, k2, k3, k4⟩ | ⟨_, _, _, k4⟩
      · exact .inr ⟨k4, .inl ⟨k1, k2, k3, rfl⟩⟩
      · exact .inl k4
    clear H2
    rcases hof with rfl | ⟨rfl, hof⟩
    · go_wp2
      go_meet
      exact ⟨bc2, n2⟩
    · have HO := hidf hof
      clear hof
      have xt2 := cell2a bt2
      have yt2 := cell2b bt2
      go_wp2_with fail
      refine (span_any HO.out bx2 by2 _).mono ?_
      rintro ex w3 ⟨rfl, n3⟩
      have bc3 := (n3.block _ (heap_lt bc2) (fun f => f)).trans bc2
      have bs3 := (n3.block _ (heap_lt bs2) (fun f => f)).trans bs2
      have n4 : Nw w w3 := n2.tr n3
      clear n3 n2 bc2 bs2 bt2 xt2 yt2
      have ls3 := heap_lt bs3
      have xs3 := cell2a bs3
      have ys3 := cell2b bs3
      go_wp2
      go_meet
      exact ⟨by (repeat first | with_reducible exact bc3 | with_reducible exact heap_new _ _ | with_reducible exact heap_next _ _ _ | with_reducible exact heap_third _ _ _ _ | with_reducible refine hp_dr ?_ | (with_reducible refine hp_ne ?_ ?_; focus omega) | (with_reducible refine hp_al ?_ ?_; focus (first | omega | (simp <;> omega))) | with_reducible apply hp_set) <;> rfl, (by repeat first | with_reducible exact n4 | with_reducible refine Fr.alloc ?_ _ | with_reducible refine Fr.drew ?_ | (with_reducible refine Fr.setCell ?_ _ _ (fun h => ?_); rotate_left; focus (simp only at h; omega)))⟩
  case rest =>
    obtain ⟨bc3, n3⟩ := hcut
    obtain ⟨w3, rfl⟩ : ∃ w3, w3 = wc := ⟨wc, rfl⟩
    clear H2 bc2 bs2 bt2 n2
    have lc3 := heap_lt bc3
    have xc3 := cell2a bc3
    have yc3 := cell2b bc3
    go_wp2_with fail
    refine (q1 _).mono ?_
    rintro e4 w4 ⟨rfl, m4⟩
    have n4 : Nw w w4 := Nw.tr (by repeat first | with_reducible exact n3 | with_reducible refine Fr.alloc ?_ _ | with_reducible refine Fr.drew ?_ | (with_reducible refine Fr.setCell ?_ _ _ (fun h => ?_); rotate_left; focus (simp only at h; omega))) m4
    have bc4 : w4.heap[w.heap.size]? = some (.cells #[.int .u8 (L : Int), .int .u64 (I : Int)] 24) := (m4.block _ (by first | omega | (simp <;> omega)) (fun f => f)).trans (by (repeat first | with_reducible exact bc3 | with_reducible exact heap_new _ _ | with_reducible exact heap_next _ _ _ | with_reducible exact heap_third _ _ _ _ | with_reducible refine hp_dr ?_ | (with_reducible refine hp_ne ?_ ?_; focus omega) | (with_reducible refine hp_al ?_ ?_; focus (first | omega | (simp <;> omega))) | with_reducible apply hp_set) <;> rfl)
    clear m4 n3 bc3 lc3 xc3 yc3
    have lc4 := heap_lt bc4
    have xc4 := cell2a bc4
    have yc4 := cell2b bc4
    go_wp2_with fail
    refine (q2 _).mono ?_
    rintro e5 w5 ⟨rfl, m5⟩
    have n5 : Nw w w5 := Nw.tr (by repeat first | with_reducible exact n4 | with_reducible refine Fr.alloc ?_ _ | with_reducible refine Fr.drew ?_ | (with_reducible refine Fr.setCell ?_ _ _ (fun h => ?_); rotate_left; focus (simp only at h; omega))) m5
    have bc5 : w5.heap[w.heap.size]? = some (.cells #[.int .u8 (L : Int), .int .u64 (I : Int)] 24) := (m5.block _ (by first | omega | (simp <;> omega)) (fun f => f)).trans (by (repeat first | with_reducible exact bc4 | with_reducible exact heap_new _ _ | with_reducible exact heap_next _ _ _ | with_reducible exact heap_third _ _ _ _ | with_reducible refine hp_dr ?_ | (with_reducible refine hp_ne ?_ ?_; focus omega) | (with_reducible refine hp_al ?_ ?_; focus (first | omega | (simp <;> omega))) | with_reducible apply hp_set) <;> rfl)
    clear m5 n4 bc4 lc4 xc4 yc4
    have lc5 := heap_lt bc5
    have xc5 := cell2a bc5
    have yc5 := cell2b bc5
    go_wp2_with fail
    refine (q3 _).mono ?_
    rintro e6 w6 ⟨rfl, m6⟩
    have n6 : Nw w w6 := Nw.tr (by repeat first | with_reducible exact n5 | with_reducible refine Fr.alloc ?_ _ | with_reducible refine Fr.drew ?_ | (with_reducible refine Fr.setCell ?_ _ _ (fun h => ?_); rotate_left; focus (simp only at h; omega))) m6
    have bc6 : w6.heap[w.heap.size]? = some (.cells #[.int .u8 (L : Int), .int .u64 (I : Int)] 24) := (m6.block _ (by first | omega | (simp <;> omega)) (fun f => f)).trans (by (repeat first | with_reducible exact bc5 | with_reducible exact heap_new _ _ | with_reducible exact heap_next _ _ _ | with_reducible exact heap_third _ _ _ _ | with_reducible refine hp_dr ?_ | (with_reducible refine hp_ne ?_ ?_; focus omega) | (with_reducible refine hp_al ?_ ?_; focus (first | omega | (simp <;> omega))) | with_reducible apply hp_set) <;> rfl)
    clear m6 n5 bc5 lc5 xc5 yc5
    have lc6 := heap_lt bc6
    have xc6 := cell2a bc6
    have yc6 := cell2b bc6
    go_wp2_with fail
    refine (q4 _).mono ?_
    rintro e7 w7 ⟨rfl, m7⟩
    have n7 : Nw w w7 := Nw.tr (by repeat first | with_reducible exact n6 | with_reducible refine Fr.alloc ?_ _ | with_reducible refine Fr.drew ?_ | (with_reducible refine Fr.setCell ?_ _ _ (fun h => ?_); rotate_left; focus (simp only at h; omega))) m7
    have bc7 : w7.heap[w.heap.size]? = some (.cells #[.int .u8 (L : Int), .int .u64 (I : Int)] 24) := (m7.block _ (by first | omega | (simp <;> omega)) (fun f => f)).trans (by (repeat first | with_reducible exact bc6 | with_reducible exact heap_new _ _ | with_reducible exact heap_next _ _ _ | with_reducible exact heap_third _ _ _ _ | with_reducible refine hp_dr ?_ | (with_reducible refine hp_ne ?_ ?_; focus omega) | (with_reducible refine hp_al ?_ ?_; focus (first | omega | (simp <;> omega))) | with_reducible apply hp_set) <;> rfl)
    clear m7 n6 bc6 lc6 xc6 yc6
    have lc7 := heap_lt bc7
    have xc7 := cell2a bc7
    have yc7 := cell2b bc7
    clear q1 q2 q3 q4
    have al := fun W (k : Nw w W) => alive_any W (HT.out.nw k)
    rcases HLV.out with k | ⟨k, k2⟩
    · have i1 : (L : Int) > 63 := by omega
      go_wp2_with fail
      refine (al _ (by repeat first | with_reducible exact n7 | with_reducible refine Fr.alloc ?_ _ | with_reducible refine Fr.drew ?_ | (with_reducible refine Fr.setCell ?_ _ _ (fun h => ?_); rotate_left; focus (simp only at h; omega)))).mono ?_
      rintro ex wx ⟨rfl, nx⟩
      have ny := Nw.tr (show Nw w _ from (by repeat first | with_reducible exact n7 | with_reducible refine Fr.alloc ?_ _ | with_reducible refine Fr.drew ?_ | (with_reducible refine Fr.setCell ?_ _ _ (fun h => ?_); rotate_left; focus (simp only at h; omega)))) nx
      go_wp2
      go_ret
      exact ⟨rfl, ny⟩
    · have i1 : ¬ (L : Int) > 63 := by omega
      have hd := end_div L k
      obtain ⟨q, hq⟩ : ∃ q, q = 2 ^ (63 - L) := ⟨_, rfl⟩
      rw [← hq] at hd k2
      have i2 : (I : Int) ≥ (q : Int) := by omega
      clear hq
      go_wp2_with fail
      refine (al _ (by repeat first | with_reducible exact n7 | with_reducible refine Fr.alloc ?_ _ | with_reducible refine Fr.drew ?_ | (with_reducible refine Fr.setCell ?_ _ _ (fun h => ?_); rotate_left; focus (simp only at h; omega)))).mono ?_
      rintro ex wx ⟨rfl, nx⟩
      have ny := Nw.tr (show Nw w _ from (by repeat first | with_reducible exact n7 | with_reducible refine Fr.alloc ?_ _ | with_reducible refine Fr.drew ?_ | (with_reducible refine Fr.setCell ?_ _ _ (fun h => ?_); rotate_left; focus (simp only at h; omega)))) nx
      go_wp2
      go_ret
      exact ⟨rfl, ny⟩

set_option maxRecDepth 100000 in
set_option maxHeartbeats 8000000 in
theorem family_low (L I b e : Nat) (hm : may L I) (h0 : ¬ 0 < L) (h63 : L < 63) (hL : L ≤ 255) (hI : I < 18446744073709551616) (hb : b < 18446744073709551616) (he : e < 18446744073709551616) (w : World) (hT : TabAt w) :
    Calls Tryd.prog 5 #[cd L I, sp b e] w fun x w' => x = .returned (.bool true) ∧ Nw w w' := by
  have HT : Hid (TabAt w) := hT
  clear hT
  have q1 := fun w => span_yes L I hm w
  have q5 := fun w k => of_yes L I hm w k
  have hm2 := hm.2
  have hbe : I * 2 ^ L ≤ (I + 1) * 2 ^ L := Nat.mul_le_mul_right _ (by omega)
  have hw : IntKind.u64.wrap (2 ^ L) = ((2 ^ L : Nat) : Int) := by rw [← pow_cast, w64]; have := two_le hm.1; have := Nat.two_pow_pos L; omega
  have hdv : ((I * 2 ^ L : Nat) : Int) / 2 ^ L = (I : Int) := by rw [castd, Nat.mul_div_cancel _ (Nat.two_pow_pos L)]
  have hsub : (I + 1) * 2 ^ L = I * 2 ^ L + 2 ^ L := by rw [Nat.add_mul, Nat.one_mul]
  have hIb := may_bd hm
  have hL63 := hm.1
  rw [p63] at hm2 hIb
  have q2 := fun w => parent_yes L I hm h63 w
  have q3 := fun w => sibling_yes L I hm h63 w
  obtain ⟨sf1, sf2, sf3, sf4⟩ := sib_facts I
  have hms := may_sib hm h63
  have u1 := fun w => parent_yes L (sib I) hms h63 w
  have u2 := fun w => sibling_yes L (sib I) hms h63 w
  have u3 := fun w => children_yes (L + 1) (I / 2) (may_up hm h63) (by omega) w
  rw [sf1] at u1
  rw [sf2] at u2
  rw [Nat.add_sub_cancel] at u3
  have hsb := may_bd hms
  rw [p63] at hsb
  obtain ⟨j, hj⟩ : ∃ j, j = sib I := ⟨_, rfl⟩
  obtain ⟨h, hh⟩ : ∃ h, h = I / 2 := ⟨_, rfl⟩
  rw [← hj] at q3 u1 u2 sf3 sf4 hsb
  rw [← hh] at q2 u1 u3 sf4
  obtain ⟨M, hM⟩ : ∃ M, M = L + 1 := ⟨_, rfl⟩
  rw [← hM] at q2 u1 u3
  have hM2 : M ≤ 63 := by omega
  have hh2 : h ≤ I := by omega
  have hpar : (Hid (2 * h = I ∧ 2 * h + 1 = j)) ∨ (Hid (2 * h = j ∧ 2 * h + 1 = I)) := by
    rcases sf4 with k | k
    · exact .inl ⟨k.1.symm, k.2.symm⟩
    · exact .inr ⟨k.2.symm, k.1.symm⟩
  have HPAR := hidf hpar
  have hij : ((I : Int) == (j : Int)) = false := by simp; omega
  have hji : ((j : Int) == (I : Int)) = false := by simp; omega
  have U3 := hidf u3
  clear hms sf1 sf2 sf3 sf4 hj hh hpar u3 hM
  have q4 := fun w => children_no L I (fun k => h0 k.1) hL hI w
  have HM := hidf hm
  obtain ⟨s1, hs1⟩ : ∃ x, x = I * 2 ^ L := ⟨_, rfl⟩
  obtain ⟨s2, hs2⟩ : ∃ x, x = (I + 1) * 2 ^ L := ⟨_, rfl⟩
  obtain ⟨P, hP⟩ : ∃ P, P = 2 ^ L := ⟨_, rfl⟩
  rw [← hs1] at q1 q5 hbe hdv hsub
  rw [← hs2] at q1 q5 hbe hm2 hsub
  rw [← hP] at hw hsub
  have hsub2 : (s2 : Int) - (s1 : Int) = (P : Int) := by omega
  have hend : ¬ (s2 : Int) > 9223372036854775808 := by omega
  have i1 : (L : Int) < 63 := by omega
  have i2 : ¬ (L : Int) > 0 := by omega
  clear hs1 hs2 hP hsub hm
  obtain ⟨x2, y2, o2, h2, bx2, by2⟩ := ofIs_ex b e
  have H2 := hidf h2
  clear h2
  go_enter Tryd.func5, Tryd.ntmps5
  go_wp2_with fail
  refine (of_any H2.out hb he _ (HT.out.nw (by repeat first | with_reducible exact nwr w | with_reducible refine Fr.alloc ?_ _ | with_reducible refine Fr.drew ?_ | (with_reducible refine Fr.setCell ?_ _ _ (fun h => ?_); rotate_left; focus (simp only at h; omega))))).mono ?_
  rintro e1 w1 ⟨rfl, m1⟩
  have n1 : Nw w w1 := Nw.tr (by repeat first | with_reducible exact nwr w | with_reducible refine Fr.alloc ?_ _ | with_reducible refine Fr.drew ?_ | (with_reducible refine Fr.setCell ?_ _ _ (fun h => ?_); rotate_left; focus (simp only at h; omega))) m1
  have bc1 : w1.heap[w.heap.size]? = some (.cells #[.int .u8 (L : Int), .int .u64 (I : Int)] 24) := (m1.block _ (by first | omega | (simp <;> omega)) (fun f => f)).trans (by (repeat first | with_reducible exact heap_new _ _ | with_reducible exact heap_new _ _ | with_reducible exact heap_next _ _ _ | with_reducible exact heap_third _ _ _ _ | with_reducible refine hp_dr ?_ | (with_reducible refine hp_ne ?_ ?_; focus omega) | (with_reducible refine hp_al ?_ ?_; focus (first | omega | (simp <;> omega))) | with_reducible apply hp_set) <;> rfl)
  have bs1 : w1.heap[w.heap.size + 1]? = some (.cells #[.int .u64 (b : Int), .int .u64 (e : Int)] 26) := (m1.block _ (by first | omega | (simp <;> omega)) (fun f => f)).trans (by (repeat first | with_reducible exact heap_new _ _ | with_reducible exact heap_new _ _ | with_reducible exact heap_next _ _ _ | with_reducible exact heap_third _ _ _ _ | with_reducible refine hp_dr ?_ | (with_reducible refine hp_ne ?_ ?_; focus omega) | (with_reducible refine hp_al ?_ ?_; focus (first | omega | (simp <;> omega))) | with_reducible apply hp_set) <;> rfl)
  clear m1
  have lc1 := heap_lt bc1
  have xc1 := cell2a bc1
  have yc1 := cell2b bc1
  have ls1 := heap_lt bs1
  have xs1 := cell2a bs1
  have ys1 := cell2b bs1
  go_upto_if 39 with fail
  refine gen_world (fun W => W.heap[w.heap.size]? = some (.cells #[.int .u8 (L : Int), .int .u64 (I : Int)] 24) ∧ W.heap[w.heap.size + 1]? = some (.cells #[.int .u64 (b : Int), .int .u64 (e : Int)] 26) ∧ W.heap[w1.heap.size]? = some (.cells #[.int .u8 (x2 : Int), .int .u64 (y2 : Int)] 24) ∧ Nw w W) ⟨by (repeat first | with_reducible exact bc1 | with_reducible exact heap_new _ _ | with_reducible exact heap_next _ _ _ | with_reducible exact heap_third _ _ _ _ | with_reducible refine hp_dr ?_ | (with_reducible refine hp_ne ?_ ?_; focus omega) | (with_reducible refine hp_al ?_ ?_; focus (first | omega | (simp <;> omega))) | with_reducible apply hp_set) <;> rfl, by (repeat first | with_reducible exact bs1 | with_reducible exact heap_new _ _ | with_reducible exact heap_next _ _ _ | with_reducible exact heap_third _ _ _ _ | with_reducible refine hp_dr ?_ | (with_reducible refine hp_ne ?_ ?_; focus omega) | (with_reducible refine hp_al ?_ ?_; focus (first | omega | (simp <;> omega))) | with_reducible apply hp_set) <;> rfl, by (repeat first | with_reducible exact heap_new _ _ | with_reducible exact heap_new _ _ | with_reducible exact heap_next _ _ _ | with_reducible exact heap_third _ _ _ _ | with_reducible refine hp_dr ?_ | (with_reducible refine hp_ne ?_ ?_; focus omega) | (with_reducible refine hp_al ?_ ?_; focus (first | omega | (simp <;> omega))) | with_reducible apply hp_set) <;> rfl, (by repeat first | with_reducible exact n1 | with_reducible refine Fr.alloc ?_ _ | with_reducible refine Fr.drew ?_ | (with_reducible refine Fr.setCell ?_ _ _ (fun h => ?_); rotate_left; focus (simp only at h; omega)))⟩ ?_
  clear bc1 bs1 n1 lc1 ls1 xc1 yc1 xs1 ys1
  rintro w2 ⟨bc2, bs2, bt2, n2⟩
  go_cut [] (fun wx => wx.heap[w.heap.size]? = some (.cells #[.int .u8 (L : Int), .int .u64 (I : Int)] 24) ∧ Nw w wx)
  case first =>
    have hof : o2 = false ∨ (o2 = true ∧ SpanIs x2 y2 b e true) := by
      rcases H2.out with ⟨k1, k2, k3, k4⟩ | ⟨_, _, _, k4⟩
      · exact .inr ⟨k4, .inl ⟨k1, k2, k3, rfl⟩⟩
      · exact .inl k4
    clear H2
    rcases hof with rfl | ⟨rfl, hof⟩
    · go_wp2
      go_meet
      exact ⟨bc2, n2⟩
    · have HO := hidf hof
      clear hof
      have xt2 := cell2a bt2
      have yt2 := cell2b bt2
      go_wp2_with fail
      refine (span_any HO.out bx2 by2 _).mono ?_
      rintro ex w3 ⟨rfl, n3⟩
      have bc3 := (n3.block _ (heap_lt bc2) (fun f => f)).trans bc2
      have bs3 := (n3.block _ (heap_lt bs2) (fun f => f)).trans bs2
      have n4 : Nw w w3 := n2.tr n3
      clear n3 n2 bc2 bs2 bt2 xt2 yt2
      have ls3 := heap_lt bs3
      have xs3 := cell2a bs3
      have ys3 := cell2b bs3
      go_wp2
      go_meet
      exact ⟨by (repeat first | with_reducible exact bc3 | with_reducible exact heap_new _ _ | with_reducible exact heap_next _ _ _ | with_reducible exact heap_third _ _ _ _ | with_reducible refine hp_dr ?_ | (with_reducible refine hp_ne ?_ ?_; focus omega) | (with_reducible refine hp_al ?_ ?_; focus (first | omega | (simp <;> omega))) | with_reducible apply hp_set) <;> rfl, (by repeat first | with_reducible exact n4 | with_reducible refine Fr.alloc ?_ _ | with_reducible refine Fr.drew ?_ | (with_reducible refine Fr.setCell ?_ _ _ (fun h => ?_); rotate_left; focus (simp only at h; omega)))⟩
  case rest =>
    obtain ⟨bc3, n3⟩ := hcut
    obtain ⟨w3, rfl⟩ : ∃ w3, w3 = wc := ⟨wc, rfl⟩
    clear H2 bc2 bs2 bt2 n2
    have lc3 := heap_lt bc3
    have xc3 := cell2a bc3
    have yc3 := cell2b bc3
    go_wp2_with fail
    refine (q1 _).mono ?_
    rintro e4 w4 ⟨rfl, m4⟩
    have n4 : Nw w w4 := Nw.tr (by repeat first | with_reducible exact n3 | with_reducible refine Fr.alloc ?_ _ | with_reducible refine Fr.drew ?_ | (with_reducible refine Fr.setCell ?_ _ _ (fun h => ?_); rotate_left; focus (simp only at h; omega))) m4
    have bc4 : w4.heap[w.heap.size]? = some (.cells #[.int .u8 (L : Int), .int .u64 (I : Int)] 24) := (m4.block _ (by first | omega | (simp <;> omega)) (fun f => f)).trans (by (repeat first | with_reducible exact bc3 | with_reducible exact heap_new _ _ | with_reducible exact heap_next _ _ _ | with_reducible exact heap_third _ _ _ _ | with_reducible refine hp_dr ?_ | (with_reducible refine hp_ne ?_ ?_; focus omega) | (with_reducible refine hp_al ?_ ?_; focus (first | omega | (simp <;> omega))) | with_reducible apply hp_set) <;> rfl)
    clear m4 n3 bc3 lc3 xc3 yc3
    have lc4 := heap_lt bc4
    have xc4 := cell2a bc4
    have yc4 := cell2b bc4
    go_wp2_with fail
    refine (q2 _).mono ?_
    rintro e5 w5 ⟨rfl, m5⟩
    have n5 : Nw w w5 := Nw.tr (by repeat first | with_reducible exact n4 | with_reducible refine Fr.alloc ?_ _ | with_reducible refine Fr.drew ?_ | (with_reducible refine Fr.setCell ?_ _ _ (fun h => ?_); rotate_left; focus (simp only at h; omega))) m5
    have bc5 : w5.heap[w.heap.size]? = some (.cells #[.int .u8 (L : Int), .int .u64 (I : Int)] 24) := (m5.block _ (by first | omega | (simp <;> omega)) (fun f => f)).trans (by (repeat first | with_reducible exact bc4 | with_reducible exact heap_new _ _ | with_reducible exact heap_next _ _ _ | with_reducible exact heap_third _ _ _ _ | with_reducible refine hp_dr ?_ | (with_reducible refine hp_ne ?_ ?_; focus omega) | (with_reducible refine hp_al ?_ ?_; focus (first | omega | (simp <;> omega))) | with_reducible apply hp_set) <;> rfl)
    have ba5 : w5.heap[w4.heap.size]? = some (.cells #[.int .u64 (s1 : Int), .int .u64 (s2 : Int)] 26) := (m5.block _ (by first | omega | (simp <;> omega)) (fun f => f)).trans (by (repeat first | with_reducible exact heap_new _ _ | with_reducible exact heap_new _ _ | with_reducible exact heap_next _ _ _ | with_reducible exact heap_third _ _ _ _ | with_reducible refine hp_dr ?_ | (with_reducible refine hp_ne ?_ ?_; focus omega) | (with_reducible refine hp_al ?_ ?_; focus (first | omega | (simp <;> omega))) | with_reducible apply hp_set) <;> rfl)
    clear m5 n4 bc4 lc4 xc4 yc4
    have lc5 := heap_lt bc5
    have xc5 := cell2a bc5
    have yc5 := cell2b bc5
    have la5 := heap_lt ba5
    have xa5 := cell2a ba5
    have ya5 := cell2b ba5
    go_wp2_with fail
    refine (q3 _).mono ?_
    rintro e6 w6 ⟨rfl, m6⟩
    have n6 : Nw w w6 := Nw.tr (by repeat first | with_reducible exact n5 | with_reducible refine Fr.alloc ?_ _ | with_reducible refine Fr.drew ?_ | (with_reducible refine Fr.setCell ?_ _ _ (fun h => ?_); rotate_left; focus (simp only at h; omega))) m6
    have bc6 : w6.heap[w.heap.size]? = some (.cells #[.int .u8 (L : Int), .int .u64 (I : Int)] 24) := (m6.block _ (by first | omega | (simp <;> omega)) (fun f => f)).trans (by (repeat first | with_reducible exact bc5 | with_reducible exact heap_new _ _ | with_reducible exact heap_next _ _ _ | with_reducible exact heap_third _ _ _ _ | with_reducible refine hp_dr ?_ | (with_reducible refine hp_ne ?_ ?_; focus omega) | (with_reducible refine hp_al ?_ ?_; focus (first | omega | (simp <;> omega))) | with_reducible apply hp_set) <;> rfl)
    have ba6 : w6.heap[w4.heap.size]? = some (.cells #[.int .u64 (s1 : Int), .int .u64 (s2 : Int)] 26) := (m6.block _ (by first | omega | (simp <;> omega)) (fun f => f)).trans (by (repeat first | with_reducible exact ba5 | with_reducible exact heap_new _ _ | with_reducible exact heap_next _ _ _ | with_reducible exact heap_third _ _ _ _ | with_reducible refine hp_dr ?_ | (with_reducible refine hp_ne ?_ ?_; focus omega) | (with_reducible refine hp_al ?_ ?_; focus (first | omega | (simp <;> omega))) | with_reducible apply hp_set) <;> rfl)
    have bp6 : w6.heap[w5.heap.size]? = some (.cells #[.int .u8 (M : Int), .int .u64 (h : Int)] 24) := (m6.block _ (by first | omega | (simp <;> omega)) (fun f => f)).trans (by (repeat first | with_reducible exact heap_new _ _ | with_reducible exact heap_new _ _ | with_reducible exact heap_next _ _ _ | with_reducible exact heap_third _ _ _ _ | with_reducible refine hp_dr ?_ | (with_reducible refine hp_ne ?_ ?_; focus omega) | (with_reducible refine hp_al ?_ ?_; focus (first | omega | (simp <;> omega))) | with_reducible apply hp_set) <;> rfl)
    clear m6 n5 bc5 lc5 xc5 yc5 ba5 la5 xa5 ya5
    have lc6 := heap_lt bc6
    have xc6 := cell2a bc6
    have yc6 := cell2b bc6
    have la6 := heap_lt ba6
    have xa6 := cell2a ba6
    have ya6 := cell2b ba6
    have lp6 := heap_lt bp6
    have xp6 := cell2a bp6
    have yp6 := cell2b bp6
    go_wp2_with fail
    refine (q4 _).mono ?_
    rintro e7 w7 ⟨rfl, m7⟩
    have n7 : Nw w w7 := Nw.tr (by repeat first | with_reducible exact n6 | with_reducible refine Fr.alloc ?_ _ | with_reducible refine Fr.drew ?_ | (with_reducible refine Fr.setCell ?_ _ _ (fun h => ?_); rotate_left; focus (simp only at h; omega))) m7
    have bc7 : w7.heap[w.heap.size]? = some (.cells #[.int .u8 (L : Int), .int .u64 (I : Int)] 24) := (m7.block _ (by first | omega | (simp <;> omega)) (fun f => f)).trans (by (repeat first | with_reducible exact bc6 | with_reducible exact heap_new _ _ | with_reducible exact heap_next _ _ _ | with_reducible exact heap_third _ _ _ _ | with_reducible refine hp_dr ?_ | (with_reducible refine hp_ne ?_ ?_; focus omega) | (with_reducible refine hp_al ?_ ?_; focus (first | omega | (simp <;> omega))) | with_reducible apply hp_set) <;> rfl)
    have ba7 : w7.heap[w4.heap.size]? = some (.cells #[.int .u64 (s1 : Int), .int .u64 (s2 : Int)] 26) := (m7.block _ (by first | omega | (simp <;> omega)) (fun f => f)).trans (by (repeat first | with_reducible exact ba6 | with_reducible exact heap_new _ _ | with_reducible exact heap_next _ _ _ | with_reducible exact heap_third _ _ _ _ | with_reducible refine hp_dr ?_ | (with_reducible refine hp_ne ?_ ?_; focus omega) | (with_reducible refine hp_al ?_ ?_; focus (first | omega | (simp <;> omega))) | with_reducible apply hp_set) <;> rfl)
    have bp7 : w7.heap[w5.heap.size]? = some (.cells #[.int .u8 (M : Int), .int .u64 (h : Int)] 24) := (m7.block _ (by first | omega | (simp <;> omega)) (fun f => f)).trans (by (repeat first | with_reducible exact bp6 | with_reducible exact heap_new _ _ | with_reducible exact heap_next _ _ _ | with_reducible exact heap_third _ _ _ _ | with_reducible refine hp_dr ?_ | (with_reducible refine hp_ne ?_ ?_; focus omega) | (with_reducible refine hp_al ?_ ?_; focus (first | omega | (simp <;> omega))) | with_reducible apply hp_set) <;> rfl)
    have bb7 : w7.heap[w6.heap.size]? = some (.cells #[.int .u8 (L : Int), .int .u64 (j : Int)] 24) := (m7.block _ (by first | omega | (simp <;> omega)) (fun f => f)).trans (by (repeat first | with_reducible exact heap_new _ _ | with_reducible exact heap_new _ _ | with_reducible exact heap_next _ _ _ | with_reducible exact heap_third _ _ _ _ | with_reducible refine hp_dr ?_ | (with_reducible refine hp_ne ?_ ?_; focus omega) | (with_reducible refine hp_al ?_ ?_; focus (first | omega | (simp <;> omega))) | with_reducible apply hp_set) <;> rfl)
    clear m7 n6 bc6 lc6 xc6 yc6 ba6 la6 xa6 ya6 bp6 lp6 xp6 yp6
    have lc7 := heap_lt bc7
    have xc7 := cell2a bc7
    have yc7 := cell2b bc7
    have la7 := heap_lt ba7
    have xa7 := cell2a ba7
    have ya7 := cell2b ba7
    have lp7 := heap_lt bp7
    have xp7 := cell2a bp7
    have yp7 := cell2b bp7
    have lb7 := heap_lt bb7
    have xb7 := cell2a bb7
    have yb7 := cell2b bb7
    go_wp2_with fail
    refine (q5 _ (HT.out.nw (by repeat first | with_reducible exact n7 | with_reducible refine Fr.alloc ?_ _ | with_reducible refine Fr.drew ?_ | (with_reducible refine Fr.setCell ?_ _ _ (fun h => ?_); rotate_left; focus (simp only at h; omega))))).mono ?_
    rintro e8 w8 ⟨rfl, m8⟩
    have n8 : Nw w w8 := Nw.tr (by repeat first | with_reducible exact n7 | with_reducible refine Fr.alloc ?_ _ | with_reducible refine Fr.drew ?_ | (with_reducible refine Fr.setCell ?_ _ _ (fun h => ?_); rotate_left; focus (simp only at h; omega))) m8
    have bc8 : w8.heap[w.heap.size]? = some (.cells #[.int .u8 (L : Int), .int .u64 (I : Int)] 24) := (m8.block _ (by first | omega | (simp <;> omega)) (fun f => f)).trans (by (repeat first | with_reducible exact bc7 | with_reducible exact heap_new _ _ | with_reducible exact heap_next _ _ _ | with_reducible exact heap_third _ _ _ _ | with_reducible refine hp_dr ?_ | (with_reducible refine hp_ne ?_ ?_; focus omega) | (with_reducible refine hp_al ?_ ?_; focus (first | omega | (simp <;> omega))) | with_reducible apply hp_set) <;> rfl)
    have ba8 : w8.heap[w4.heap.size]? = some (.cells #[.int .u64 (s1 : Int), .int .u64 (s2 : Int)] 26) := (m8.block _ (by first | omega | (simp <;> omega)) (fun f => f)).trans (by (repeat first | with_reducible exact ba7 | with_reducible exact heap_new _ _ | with_reducible exact heap_next _ _ _ | with_reducible exact heap_third _ _ _ _ | with_reducible refine hp_dr ?_ | (with_reducible refine hp_ne ?_ ?_; focus omega) | (with_reducible refine hp_al ?_ ?_; focus (first | omega | (simp <;> omega))) | with_reducible apply hp_set) <;> rfl)
    have bp8 : w8.heap[w5.heap.size]? = some (.cells #[.int .u8 (M : Int), .int .u64 (h : Int)] 24) := (m8.block _ (by first | omega | (simp <;> omega)) (fun f => f)).trans (by (repeat first | with_reducible exact bp7 | with_reducible exact heap_new _ _ | with_reducible exact heap_next _ _ _ | with_reducible exact heap_third _ _ _ _ | with_reducible refine hp_dr ?_ | (with_reducible refine hp_ne ?_ ?_; focus omega) | (with_reducible refine hp_al ?_ ?_; focus (first | omega | (simp <;> omega))) | with_reducible apply hp_set) <;> rfl)
    have bb8 : w8.heap[w6.heap.size]? = some (.cells #[.int .u8 (L : Int), .int .u64 (j : Int)] 24) := (m8.block _ (by first | omega | (simp <;> omega)) (fun f => f)).trans (by (repeat first | with_reducible exact bb7 | with_reducible exact heap_new _ _ | with_reducible exact heap_next _ _ _ | with_reducible exact heap_third _ _ _ _ | with_reducible refine hp_dr ?_ | (with_reducible refine hp_ne ?_ ?_; focus omega) | (with_reducible refine hp_al ?_ ?_; focus (first | omega | (simp <;> omega))) | with_reducible apply hp_set) <;> rfl)
    clear m8 n7 bc7 lc7 xc7 yc7 ba7 la7 xa7 ya7 bp7 lp7 xp7 yp7 bb7 lb7 xb7 yb7
    have lc8 := heap_lt bc8
    have xc8 := cell2a bc8
    have yc8 := cell2b bc8
    have la8 := heap_lt ba8
    have xa8 := cell2a ba8
    have ya8 := cell2b ba8
    have lp8 := heap_lt bp8
    have xp8 := cell2a bp8
    have yp8 := cell2b bp8
    have lb8 := heap_lt bb8
    have xb8 := cell2a bb8
    have yb8 := cell2b bb8
    clear q1 q2 q3 q4 q5
    go_wp2_with fail
    refine (u1 _).mono ?_
    rintro e9 w9 ⟨rfl, m9⟩
    have n9 : Nw w w9 := Nw.tr (by repeat first | with_reducible exact n8 | with_reducible refine Fr.alloc ?_ _ | with_reducible refine Fr.drew ?_ | (with_reducible refine Fr.setCell ?_ _ _ (fun h => ?_); rotate_left; focus (simp only at h; omega))) m9
    have bc9 : w9.heap[w.heap.size]? = some (.cells #[.int .u8 (L : Int), .int .u64 (I : Int)] 24) := (m9.block _ (by first | omega | (simp <;> omega)) (fun f => f)).trans (by (repeat first | with_reducible exact bc8 | with_reducible exact heap_new _ _ | with_reducible exact heap_next _ _ _ | with_reducible exact heap_third _ _ _ _ | with_reducible refine hp_dr ?_ | (with_reducible refine hp_ne ?_ ?_; focus omega) | (with_reducible refine hp_al ?_ ?_; focus (first | omega | (simp <;> omega))) | with_reducible apply hp_set) <;> rfl)
    have ba9 : w9.heap[w4.heap.size]? = some (.cells #[.int .u64 (s1 : Int), .int .u64 (s2 : Int)] 26) := (m9.block _ (by first | omega | (simp <;> omega)) (fun f => f)).trans (by (repeat first | with_reducible exact ba8 | with_reducible exact heap_new _ _ | with_reducible exact heap_next _ _ _ | with_reducible exact heap_third _ _ _ _ | with_reducible refine hp_dr ?_ | (with_reducible refine hp_ne ?_ ?_; focus omega) | (with_reducible refine hp_al ?_ ?_; focus (first | omega | (simp <;> omega))) | with_reducible apply hp_set) <;> rfl)
    have bp9 : w9.heap[w5.heap.size]? = some (.cells #[.int .u8 (M : Int), .int .u64 (h : Int)] 24) := (m9.block _ (by first | omega | (simp <;> omega)) (fun f => f)).trans (by (repeat first | with_reducible exact bp8 | with_reducible exact heap_new _ _ | with_reducible exact heap_next _ _ _ | with_reducible exact heap_third _ _ _ _ | with_reducible refine hp_dr ?_ | (with_reducible refine hp_ne ?_ ?_; focus omega) | (with_reducible refine hp_al ?_ ?_; focus (first | omega | (simp <;> omega))) | with_reducible apply hp_set) <;> rfl)
    have bb9 : w9.heap[w6.heap.size]? = some (.cells #[.int .u8 (L : Int), .int .u64 (j : Int)] 24) := (m9.block _ (by first | omega | (simp <;> omega)) (fun f => f)).trans (by (repeat first | with_reducible exact bb8 | with_reducible exact heap_new _ _ | with_reducible exact heap_next _ _ _ | with_reducible exact heap_third _ _ _ _ | with_reducible refine hp_dr ?_ | (with_reducible refine hp_ne ?_ ?_; focus omega) | (with_reducible refine hp_al ?_ ?_; focus (first | omega | (simp <;> omega))) | with_reducible apply hp_set) <;> rfl)
    clear m9 n8 bc8 lc8 xc8 yc8 ba8 la8 xa8 ya8 bp8 lp8 xp8 yp8 bb8 lb8 xb8 yb8
    have lc9 := heap_lt bc9
    have xc9 := cell2a bc9
    have yc9 := cell2b bc9
    have la9 := heap_lt ba9
    have xa9 := cell2a ba9
    have ya9 := cell2b ba9
    have lp9 := heap_lt bp9
    have xp9 := cell2a bp9
    have yp9 := cell2b bp9
    have lb9 := heap_lt bb9
    have xb9 := cell2a bb9
    have yb9 := cell2b bb9
    go_wp2_with fail
    refine (u2 _).mono ?_
    rintro e10 w10 ⟨rfl, m10⟩
    have n10 : Nw w w10 := Nw.tr (by repeat first | with_reducible exact n9 | with_reducible refine Fr.alloc ?_ _ | with_reducible refine Fr.drew ?_ | (with_reducible refine Fr.setCell ?_ _ _ (fun h => ?_); rotate_left; focus (simp only at h; omega))) m10
    have bc10 : w10.heap[w.heap.size]? = some (.cells #[.int .u8 (L : Int), .int .u64 (I : Int)] 24) := (m10.block _ (by first | omega | (simp <;> omega)) (fun f => f)).trans (by (repeat first | with_reducible exact bc9 | with_reducible exact heap_new _ _ | with_reducible exact heap_next _ _ _ | with_reducible exact heap_third _ _ _ _ | with_reducible refine hp_dr ?_ | (with_reducible refine hp_ne ?_ ?_; focus omega) | (with_reducible refine hp_al ?_ ?_; focus (first | omega | (simp <;> omega))) | with_reducible apply hp_set) <;> rfl)
    have ba10 : w10.heap[w4.heap.size]? = some (.cells #[.int .u64 (s1 : Int), .int .u64 (s2 : Int)] 26) := (m10.block _ (by first | omega | (simp <;> omega)) (fun f => f)).trans (by (repeat first | with_reducible exact ba9 | with_reducible exact heap_new _ _ | with_reducible exact heap_next _ _ _ | with_reducible exact heap_third _ _ _ _ | with_reducible refine hp_dr ?_ | (with_reducible refine hp_ne ?_ ?_; focus omega) | (with_reducible refine hp_al ?_ ?_; focus (first | omega | (simp <;> omega))) | with_reducible apply hp_set) <;> rfl)
    have bp10 : w10.heap[w5.heap.size]? = some (.cells #[.int .u8 (M : Int), .int .u64 (h : Int)] 24) := (m10.block _ (by first | omega | (simp <;> omega)) (fun f => f)).trans (by (repeat first | with_reducible exact bp9 | with_reducible exact heap_new _ _ | with_reducible exact heap_next _ _ _ | with_reducible exact heap_third _ _ _ _ | with_reducible refine hp_dr ?_ | (with_reducible refine hp_ne ?_ ?_; focus omega) | (with_reducible refine hp_al ?_ ?_; focus (first | omega | (simp <;> omega))) | with_reducible apply hp_set) <;> rfl)
    have bb10 : w10.heap[w6.heap.size]? = some (.cells #[.int .u8 (L : Int), .int .u64 (j : Int)] 24) := (m10.block _ (by first | omega | (simp <;> omega)) (fun f => f)).trans (by (repeat first | with_reducible exact bb9 | with_reducible exact heap_new _ _ | with_reducible exact heap_next _ _ _ | with_reducible exact heap_third _ _ _ _ | with_reducible refine hp_dr ?_ | (with_reducible refine hp_ne ?_ ?_; focus omega) | (with_reducible refine hp_al ?_ ?_; focus (first | omega | (simp <;> omega))) | with_reducible apply hp_set) <;> rfl)
    have bq10 : w10.heap[w9.heap.size]? = some (.cells #[.int .u8 (M : Int), .int .u64 (h : Int)] 24) := (m10.block _ (by first | omega | (simp <;> omega)) (fun f => f)).trans (by (repeat first | with_reducible exact heap_new _ _ | with_reducible exact heap_new _ _ | with_reducible exact heap_next _ _ _ | with_reducible exact heap_third _ _ _ _ | with_reducible refine hp_dr ?_ | (with_reducible refine hp_ne ?_ ?_; focus omega) | (with_reducible refine hp_al ?_ ?_; focus (first | omega | (simp <;> omega))) | with_reducible apply hp_set) <;> rfl)
    clear m10 n9 bc9 lc9 xc9 yc9 ba9 la9 xa9 ya9 bp9 lp9 xp9 yp9 bb9 lb9 xb9 yb9
    have lc10 := heap_lt bc10
    have xc10 := cell2a bc10
    have yc10 := cell2b bc10
    have la10 := heap_lt ba10
    have xa10 := cell2a ba10
    have ya10 := cell2b ba10
    have lp10 := heap_lt bp10
    have xp10 := cell2a bp10
    have yp10 := cell2b bp10
    have lb10 := heap_lt bb10
    have xb10 := cell2a bb10
    have yb10 := cell2b bb10
    have lq10 := heap_lt bq10
    have xq10 := cell2a bq10
    have yq10 := cell2b bq10
    clear u1 u2
    rcases HPAR.out with HP1 | HP1
    all_goals
      have u3 := U3.out
      rw [HP1.out.2, HP1.out.1] at u3
      clear U3 HPAR
    ·
      go_wp2_with fail
      refine (u3 _).mono ?_
      rintro e11 w11 ⟨rfl, m11⟩
      have n11 : Nw w w11 := Nw.tr (by repeat first | with_reducible exact n10 | with_reducible refine Fr.alloc ?_ _ | with_reducible refine Fr.drew ?_ | (with_reducible refine Fr.setCell ?_ _ _ (fun h => ?_); rotate_left; focus (simp only at h; omega))) m11
      have bc11 : w11.heap[w.heap.size]? = some (.cells #[.int .u8 (L : Int), .int .u64 (I : Int)] 24) := (m11.block _ (by first | omega | (simp <;> omega)) (fun f => f)).trans (by (repeat first | with_reducible exact bc10 | with_reducible exact heap_new _ _ | with_reducible exact heap_next _ _ _ | with_reducible exact heap_third _ _ _ _ | with_reducible refine hp_dr ?_ | (with_reducible refine hp_ne ?_ ?_; focus omega) | (with_reducible refine hp_al ?_ ?_; focus (first | omega | (simp <;> omega))) | with_reducible apply hp_set) <;> rfl)
      have ba11 : w11.heap[w4.heap.size]? = some (.cells #[.int .u64 (s1 : Int), .int .u64 (s2 : Int)] 26) := (m11.block _ (by first | omega | (simp <;> omega)) (fun f => f)).trans (by (repeat first | with_reducible exact ba10 | with_reducible exact heap_new _ _ | with_reducible exact heap_next _ _ _ | with_reducible exact heap_third _ _ _ _ | with_reducible refine hp_dr ?_ | (with_reducible refine hp_ne ?_ ?_; focus omega) | (with_reducible refine hp_al ?_ ?_; focus (first | omega | (simp <;> omega))) | with_reducible apply hp_set) <;> rfl)
      have bp11 : w11.heap[w5.heap.size]? = some (.cells #[.int .u8 (M : Int), .int .u64 (h : Int)] 24) := (m11.block _ (by first | omega | (simp <;> omega)) (fun f => f)).trans (by (repeat first | with_reducible exact bp10 | with_reducible exact heap_new _ _ | with_reducible exact heap_next _ _ _ | with_reducible exact heap_third _ _ _ _ | with_reducible refine hp_dr ?_ | (with_reducible refine hp_ne ?_ ?_; focus omega) | (with_reducible refine hp_al ?_ ?_; focus (first | omega | (simp <;> omega))) | with_reducible apply hp_set) <;> rfl)
      have bb11 : w11.heap[w6.heap.size]? = some (.cells #[.int .u8 (L : Int), .int .u64 (j : Int)] 24) := (m11.block _ (by first | omega | (simp <;> omega)) (fun f => f)).trans (by (repeat first | with_reducible exact bb10 | with_reducible exact heap_new _ _ | with_reducible exact heap_next _ _ _ | with_reducible exact heap_third _ _ _ _ | with_reducible refine hp_dr ?_ | (with_reducible refine hp_ne ?_ ?_; focus omega) | (with_reducible refine hp_al ?_ ?_; focus (first | omega | (simp <;> omega))) | with_reducible apply hp_set) <;> rfl)
      have bq11 : w11.heap[w9.heap.size]? = some (.cells #[.int .u8 (M : Int), .int .u64 (h : Int)] 24) := (m11.block _ (by first | omega | (simp <;> omega)) (fun f => f)).trans (by (repeat first | with_reducible exact bq10 | with_reducible exact heap_new _ _ | with_reducible exact heap_next _ _ _ | with_reducible exact heap_third _ _ _ _ | with_reducible refine hp_dr ?_ | (with_reducible refine hp_ne ?_ ?_; focus omega) | (with_reducible refine hp_al ?_ ?_; focus (first | omega | (simp <;> omega))) | with_reducible apply hp_set) <;> rfl)
      have be11 : w11.heap[w10.heap.size]? = some (.cells #[.int .u8 (L : Int), .int .u64 (I : Int)] 24) := (m11.block _ (by first | omega | (simp <;> omega)) (fun f => f)).trans (by (repeat first | with_reducible exact heap_new _ _ | with_reducible exact heap_new _ _ | with_reducible exact heap_next _ _ _ | with_reducible exact heap_third _ _ _ _ | with_reducible refine hp_dr ?_ | (with_reducible refine hp_ne ?_ ?_; focus omega) | (with_reducible refine hp_al ?_ ?_; focus (first | omega | (simp <;> omega))) | with_reducible apply hp_set) <;> rfl)
      clear m11 n10 bc10 lc10 xc10 yc10 ba10 la10 xa10 ya10 bp10 lp10 xp10 yp10 bb10 lb10 xb10 yb10 bq10 lq10 xq10 yq10
      have lc11 := heap_lt bc11
      have xc11 := cell2a bc11
      have yc11 := cell2b bc11
      have la11 := heap_lt ba11
      have xa11 := cell2a ba11
      have ya11 := cell2b ba11
      have lp11 := heap_lt bp11
      have xp11 := cell2a bp11
      have yp11 := cell2b bp11
      have lb11 := heap_lt bb11
      have xb11 := cell2a bb11
      have yb11 := cell2b bb11
      have lq11 := heap_lt bq11
      have xq11 := cell2a bq11
      have yq11 := cell2b bq11
      have le11 := heap_lt be11
      have xe11 := cell2a be11
      have ye11 := cell2b be11
      go_wp2_with fail
      refine (alive_any _ (HT.out.nw (by repeat first | with_reducible exact n11 | with_reducible refine Fr.alloc ?_ _ | with_reducible refine Fr.drew ?_ | (with_reducible refine Fr.setCell ?_ _ _ (fun h => ?_); rotate_left; focus (simp only at h; omega))))).mono ?_
      rintro e12 w12 ⟨rfl, m12⟩
      have n12 : Nw w w12 := Nw.tr (by repeat first | with_reducible exact n11 | with_reducible refine Fr.alloc ?_ _ | with_reducible refine Fr.drew ?_ | (with_reducible refine Fr.setCell ?_ _ _ (fun h => ?_); rotate_left; focus (simp only at h; omega))) m12
      clear m12 n11 bc11 lc11 xc11 yc11 ba11 la11 xa11 ya11 bp11 lp11 xp11 yp11 bb11 lb11 xb11 yb11 bq11 lq11 xq11 yq11 be11 le11 xe11 ye11
      go_wp2
      go_ret
      exact ⟨rfl, n12⟩
    ·
      go_wp2_with fail
      refine (u3 _).mono ?_
      rintro e11 w11 ⟨rfl, m11⟩
      have n11 : Nw w w11 := Nw.tr (by repeat first | with_reducible exact n10 | with_reducible refine Fr.alloc ?_ _ | with_reducible refine Fr.drew ?_ | (with_reducible refine Fr.setCell ?_ _ _ (fun h => ?_); rotate_left; focus (simp only at h; omega))) m11
      have bc11 : w11.heap[w.heap.size]? = some (.cells #[.int .u8 (L : Int), .int .u64 (I : Int)] 24) := (m11.block _ (by first | omega | (simp <;> omega)) (fun f => f)).trans (by (repeat first | with_reducible exact bc10 | with_reducible exact heap_new _ _ | with_reducible exact heap_next _ _ _ | with_reducible exact heap_third _ _ _ _ | with_reducible refine hp_dr ?_ | (with_reducible refine hp_ne ?_ ?_; focus omega) | (with_reducible refine hp_al ?_ ?_; focus (first | omega | (simp <;> omega))) | with_reducible apply hp_set) <;> rfl)
      have ba11 : w11.heap[w4.heap.size]? = some (.cells #[.int .u64 (s1 : Int), .int .u64 (s2 : Int)] 26) := (m11.block _ (by first | omega | (simp <;> omega)) (fun f => f)).trans (by (repeat first | with_reducible exact ba10 | with_reducible exact heap_new _ _ | with_reducible exact heap_next _ _ _ | with_reducible exact heap_third _ _ _ _ | with_reducible refine hp_dr ?_ | (with_reducible refine hp_ne ?_ ?_; focus omega) | (with_reducible refine hp_al ?_ ?_; focus (first | omega | (simp <;> omega))) | with_reducible apply hp_set) <;> rfl)
      have bp11 : w11.heap[w5.heap.size]? = some (.cells #[.int .u8 (M : Int), .int .u64 (h : Int)] 24) := (m11.block _ (by first | omega | (simp <;> omega)) (fun f => f)).trans (by (repeat first | with_reducible exact bp10 | with_reducible exact heap_new _ _ | with_reducible exact heap_next _ _ _ | with_reducible exact heap_third _ _ _ _ | with_reducible refine hp_dr ?_ | (with_reducible refine hp_ne ?_ ?_; focus omega) | (with_reducible refine hp_al ?_ ?_; focus (first | omega | (simp <;> omega))) | with_reducible apply hp_set) <;> rfl)
      have bb11 : w11.heap[w6.heap.size]? = some (.cells #[.int .u8 (L : Int), .int .u64 (j : Int)] 24) := (m11.block _ (by first | omega | (simp <;> omega)) (fun f => f)).trans (by (repeat first | with_reducible exact bb10 | with_reducible exact heap_new _ _ | with_reducible exact heap_next _ _ _ | with_reducible exact heap_third _ _ _ _ | with_reducible refine hp_dr ?_ | (with_reducible refine hp_ne ?_ ?_; focus omega) | (with_reducible refine hp_al ?_ ?_; focus (first | omega | (simp <;> omega))) | with_reducible apply hp_set) <;> rfl)
      have bq11 : w11.heap[w9.heap.size]? = some (.cells #[.int .u8 (M : Int), .int .u64 (h : Int)] 24) := (m11.block _ (by first | omega | (simp <;> omega)) (fun f => f)).trans (by (repeat first | with_reducible exact bq10 | with_reducible exact heap_new _ _ | with_reducible exact heap_next _ _ _ | with_reducible exact heap_third _ _ _ _ | with_reducible refine hp_dr ?_ | (with_reducible refine hp_ne ?_ ?_; focus omega) | (with_reducible refine hp_al ?_ ?_; focus (first | omega | (simp <;> omega))) | with_reducible apply hp_set) <;> rfl)
      have be11 : w11.heap[w10.heap.size]? = some (.cells #[.int .u8 (L : Int), .int .u64 (I : Int)] 24) := (m11.block _ (by first | omega | (simp <;> omega)) (fun f => f)).trans (by (repeat first | with_reducible exact heap_new _ _ | with_reducible exact heap_new _ _ | with_reducible exact heap_next _ _ _ | with_reducible exact heap_third _ _ _ _ | with_reducible refine hp_dr ?_ | (with_reducible refine hp_ne ?_ ?_; focus omega) | (with_reducible refine hp_al ?_ ?_; focus (first | omega | (simp <;> omega))) | with_reducible apply hp_set) <;> rfl)
      clear m11 n10 bc10 lc10 xc10 yc10 ba10 la10 xa10 ya10 bp10 lp10 xp10 yp10 bb10 lb10 xb10 yb10 bq10 lq10 xq10 yq10
      have lc11 := heap_lt bc11
      have xc11 := cell2a bc11
      have yc11 := cell2b bc11
      have la11 := heap_lt ba11
      have xa11 := cell2a ba11
      have ya11 := cell2b ba11
      have lp11 := heap_lt bp11
      have xp11 := cell2a bp11
      have yp11 := cell2b bp11
      have lb11 := heap_lt bb11
      have xb11 := cell2a bb11
      have yb11 := cell2b bb11
      have lq11 := heap_lt bq11
      have xq11 := cell2a bq11
      have yq11 := cell2b bq11
      have le11 := heap_lt be11
      have xe11 := cell2a be11
      have ye11 := cell2b be11
      go_wp2_with fail
      refine (alive_any _ (HT.out.nw (by repeat first | with_reducible exact n11 | with_reducible refine Fr.alloc ?_ _ | with_reducible refine Fr.drew ?_ | (with_reducible refine Fr.setCell ?_ _ _ (fun h => ?_); rotate_left; focus (simp only at h; omega))))).mono ?_
      rintro e12 w12 ⟨rfl, m12⟩
      have n12 : Nw w w12 := Nw.tr (by repeat first | with_reducible exact n11 | with_reducible refine Fr.alloc ?_ _ | with_reducible refine Fr.drew ?_ | (with_reducible refine Fr.setCell ?_ _ _ (fun h => ?_); rotate_left; focus (simp only at h; omega))) m12
      clear m12 n11 bc11 lc11 xc11 yc11 ba11 la11 xa11 ya11 bp11 lp11 xp11 yp11 bb11 lb11 xb11 yb11 bq11 lq11 xq11 yq11 be11 le11 xe11 ye11
      go_wp2
      go_ret
      exact ⟨rfl, n12⟩

set_option maxRecDepth 100000 in
set_option maxHeartbeats 8000000 in
theorem family_mid (L I b e : Nat) (hm : may L I) (h0 : 0 < L) (h63 : L < 63) (hL : L ≤ 255) (hI : I < 18446744073709551616) (hb : b < 18446744073709551616) (he : e < 18446744073709551616) (w : World) (hT : TabAt w) :
    Calls Tryd.prog 5 #[cd L I, sp b e] w fun x w' => x = .returned (.bool true) ∧ Nw w w' := by
  have HT : Hid (TabAt w) := hT
  clear hT
  have q1 := fun w => span_yes L I hm w
  have q5 := fun w k => of_yes L I hm w k
  have hm2 := hm.2
  have hbe : I * 2 ^ L ≤ (I + 1) * 2 ^ L := Nat.mul_le_mul_right _ (by omega)
  have hw : IntKind.u64.wrap (2 ^ L) = ((2 ^ L : Nat) : Int) := by rw [← pow_cast, w64]; have := two_le hm.1; have := Nat.two_pow_pos L; omega
  have hdv : ((I * 2 ^ L : Nat) : Int) / 2 ^ L = (I : Int) := by rw [castd, Nat.mul_div_cancel _ (Nat.two_pow_pos L)]
  have hsub : (I + 1) * 2 ^ L = I * 2 ^ L + 2 ^ L := by rw [Nat.add_mul, Nat.one_mul]
  have hIb := may_bd hm
  have hL63 := hm.1
  rw [p63] at hm2 hIb
  have q2 := fun w => parent_yes L I hm h63 w
  have q3 := fun w => sibling_yes L I hm h63 w
  obtain ⟨sf1, sf2, sf3, sf4⟩ := sib_facts I
  have hms := may_sib hm h63
  have u1 := fun w => parent_yes L (sib I) hms h63 w
  have u2 := fun w => sibling_yes L (sib I) hms h63 w
  have u3 := fun w => children_yes (L + 1) (I / 2) (may_up hm h63) (by omega) w
  rw [sf1] at u1
  rw [sf2] at u2
  rw [Nat.add_sub_cancel] at u3
  have hsb := may_bd hms
  rw [p63] at hsb
  obtain ⟨j, hj⟩ : ∃ j, j = sib I := ⟨_, rfl⟩
  obtain ⟨h, hh⟩ : ∃ h, h = I / 2 := ⟨_, rfl⟩
  rw [← hj] at q3 u1 u2 sf3 sf4 hsb
  rw [← hh] at q2 u1 u3 sf4
  obtain ⟨M, hM⟩ : ∃ M, M = L + 1 := ⟨_, rfl⟩
  rw [← hM] at q2 u1 u3
  have hM2 : M ≤ 63 := by omega
  have hh2 : h ≤ I := by omega
  have hpar : (Hid (2 * h = I ∧ 2 * h + 1 = j)) ∨ (Hid (2 * h = j ∧ 2 * h + 1 = I)) := by
    rcases sf4 with k | k
    · exact .inl ⟨k.1.symm, k.2.symm⟩
    · exact .inr ⟨k.2.symm, k.1.symm⟩
  have HPAR := hidf hpar
  have hij : ((I : Int) == (j : Int)) = false := by simp; omega
  have hji : ((j : Int) == (I : Int)) = false := by simp; omega
  have U3 := hidf u3
  clear hms sf1 sf2 sf3 sf4 hj hh hpar u3 hM
  have q4 := fun w => children_yes L I hm h0 w
  obtain ⟨mc1, mc2⟩ := may_childf hm h0
  have d1 := fun w => span_yes (L - 1) (2 * I) mc1 w
  have d2 := fun w => span_yes (L - 1) (2 * I + 1) mc2 w
  have d3 := fun w => parent_yes (L - 1) (2 * I) mc1 (by omega) w
  have d4 := fun w => parent_yes (L - 1) (2 * I + 1) mc2 (by omega) w
  have e1 : L - 1 + 1 = L := by omega
  have e2 : 2 * I / 2 = I := by omega
  have e3 : (2 * I + 1) / 2 = I := by omega
  have e4 : 2 * I + 1 + 1 = 2 * (I + 1) := by omega
  rw [e1, e2] at d3
  rw [e1, e3] at d4
  rw [e4, ← half_powf h0] at d2
  rw [← half_powf h0] at d1
  have hv := mc1.2
  rw [p63] at hv
  obtain ⟨v, hv1⟩ : ∃ v, v = (2 * I + 1) * 2 ^ (L - 1) := ⟨_, rfl⟩
  rw [← hv1] at d1 d2 hv
  have hIh := may_half hm h0
  obtain ⟨c1, hc1⟩ : ∃ c1, c1 = L - 1 := ⟨_, rfl⟩
  obtain ⟨c2, hc2⟩ : ∃ c2, c2 = 2 * I := ⟨_, rfl⟩
  rw [← hc1, ← hc2] at q4 d1 d2 d3 d4
  obtain ⟨c3, hc3⟩ : ∃ c3, c3 = c2 + 1 := ⟨_, rfl⟩
  rw [← hc3] at q4 d2 d4
  clear hv1 mc1 mc2 e1 e2 e3 e4 hc1 hc2 hc3
  have HM := hidf hm
  obtain ⟨s1, hs1⟩ : ∃ x, x = I * 2 ^ L := ⟨_, rfl⟩
  obtain ⟨s2, hs2⟩ : ∃ x, x = (I + 1) * 2 ^ L := ⟨_, rfl⟩
  obtain ⟨P, hP⟩ : ∃ P, P = 2 ^ L := ⟨_, rfl⟩
  rw [← hs1] at q1 q5 hbe hdv hsub d1
  rw [← hs2] at q1 q5 hbe hm2 hsub d2
  rw [← hP] at hw hsub
  have hsub2 : (s2 : Int) - (s1 : Int) = (P : Int) := by omega
  have hend : ¬ (s2 : Int) > 9223372036854775808 := by omega
  have i1 : (L : Int) < 63 := by omega
  have i2 : (L : Int) > 0 := by omega
  clear hs1 hs2 hP hsub hm
  obtain ⟨x2, y2, o2, h2, bx2, by2⟩ := ofIs_ex b e
  have H2 := hidf h2
  clear h2
  go_enter Tryd.func5, Tryd.ntmps5
  go_wp2_with fail
  refine (of_any H2.out hb he _ (HT.out.nw (by repeat first | with_reducible exact nwr w | with_reducible refine Fr.alloc ?_ _ | with_reducible refine Fr.drew ?_ | (with_reducible refine Fr.setCell ?_ _ _ (fun h => ?_); rotate_left; focus (simp only at h; omega))))).mono ?_
  rintro e1 w1 ⟨rfl, m1⟩
  have n1 : Nw w w1 := Nw.tr (by repeat first | with_reducible exact nwr w | with_reducible refine Fr.alloc ?_ _ | with_reducible refine Fr.drew ?_ | (with_reducible refine Fr.setCell ?_ _ _ (fun h => ?_); rotate_left; focus (simp only at h; omega))) m1
  have bc1 : w1.heap[w.heap.size]? = some (.cells #[.int .u8 (L : Int), .int .u64 (I : Int)] 24) := (m1.block _ (by first | omega | (simp <;> omega)) (fun f => f)).trans (by (repeat first | with_reducible exact heap_new _ _ | with_reducible exact heap_new _ _ | with_reducible exact heap_next _ _ _ | with_reducible exact heap_third _ _ _ _ | with_reducible refine hp_dr ?_ | (with_reducible refine hp_ne ?_ ?_; focus omega) | (with_reducible refine hp_al ?_ ?_; focus (first | omega | (simp <;> omega))) | with_reducible apply hp_set) <;> rfl)
  have bs1 : w1.heap[w.heap.size + 1]? = some (.cells #[.int .u64 (b : Int), .int .u64 (e : Int)] 26) := (m1.block _ (by first | omega | (simp <;> omega)) (fun f => f)).trans (by (repeat first | with_reducible exact heap_new _ _ | with_reducible exact heap_new _ _ | with_reducible exact heap_next _ _ _ | with_reducible exact heap_third _ _ _ _ | with_reducible refine hp_dr ?_ | (with_reducible refine hp_ne ?_ ?_; focus omega) | (with_reducible refine hp_al ?_ ?_; focus (first | omega | (simp <;> omega))) | with_reducible apply hp_set) <;> rfl)
  clear m1
  have lc1 := heap_lt bc1
  have xc1 := cell2a bc1
  have yc1 := cell2b bc1
  have ls1 := heap_lt bs1
  have xs1 := cell2a bs1
  have ys1 := cell2b bs1
  go_upto_if 39 with fail
  refine gen_world (fun W => W.heap[w.heap.size]? = some (.cells #[.int .u8 (L : Int), .int .u64 (I : Int)] 24) ∧ W.heap[w.heap.size + 1]? = some (.cells #[.int .u64 (b : Int), .int .u64 (e : Int)] 26) ∧ W.heap[w1.heap.size]? = some (.cells #[.int .u8 (x2 : Int), .int .u64 (y2 : Int)] 24) ∧ Nw w W) ⟨by (repeat first | with_reducible exact bc1 | with_reducible exact heap_new _ _ | with_reducible exact heap_next _ _ _ | with_reducible exact heap_third _ _ _ _ | with_reducible refine hp_dr ?_ | (with_reducible refine hp_ne ?_ ?_; focus omega) | (with_reducible refine hp_al ?_ ?_; focus (first | omega | (simp <;> omega))) | with_reducible apply hp_set) <;> rfl, by (repeat first | with_reducible exact bs1 | with_reducible exact heap_new _ _ | with_reducible exact heap_next _ _ _ | with_reducible exact heap_third _ _ _ _ | with_reducible refine hp_dr ?_ | (with_reducible refine hp_ne ?_ ?_; focus omega) | (with_reducible refine hp_al ?_ ?_; focus (first | omega | (simp <;> omega))) | with_reducible apply hp_set) <;> rfl, by (repeat first | with_reducible exact heap_new _ _ | with_reducible exact heap_new _ _ | with_reducible exact heap_next _ _ _ | with_reducible exact heap_third _ _ _ _ | with_reducible refine hp_dr ?_ | (with_reducible refine hp_ne ?_ ?_; focus omega) | (with_reducible refine hp_al ?_ ?_; focus (first | omega | (simp <;> omega))) | with_reducible apply hp_set) <;> rfl, (by repeat first | with_reducible exact n1 | with_reducible refine Fr.alloc ?_ _ | with_reducible refine Fr.drew ?_ | (with_reducible refine Fr.setCell ?_ _ _ (fun h => ?_); rotate_left; focus (simp only at h; omega)))⟩ ?_
  clear bc1 bs1 n1 lc1 ls1 xc1 yc1 xs1 ys1
  rintro w2 ⟨bc2, bs2, bt2, n2⟩
  go_cut [] (fun wx => wx.heap[w.heap.size]? = some (.cells #[.int .u8 (L : Int), .int .u64 (I : Int)] 24) ∧ Nw w wx)
  case first =>
    have hof : o2 = false ∨ (o2 = true ∧ SpanIs x2 y2 b e true) := by
      rcases H2.out with ⟨k1, k2, k3, k4⟩ | ⟨_, _, _, k4⟩
      · exact .inr ⟨k4, .inl ⟨k1, k2, k3, rfl⟩⟩
      · exact .inl k4
    clear H2
    rcases hof with rfl | ⟨rfl, hof⟩
    · go_wp2
      go_meet
      exact ⟨bc2, n2⟩
    · have HO := hidf hof
      clear hof
      have xt2 := cell2a bt2
      have yt2 := cell2b bt2
      go_wp2_with fail
      refine (span_any HO.out bx2 by2 _).mono ?_
      rintro ex w3 ⟨rfl, n3⟩
      have bc3 := (n3.block _ (heap_lt bc2) (fun f => f)).trans bc2
      have bs3 := (n3.block _ (heap_lt bs2) (fun f => f)).trans bs2
      have n4 : Nw w w3 := n2.tr n3
      clear n3 n2 bc2 bs2 bt2 xt2 yt2
      have ls3 := heap_lt bs3
      have xs3 := cell2a bs3
      have ys3 := cell2b bs3
      go_wp2
      go_meet
      exact ⟨by (repeat first | with_reducible exact bc3 | with_reducible exact heap_new _ _ | with_reducible exact heap_next _ _ _ | with_reducible exact heap_third _ _ _ _ | with_reducible refine hp_dr ?_ | (with_reducible refine hp_ne ?_ ?_; focus omega) | (with_reducible refine hp_al ?_ ?_; focus (first | omega | (simp <;> omega))) | with_reducible apply hp_set) <;> rfl, (by repeat first | with_reducible exact n4 | with_reducible refine Fr.alloc ?_ _ | with_reducible refine Fr.drew ?_ | (with_reducible refine Fr.setCell ?_ _ _ (fun h => ?_); rotate_left; focus (simp only at h; omega)))⟩
  case rest =>
    obtain ⟨bc3, n3⟩ := hcut
    obtain ⟨w3, rfl⟩ : ∃ w3, w3 = wc := ⟨wc, rfl⟩
    clear H2 bc2 bs2 bt2 n2
    have lc3 := heap_lt bc3
    have xc3 := cell2a bc3
    have yc3 := cell2b bc3
    go_wp2_with fail
    refine (q1 _).mono ?_
    rintro e4 w4 ⟨rfl, m4⟩
    have n4 : Nw w w4 := Nw.tr (by repeat first | with_reducible exact n3 | with_reducible refine Fr.alloc ?_ _ | with_reducible refine Fr.drew ?_ | (with_reducible refine Fr.setCell ?_ _ _ (fun h => ?_); rotate_left; focus (simp only at h; omega))) m4
    have bc4 : w4.heap[w.heap.size]? = some (.cells #[.int .u8 (L : Int), .int .u64 (I : Int)] 24) := (m4.block _ (by first | omega | (simp <;> omega)) (fun f => f)).trans (by (repeat first | with_reducible exact bc3 | with_reducible exact heap_new _ _ | with_reducible exact heap_next _ _ _ | with_reducible exact heap_third _ _ _ _ | with_reducible refine hp_dr ?_ | (with_reducible refine hp_ne ?_ ?_; focus omega) | (with_reducible refine hp_al ?_ ?_; focus (first | omega | (simp <;> omega))) | with_reducible apply hp_set) <;> rfl)
    clear m4 n3 bc3 lc3 xc3 yc3
    have lc4 := heap_lt bc4
    have xc4 := cell2a bc4
    have yc4 := cell2b bc4
    go_wp2_with fail
    refine (q2 _).mono ?_
    rintro e5 w5 ⟨rfl, m5⟩
    have n5 : Nw w w5 := Nw.tr (by repeat first | with_reducible exact n4 | with_reducible refine Fr.alloc ?_ _ | with_reducible refine Fr.drew ?_ | (with_reducible refine Fr.setCell ?_ _ _ (fun h => ?_); rotate_left; focus (simp only at h; omega))) m5
    have bc5 : w5.heap[w.heap.size]? = some (.cells #[.int .u8 (L : Int), .int .u64 (I : Int)] 24) := (m5.block _ (by first | omega | (simp <;> omega)) (fun f => f)).trans (by (repeat first | with_reducible exact bc4 | with_reducible exact heap_new _ _ | with_reducible exact heap_next _ _ _ | with_reducible exact heap_third _ _ _ _ | with_reducible refine hp_dr ?_ | (with_reducible refine hp_ne ?_ ?_; focus omega) | (with_reducible refine hp_al ?_ ?_; focus (first | omega | (simp <;> omega))) | with_reducible apply hp_set) <;> rfl)
    have ba5 : w5.heap[w4.heap.size]? = some (.cells #[.int .u64 (s1 : Int), .int .u64 (s2 : Int)] 26) := (m5.block _ (by first | omega | (simp <;> omega)) (fun f => f)).trans (by (repeat first | with_reducible exact heap_new _ _ | with_reducible exact heap_new _ _ | with_reducible exact heap_next _ _ _ | with_reducible exact heap_third _ _ _ _ | with_reducible refine hp_dr ?_ | (with_reducible refine hp_ne ?_ ?_; focus omega) | (with_reducible refine hp_al ?_ ?_; focus (first | omega | (simp <;> omega))) | with_reducible apply hp_set) <;> rfl)
    clear m5 n4 bc4 lc4 xc4 yc4
    have lc5 := heap_lt bc5
    have xc5 := cell2a bc5
    have yc5 := cell2b bc5
    have la5 := heap_lt ba5
    have xa5 := cell2a ba5
    have ya5 := cell2b ba5
    go_wp2_with fail
    refine (q3 _).mono ?_
    rintro e6 w6 ⟨rfl, m6⟩
    have n6 : Nw w w6 := Nw.tr (by repeat first | with_reducible exact n5 | with_reducible refine Fr.alloc ?_ _ | with_reducible refine Fr.drew ?_ | (with_reducible refine Fr.setCell ?_ _ _ (fun h => ?_); rotate_left; focus (simp only at h; omega))) m6
    have bc6 : w6.heap[w.heap.size]? = some (.cells #[.int .u8 (L : Int), .int .u64 (I : Int)] 24) := (m6.block _ (by first | omega | (simp <;> omega)) (fun f => f)).trans (by (repeat first | with_reducible exact bc5 | with_reducible exact heap_new _ _ | with_reducible exact heap_next _ _ _ | with_reducible exact heap_third _ _ _ _ | with_reducible refine hp_dr ?_ | (with_reducible refine hp_ne ?_ ?_; focus omega) | (with_reducible refine hp_al ?_ ?_; focus (first | omega | (simp <;> omega))) | with_reducible apply hp_set) <;> rfl)
    have ba6 : w6.heap[w4.heap.size]? = some (.cells #[.int .u64 (s1 : Int), .int .u64 (s2 : Int)] 26) := (m6.block _ (by first | omega | (simp <;> omega)) (fun f => f)).trans (by (repeat first | with_reducible exact ba5 | with_reducible exact heap_new _ _ | with_reducible exact heap_next _ _ _ | with_reducible exact heap_third _ _ _ _ | with_reducible refine hp_dr ?_ | (with_reducible refine hp_ne ?_ ?_; focus omega) | (with_reducible refine hp_al ?_ ?_; focus (first | omega | (simp <;> omega))) | with_reducible apply hp_set) <;> rfl)
    have bp6 : w6.heap[w5.heap.size]? = some (.cells #[.int .u8 (M : Int), .int .u64 (h : Int)] 24) := (m6.block _ (by first | omega | (simp <;> omega)) (fun f => f)).trans (by (repeat first | with_reducible exact heap_new _ _ | with_reducible exact heap_new _ _ | with_reducible exact heap_next _ _ _ | with_reducible exact heap_third _ _ _ _ | with_reducible refine hp_dr ?_ | (with_reducible refine hp_ne ?_ ?_; focus omega) | (with_reducible refine hp_al ?_ ?_; focus (first | omega | (simp <;> omega))) | with_reducible apply hp_set) <;> rfl)
    clear m6 n5 bc5 lc5 xc5 yc5 ba5 la5 xa5 ya5
    have lc6 := heap_lt bc6
    have xc6 := cell2a bc6
    have yc6 := cell2b bc6
    have la6 := heap_lt ba6
    have xa6 := cell2a ba6
    have ya6 := cell2b ba6
    have lp6 := heap_lt bp6
    have xp6 := cell2a bp6
    have yp6 := cell2b bp6
    go_wp2_with fail
    refine (q4 _).mono ?_
    rintro e7 w7 ⟨rfl, m7⟩
    have n7 : Nw w w7 := Nw.tr (by repeat first | with_reducible exact n6 | with_reducible refine Fr.alloc ?_ _ | with_reducible refine Fr.drew ?_ | (with_reducible refine Fr.setCell ?_ _ _ (fun h => ?_); rotate_left; focus (simp only at h; omega))) m7
    have bc7 : w7.heap[w.heap.size]? = some (.cells #[.int .u8 (L : Int), .int .u64 (I : Int)] 24) := (m7.block _ (by first | omega | (simp <;> omega)) (fun f => f)).trans (by (repeat first | with_reducible exact bc6 | with_reducible exact heap_new _ _ | with_reducible exact heap_next _ _ _ | with_reducible exact heap_third _ _ _ _ | with_reducible refine hp_dr ?_ | (with_reducible refine hp_ne ?_ ?_; focus omega) | (with_reducible refine hp_al ?_ ?_; focus (first | omega | (simp <;> omega))) | with_reducible apply hp_set) <;> rfl)
    have ba7 : w7.heap[w4.heap.size]? = some (.cells #[.int .u64 (s1 : Int), .int .u64 (s2 : Int)] 26) := (m7.block _ (by first | omega | (simp <;> omega)) (fun f => f)).trans (by (repeat first | with_reducible exact ba6 | with_reducible exact heap_new _ _ | with_reducible exact heap_next _ _ _ | with_reducible exact heap_third _ _ _ _ | with_reducible refine hp_dr ?_ | (with_reducible refine hp_ne ?_ ?_; focus omega) | (with_reducible refine hp_al ?_ ?_; focus (first | omega | (simp <;> omega))) | with_reducible apply hp_set) <;> rfl)
    have bp7 : w7.heap[w5.heap.size]? = some (.cells #[.int .u8 (M : Int), .int .u64 (h : Int)] 24) := (m7.block _ (by first | omega | (simp <;> omega)) (fun f => f)).trans (by (repeat first | with_reducible exact bp6 | with_reducible exact heap_new _ _ | with_reducible exact heap_next _ _ _ | with_reducible exact heap_third _ _ _ _ | with_reducible refine hp_dr ?_ | (with_reducible refine hp_ne ?_ ?_; focus omega) | (with_reducible refine hp_al ?_ ?_; focus (first | omega | (simp <;> omega))) | with_reducible apply hp_set) <;> rfl)
    have bb7 : w7.heap[w6.heap.size]? = some (.cells #[.int .u8 (L : Int), .int .u64 (j : Int)] 24) := (m7.block _ (by first | omega | (simp <;> omega)) (fun f => f)).trans (by (repeat first | with_reducible exact heap_new _ _ | with_reducible exact heap_new _ _ | with_reducible exact heap_next _ _ _ | with_reducible exact heap_third _ _ _ _ | with_reducible refine hp_dr ?_ | (with_reducible refine hp_ne ?_ ?_; focus omega) | (with_reducible refine hp_al ?_ ?_; focus (first | omega | (simp <;> omega))) | with_reducible apply hp_set) <;> rfl)
    clear m7 n6 bc6 lc6 xc6 yc6 ba6 la6 xa6 ya6 bp6 lp6 xp6 yp6
    have lc7 := heap_lt bc7
    have xc7 := cell2a bc7
    have yc7 := cell2b bc7
    have la7 := heap_lt ba7
    have xa7 := cell2a ba7
    have ya7 := cell2b ba7
    have lp7 := heap_lt bp7
    have xp7 := cell2a bp7
    have yp7 := cell2b bp7
    have lb7 := heap_lt bb7
    have xb7 := cell2a bb7
    have yb7 := cell2b bb7
    go_wp2_with fail
    refine (q5 _ (HT.out.nw (by repeat first | with_reducible exact n7 | with_reducible refine Fr.alloc ?_ _ | with_reducible refine Fr.drew ?_ | (with_reducible refine Fr.setCell ?_ _ _ (fun h => ?_); rotate_left; focus (simp only at h; omega))))).mono ?_
    rintro e8 w8 ⟨rfl, m8⟩
    have n8 : Nw w w8 := Nw.tr (by repeat first | with_reducible exact n7 | with_reducible refine Fr.alloc ?_ _ | with_reducible refine Fr.drew ?_ | (with_reducible refine Fr.setCell ?_ _ _ (fun h => ?_); rotate_left; focus (simp only at h; omega))) m8
    have bc8 : w8.heap[w.heap.size]? = some (.cells #[.int .u8 (L : Int), .int .u64 (I : Int)] 24) := (m8.block _ (by first | omega | (simp <;> omega)) (fun f => f)).trans (by (repeat first | with_reducible exact bc7 | with_reducible exact heap_new _ _ | with_reducible exact heap_next _ _ _ | with_reducible exact heap_third _ _ _ _ | with_reducible refine hp_dr ?_ | (with_reducible refine hp_ne ?_ ?_; focus omega) | (with_reducible refine hp_al ?_ ?_; focus (first | omega | (simp <;> omega))) | with_reducible apply hp_set) <;> rfl)
    have ba8 : w8.heap[w4.heap.size]? = some (.cells #[.int .u64 (s1 : Int), .int .u64 (s2 : Int)] 26) := (m8.block _ (by first | omega | (simp <;> omega)) (fun f => f)).trans (by (repeat first | with_reducible exact ba7 | with_reducible exact heap_new _ _ | with_reducible exact heap_next _ _ _ | with_reducible exact heap_third _ _ _ _ | with_reducible refine hp_dr ?_ | (with_reducible refine hp_ne ?_ ?_; focus omega) | (with_reducible refine hp_al ?_ ?_; focus (first | omega | (simp <;> omega))) | with_reducible apply hp_set) <;> rfl)
    have bp8 : w8.heap[w5.heap.size]? = some (.cells #[.int .u8 (M : Int), .int .u64 (h : Int)] 24) := (m8.block _ (by first | omega | (simp <;> omega)) (fun f => f)).trans (by (repeat first | with_reducible exact bp7 | with_reducible exact heap_new _ _ | with_reducible exact heap_next _ _ _ | with_reducible exact heap_third _ _ _ _ | with_reducible refine hp_dr ?_ | (with_reducible refine hp_ne ?_ ?_; focus omega) | (with_reducible refine hp_al ?_ ?_; focus (first | omega | (simp <;> omega))) | with_reducible apply hp_set) <;> rfl)
    have bb8 : w8.heap[w6.heap.size]? = some (.cells #[.int .u8 (L : Int), .int .u64 (j : Int)] 24) := (m8.block _ (by first | omega | (simp <;> omega)) (fun f => f)).trans (by (repeat first | with_reducible exact bb7 | with_reducible exact heap_new _ _ | with_reducible exact heap_next _ _ _ | with_reducible exact heap_third _ _ _ _ | with_reducible refine hp_dr ?_ | (with_reducible refine hp_ne ?_ ?_; focus omega) | (with_reducible refine hp_al ?_ ?_; focus (first | omega | (simp <;> omega))) | with_reducible apply hp_set) <;> rfl)
    have bl8 : w8.heap[w7.heap.size]? = some (.cells #[.int .u8 (c1 : Int), .int .u64 (c2 : Int)] 24) := (m8.block _ (by first | omega | (simp <;> omega)) (fun f => f)).trans (by (repeat first | with_reducible exact heap_new _ _ | with_reducible exact heap_new _ _ | with_reducible exact heap_next _ _ _ | with_reducible exact heap_third _ _ _ _ | with_reducible refine hp_dr ?_ | (with_reducible refine hp_ne ?_ ?_; focus omega) | (with_reducible refine hp_al ?_ ?_; focus (first | omega | (simp <;> omega))) | with_reducible apply hp_set) <;> rfl)
    have br8 : w8.heap[w7.heap.size + 1]? = some (.cells #[.int .u8 (c1 : Int), .int .u64 (c3 : Int)] 24) := (m8.block _ (by first | omega | (simp <;> omega)) (fun f => f)).trans (by (repeat first | with_reducible exact heap_new _ _ | with_reducible exact heap_new _ _ | with_reducible exact heap_next _ _ _ | with_reducible exact heap_third _ _ _ _ | with_reducible refine hp_dr ?_ | (with_reducible refine hp_ne ?_ ?_; focus omega) | (with_reducible refine hp_al ?_ ?_; focus (first | omega | (simp <;> omega))) | with_reducible apply hp_set) <;> rfl)
    clear m8 n7 bc7 lc7 xc7 yc7 ba7 la7 xa7 ya7 bp7 lp7 xp7 yp7 bb7 lb7 xb7 yb7
    have lc8 := heap_lt bc8
    have xc8 := cell2a bc8
    have yc8 := cell2b bc8
    have la8 := heap_lt ba8
    have xa8 := cell2a ba8
    have ya8 := cell2b ba8
    have lp8 := heap_lt bp8
    have xp8 := cell2a bp8
    have yp8 := cell2b bp8
    have lb8 := heap_lt bb8
    have xb8 := cell2a bb8
    have yb8 := cell2b bb8
    have ll8 := heap_lt bl8
    have xl8 := cell2a bl8
    have yl8 := cell2b bl8
    have lr8 := heap_lt br8
    have xr8 := cell2a br8
    have yr8 := cell2b br8
    clear q1 q2 q3 q4 q5
    go_wp2_with fail
    refine (u1 _).mono ?_
    rintro e9 w9 ⟨rfl, m9⟩
    have n9 : Nw w w9 := Nw.tr (by repeat first | with_reducible exact n8 | with_reducible refine Fr.alloc ?_ _ | with_reducible refine Fr.drew ?_ | (with_reducible refine Fr.setCell ?_ _ _ (fun h => ?_); rotate_left; focus (simp only at h; omega))) m9
    have bc9 : w9.heap[w.heap.size]? = some (.cells #[.int .u8 (L : Int), .int .u64 (I : Int)] 24) := (m9.block _ (by first | omega | (simp <;> omega)) (fun f => f)).trans (by (repeat first | with_reducible exact bc8 | with_reducible exact heap_new _ _ | with_reducible exact heap_next _ _ _ | with_reducible exact heap_third _ _ _ _ | with_reducible refine hp_dr ?_ | (with_reducible refine hp_ne ?_ ?_; focus omega) | (with_reducible refine hp_al ?_ ?_; focus (first | omega | (simp <;> omega))) | with_reducible apply hp_set) <;> rfl)
    have ba9 : w9.heap[w4.heap.size]? = some (.cells #[.int .u64 (s1 : Int), .int .u64 (s2 : Int)] 26) := (m9.block _ (by first | omega | (simp <;> omega)) (fun f => f)).trans (by (repeat first | with_reducible exact ba8 | with_reducible exact heap_new _ _ | with_reducible exact heap_next _ _ _ | with_reducible exact heap_third _ _ _ _ | with_reducible refine hp_dr ?_ | (with_reducible refine hp_ne ?_ ?_; focus omega) | (with_reducible refine hp_al ?_ ?_; focus (first | omega | (simp <;> omega))) | with_reducible apply hp_set) <;> rfl)
    have bp9 : w9.heap[w5.heap.size]? = some (.cells #[.int .u8 (M : Int), .int .u64 (h : Int)] 24) := (m9.block _ (by first | omega | (simp <;> omega)) (fun f => f)).trans (by (repeat first | with_reducible exact bp8 | with_reducible exact heap_new _ _ | with_reducible exact heap_next _ _ _ | with_reducible exact heap_third _ _ _ _ | with_reducible refine hp_dr ?_ | (with_reducible refine hp_ne ?_ ?_; focus omega) | (with_reducible refine hp_al ?_ ?_; focus (first | omega | (simp <;> omega))) | with_reducible apply hp_set) <;> rfl)
    have bb9 : w9.heap[w6.heap.size]? = some (.cells #[.int .u8 (L : Int), .int .u64 (j : Int)] 24) := (m9.block _ (by first | omega | (simp <;> omega)) (fun f => f)).trans (by (repeat first | with_reducible exact bb8 | with_reducible exact heap_new _ _ | with_reducible exact heap_next _ _ _ | with_reducible exact heap_third _ _ _ _ | with_reducible refine hp_dr ?_ | (with_reducible refine hp_ne ?_ ?_; focus omega) | (with_reducible refine hp_al ?_ ?_; focus (first | omega | (simp <;> omega))) | with_reducible apply hp_set) <;> rfl)
    have bl9 : w9.heap[w7.heap.size]? = some (.cells #[.int .u8 (c1 : Int), .int .u64 (c2 : Int)] 24) := (m9.block _ (by first | omega | (simp <;> omega)) (fun f => f)).trans (by (repeat first | with_reducible exact bl8 | with_reducible exact heap_new _ _ | with_reducible exact heap_next _ _ _ | with_reducible exact heap_third _ _ _ _ | with_reducible refine hp_dr ?_ | (with_reducible refine hp_ne ?_ ?_; focus omega) | (with_reducible refine hp_al ?_ ?_; focus (first | omega | (simp <;> omega))) | with_reducible apply hp_set) <;> rfl)
    have br9 : w9.heap[w7.heap.size + 1]? = some (.cells #[.int .u8 (c1 : Int), .int .u64 (c3 : Int)] 24) := (m9.block _ (by first | omega | (simp <;> omega)) (fun f => f)).trans (by (repeat first | with_reducible exact br8 | with_reducible exact heap_new _ _ | with_reducible exact heap_next _ _ _ | with_reducible exact heap_third _ _ _ _ | with_reducible refine hp_dr ?_ | (with_reducible refine hp_ne ?_ ?_; focus omega) | (with_reducible refine hp_al ?_ ?_; focus (first | omega | (simp <;> omega))) | with_reducible apply hp_set) <;> rfl)
    clear m9 n8 bc8 lc8 xc8 yc8 ba8 la8 xa8 ya8 bp8 lp8 xp8 yp8 bb8 lb8 xb8 yb8 bl8 ll8 xl8 yl8 br8 lr8 xr8 yr8
    have lc9 := heap_lt bc9
    have xc9 := cell2a bc9
    have yc9 := cell2b bc9
    have la9 := heap_lt ba9
    have xa9 := cell2a ba9
    have ya9 := cell2b ba9
    have lp9 := heap_lt bp9
    have xp9 := cell2a bp9
    have yp9 := cell2b bp9
    have lb9 := heap_lt bb9
    have xb9 := cell2a bb9
    have yb9 := cell2b bb9
    have ll9 := heap_lt bl9
    have xl9 := cell2a bl9
    have yl9 := cell2b bl9
    have lr9 := heap_lt br9
    have xr9 := cell2a br9
    have yr9 := cell2b br9
    go_wp2_with fail
    refine (u2 _).mono ?_
    rintro e10 w10 ⟨rfl, m10⟩
    have n10 : Nw w w10 := Nw.tr (by repeat first | with_reducible exact n9 | with_reducible refine Fr.alloc ?_ _ | with_reducible refine Fr.drew ?_ | (with_reducible refine Fr.setCell ?_ _ _ (fun h => ?_); rotate_left; focus (simp only at h; omega))) m10
    have bc10 : w10.heap[w.heap.size]? = some (.cells #[.int .u8 (L : Int), .int .u64 (I : Int)] 24) := (m10.block _ (by first | omega | (simp <;> omega)) (fun f => f)).trans (by (repeat first | with_reducible exact bc9 | with_reducible exact heap_new _ _ | with_reducible exact heap_next _ _ _ | with_reducible exact heap_third _ _ _ _ | with_reducible refine hp_dr ?_ | (with_reducible refine hp_ne ?_ ?_; focus omega) | (with_reducible refine hp_al ?_ ?_; focus (first | omega | (simp <;> omega))) | with_reducible apply hp_set) <;> rfl)
    have ba10 : w10.heap[w4.heap.size]? = some (.cells #[.int .u64 (s1 : Int), .int .u64 (s2 : Int)] 26) := (m10.block _ (by first | omega | (simp <;> omega)) (fun f => f)).trans (by (repeat first | with_reducible exact ba9 | with_reducible exact heap_new _ _ | with_reducible exact heap_next _ _ _ | with_reducible exact heap_third _ _ _ _ | with_reducible refine hp_dr ?_ | (with_reducible refine hp_ne ?_ ?_; focus omega) | (with_reducible refine hp_al ?_ ?_; focus (first | omega | (simp <;> omega))) | with_reducible apply hp_set) <;> rfl)
    have bp10 : w10.heap[w5.heap.size]? = some (.cells #[.int .u8 (M : Int), .int .u64 (h : Int)] 24) := (m10.block _ (by first | omega | (simp <;> omega)) (fun f => f)).trans (by (repeat first | with_reducible exact bp9 | with_reducible exact heap_new _ _ | with_reducible exact heap_next _ _ _ | with_reducible exact heap_third _ _ _ _ | with_reducible refine hp_dr ?_ | (with_reducible refine hp_ne ?_ ?_; focus omega) | (with_reducible refine hp_al ?_ ?_; focus (first | omega | (simp <;> omega))) | with_reducible apply hp_set) <;> rfl)
    have bb10 : w10.heap[w6.heap.size]? = some (.cells #[.int .u8 (L : Int), .int .u64 (j : Int)] 24) := (m10.block _ (by first | omega | (simp <;> omega)) (fun f => f)).trans (by (repeat first | with_reducible exact bb9 | with_reducible exact heap_new _ _ | with_reducible exact heap_next _ _ _ | with_reducible exact heap_third _ _ _ _ | with_reducible refine hp_dr ?_ | (with_reducible refine hp_ne ?_ ?_; focus omega) | (with_reducible refine hp_al ?_ ?_; focus (first | omega | (simp <;> omega))) | with_reducible apply hp_set) <;> rfl)
    have bl10 : w10.heap[w7.heap.size]? = some (.cells #[.int .u8 (c1 : Int), .int .u64 (c2 : Int)] 24) := (m10.block _ (by first | omega | (simp <;> omega)) (fun f => f)).trans (by (repeat first | with_reducible exact bl9 | with_reducible exact heap_new _ _ | with_reducible exact heap_next _ _ _ | with_reducible exact heap_third _ _ _ _ | with_reducible refine hp_dr ?_ | (with_reducible refine hp_ne ?_ ?_; focus omega) | (with_reducible refine hp_al ?_ ?_; focus (first | omega | (simp <;> omega))) | with_reducible apply hp_set) <;> rfl)
    have br10 : w10.heap[w7.heap.size + 1]? = some (.cells #[.int .u8 (c1 : Int), .int .u64 (c3 : Int)] 24) := (m10.block _ (by first | omega | (simp <;> omega)) (fun f => f)).trans (by (repeat first | with_reducible exact br9 | with_reducible exact heap_new _ _ | with_reducible exact heap_next _ _ _ | with_reducible exact heap_third _ _ _ _ | with_reducible refine hp_dr ?_ | (with_reducible refine hp_ne ?_ ?_; focus omega) | (with_reducible refine hp_al ?_ ?_; focus (first | omega | (simp <;> omega))) | with_reducible apply hp_set) <;> rfl)
    have bq10 : w10.heap[w9.heap.size]? = some (.cells #[.int .u8 (M : Int), .int .u64 (h : Int)] 24) := (m10.block _ (by first | omega | (simp <;> omega)) (fun f => f)).trans (by (repeat first | with_reducible exact heap_new _ _ | with_reducible exact heap_new _ _ | with_reducible exact heap_next _ _ _ | with_reducible exact heap_third _ _ _ _ | with_reducible refine hp_dr ?_ | (with_reducible refine hp_ne ?_ ?_; focus omega) | (with_reducible refine hp_al ?_ ?_; focus (first | omega | (simp <;> omega))) | with_reducible apply hp_set) <;> rfl)
    clear m10 n9 bc9 lc9 xc9 yc9 ba9 la9 xa9 ya9 bp9 lp9 xp9 yp9 bb9 lb9 xb9 yb9 bl9 ll9 xl9 yl9 br9 lr9 xr9 yr9
    have lc10 := heap_lt bc10
    have xc10 := cell2a bc10
    have yc10 := cell2b bc10
    have la10 := heap_lt ba10
    have xa10 := cell2a ba10
    have ya10 := cell2b ba10
    have lp10 := heap_lt bp10
    have xp10 := cell2a bp10
    have yp10 := cell2b bp10
    have lb10 := heap_lt bb10
    have xb10 := cell2a bb10
    have yb10 := cell2b bb10
    have ll10 := heap_lt bl10
    have xl10 := cell2a bl10
    have yl10 := cell2b bl10
    have lr10 := heap_lt br10
    have xr10 := cell2a br10
    have yr10 := cell2b br10
    have lq10 := heap_lt bq10
    have xq10 := cell2a bq10
    have yq10 := cell2b bq10
    clear u1 u2
    rcases HPAR.out with HP1 | HP1
    all_goals
      have u3 := U3.out
      rw [HP1.out.2, HP1.out.1] at u3
      clear U3 HPAR
    ·
      go_wp2_with fail
      refine (u3 _).mono ?_
      rintro e11 w11 ⟨rfl, m11⟩
      have n11 : Nw w w11 := Nw.tr (by repeat first | with_reducible exact n10 | with_reducible refine Fr.alloc ?_ _ | with_reducible refine Fr.drew ?_ | (with_reducible refine Fr.setCell ?_ _ _ (fun h => ?_); rotate_left; focus (simp only at h; omega))) m11
      have bc11 : w11.heap[w.heap.size]? = some (.cells #[.int .u8 (L : Int), .int .u64 (I : Int)] 24) := (m11.block _ (by first | omega | (simp <;> omega)) (fun f => f)).trans (by (repeat first | with_reducible exact bc10 | with_reducible exact heap_new _ _ | with_reducible exact heap_next _ _ _ | with_reducible exact heap_third _ _ _ _ | with_reducible refine hp_dr ?_ | (with_reducible refine hp_ne ?_ ?_; focus omega) | (with_reducible refine hp_al ?_ ?_; focus (first | omega | (simp <;> omega))) | with_reducible apply hp_set) <;> rfl)
      have ba11 : w11.heap[w4.heap.size]? = some (.cells #[.int .u64 (s1 : Int), .int .u64 (s2 : Int)] 26) := (m11.block _ (by first | omega | (simp <;> omega)) (fun f => f)).trans (by (repeat first | with_reducible exact ba10 | with_reducible exact heap_new _ _ | with_reducible exact heap_next _ _ _ | with_reducible exact heap_third _ _ _ _ | with_reducible refine hp_dr ?_ | (with_reducible refine hp_ne ?_ ?_; focus omega) | (with_reducible refine hp_al ?_ ?_; focus (first | omega | (simp <;> omega))) | with_reducible apply hp_set) <;> rfl)
      have bp11 : w11.heap[w5.heap.size]? = some (.cells #[.int .u8 (M : Int), .int .u64 (h : Int)] 24) := (m11.block _ (by first | omega | (simp <;> omega)) (fun f => f)).trans (by (repeat first | with_reducible exact bp10 | with_reducible exact heap_new _ _ | with_reducible exact heap_next _ _ _ | with_reducible exact heap_third _ _ _ _ | with_reducible refine hp_dr ?_ | (with_reducible refine hp_ne ?_ ?_; focus omega) | (with_reducible refine hp_al ?_ ?_; focus (first | omega | (simp <;> omega))) | with_reducible apply hp_set) <;> rfl)
      have bb11 : w11.heap[w6.heap.size]? = some (.cells #[.int .u8 (L : Int), .int .u64 (j : Int)] 24) := (m11.block _ (by first | omega | (simp <;> omega)) (fun f => f)).trans (by (repeat first | with_reducible exact bb10 | with_reducible exact heap_new _ _ | with_reducible exact heap_next _ _ _ | with_reducible exact heap_third _ _ _ _ | with_reducible refine hp_dr ?_ | (with_reducible refine hp_ne ?_ ?_; focus omega) | (with_reducible refine hp_al ?_ ?_; focus (first | omega | (simp <;> omega))) | with_reducible apply hp_set) <;> rfl)
      have bl11 : w11.heap[w7.heap.size]? = some (.cells #[.int .u8 (c1 : Int), .int .u64 (c2 : Int)] 24) := (m11.block _ (by first | omega | (simp <;> omega)) (fun f => f)).trans (by (repeat first | with_reducible exact bl10 | with_reducible exact heap_new _ _ | with_reducible exact heap_next _ _ _ | with_reducible exact heap_third _ _ _ _ | with_reducible refine hp_dr ?_ | (with_reducible refine hp_ne ?_ ?_; focus omega) | (with_reducible refine hp_al ?_ ?_; focus (first | omega | (simp <;> omega))) | with_reducible apply hp_set) <;> rfl)
      have br11 : w11.heap[w7.heap.size + 1]? = some (.cells #[.int .u8 (c1 : Int), .int .u64 (c3 : Int)] 24) := (m11.block _ (by first | omega | (simp <;> omega)) (fun f => f)).trans (by (repeat first | with_reducible exact br10 | with_reducible exact heap_new _ _ | with_reducible exact heap_next _ _ _ | with_reducible exact heap_third _ _ _ _ | with_reducible refine hp_dr ?_ | (with_reducible refine hp_ne ?_ ?_; focus omega) | (with_reducible refine hp_al ?_ ?_; focus (first | omega | (simp <;> omega))) | with_reducible apply hp_set) <;> rfl)
      have bq11 : w11.heap[w9.heap.size]? = some (.cells #[.int .u8 (M : Int), .int .u64 (h : Int)] 24) := (m11.block _ (by first | omega | (simp <;> omega)) (fun f => f)).trans (by (repeat first | with_reducible exact bq10 | with_reducible exact heap_new _ _ | with_reducible exact heap_next _ _ _ | with_reducible exact heap_third _ _ _ _ | with_reducible refine hp_dr ?_ | (with_reducible refine hp_ne ?_ ?_; focus omega) | (with_reducible refine hp_al ?_ ?_; focus (first | omega | (simp <;> omega))) | with_reducible apply hp_set) <;> rfl)
      have be11 : w11.heap[w10.heap.size]? = some (.cells #[.int .u8 (L : Int), .int .u64 (I : Int)] 24) := (m11.block _ (by first | omega | (simp <;> omega)) (fun f => f)).trans (by (repeat first | with_reducible exact heap_new _ _ | with_reducible exact heap_new _ _ | with_reducible exact heap_next _ _ _ | with_reducible exact heap_third _ _ _ _ | with_reducible refine hp_dr ?_ | (with_reducible refine hp_ne ?_ ?_; focus omega) | (with_reducible refine hp_al ?_ ?_; focus (first | omega | (simp <;> omega))) | with_reducible apply hp_set) <;> rfl)
      clear m11 n10 bc10 lc10 xc10 yc10 ba10 la10 xa10 ya10 bp10 lp10 xp10 yp10 bb10 lb10 xb10 yb10 bl10 ll10 xl10 yl10 br10 lr10 xr10 yr10 bq10 lq10 xq10 yq10
      have lc11 := heap_lt bc11
      have xc11 := cell2a bc11
      have yc11 := cell2b bc11
      have la11 := heap_lt ba11
      have xa11 := cell2a ba11
      have ya11 := cell2b ba11
      have lp11 := heap_lt bp11
      have xp11 := cell2a bp11
      have yp11 := cell2b bp11
      have lb11 := heap_lt bb11
      have xb11 := cell2a bb11
      have yb11 := cell2b bb11
      have ll11 := heap_lt bl11
      have xl11 := cell2a bl11
      have yl11 := cell2b bl11
      have lr11 := heap_lt br11
      have xr11 := cell2a br11
      have yr11 := cell2b br11
      have lq11 := heap_lt bq11
      have xq11 := cell2a bq11
      have yq11 := cell2b bq11
      have le11 := heap_lt be11
      have xe11 := cell2a be11
      have ye11 := cell2b be11
      go_wp2_with fail
      refine (d1 _).mono ?_
      rintro e12 w12 ⟨rfl, m12⟩
      have n12 : Nw w w12 := Nw.tr (by repeat first | with_reducible exact n11 | with_reducible refine Fr.alloc ?_ _ | with_reducible refine Fr.drew ?_ | (with_reducible refine Fr.setCell ?_ _ _ (fun h => ?_); rotate_left; focus (simp only at h; omega))) m12
      have bc12 : w12.heap[w.heap.size]? = some (.cells #[.int .u8 (L : Int), .int .u64 (I : Int)] 24) := (m12.block _ (by first | omega | (simp <;> omega)) (fun f => f)).trans (by (repeat first | with_reducible exact bc11 | with_reducible exact heap_new _ _ | with_reducible exact heap_next _ _ _ | with_reducible exact heap_third _ _ _ _ | with_reducible refine hp_dr ?_ | (with_reducible refine hp_ne ?_ ?_; focus omega) | (with_reducible refine hp_al ?_ ?_; focus (first | omega | (simp <;> omega))) | with_reducible apply hp_set) <;> rfl)
      have ba12 : w12.heap[w4.heap.size]? = some (.cells #[.int .u64 (s1 : Int), .int .u64 (s2 : Int)] 26) := (m12.block _ (by first | omega | (simp <;> omega)) (fun f => f)).trans (by (repeat first | with_reducible exact ba11 | with_reducible exact heap_new _ _ | with_reducible exact heap_next _ _ _ | with_reducible exact heap_third _ _ _ _ | with_reducible refine hp_dr ?_ | (with_reducible refine hp_ne ?_ ?_; focus omega) | (with_reducible refine hp_al ?_ ?_; focus (first | omega | (simp <;> omega))) | with_reducible apply hp_set) <;> rfl)
      have bl12 : w12.heap[w7.heap.size]? = some (.cells #[.int .u8 (c1 : Int), .int .u64 (c2 : Int)] 24) := (m12.block _ (by first | omega | (simp <;> omega)) (fun f => f)).trans (by (repeat first | with_reducible exact bl11 | with_reducible exact heap_new _ _ | with_reducible exact heap_next _ _ _ | with_reducible exact heap_third _ _ _ _ | with_reducible refine hp_dr ?_ | (with_reducible refine hp_ne ?_ ?_; focus omega) | (with_reducible refine hp_al ?_ ?_; focus (first | omega | (simp <;> omega))) | with_reducible apply hp_set) <;> rfl)
      have br12 : w12.heap[w7.heap.size + 1]? = some (.cells #[.int .u8 (c1 : Int), .int .u64 (c3 : Int)] 24) := (m12.block _ (by first | omega | (simp <;> omega)) (fun f => f)).trans (by (repeat first | with_reducible exact br11 | with_reducible exact heap_new _ _ | with_reducible exact heap_next _ _ _ | with_reducible exact heap_third _ _ _ _ | with_reducible refine hp_dr ?_ | (with_reducible refine hp_ne ?_ ?_; focus omega) | (with_reducible refine hp_al ?_ ?_; focus (first | omega | (simp <;> omega))) | with_reducible apply hp_set) <;> rfl)
      clear m12 n11 bc11 lc11 xc11 yc11 ba11 la11 xa11 ya11 bp11 lp11 xp11 yp11 bb11 lb11 xb11 yb11 bl11 ll11 xl11 yl11 br11 lr11 xr11 yr11 bq11 lq11 xq11 yq11 be11 le11 xe11 ye11
      have lc12 := heap_lt bc12
      have xc12 := cell2a bc12
      have yc12 := cell2b bc12
      have la12 := heap_lt ba12
      have xa12 := cell2a ba12
      have ya12 := cell2b ba12
      have ll12 := heap_lt bl12
      have xl12 := cell2a bl12
      have yl12 := cell2b bl12
      have lr12 := heap_lt br12
      have xr12 := cell2a br12
      have yr12 := cell2b br12
      go_wp2_with fail
      refine (d2 _).mono ?_
      rintro e13 w13 ⟨rfl, m13⟩
      have n13 : Nw w w13 := Nw.tr (by repeat first | with_reducible exact n12 | with_reducible refine Fr.alloc ?_ _ | with_reducible refine Fr.drew ?_ | (with_reducible refine Fr.setCell ?_ _ _ (fun h => ?_); rotate_left; focus (simp only at h; omega))) m13
      have bc13 : w13.heap[w.heap.size]? = some (.cells #[.int .u8 (L : Int), .int .u64 (I : Int)] 24) := (m13.block _ (by first | omega | (simp <;> omega)) (fun f => f)).trans (by (repeat first | with_reducible exact bc12 | with_reducible exact heap_new _ _ | with_reducible exact heap_next _ _ _ | with_reducible exact heap_third _ _ _ _ | with_reducible refine hp_dr ?_ | (with_reducible refine hp_ne ?_ ?_; focus omega) | (with_reducible refine hp_al ?_ ?_; focus (first | omega | (simp <;> omega))) | with_reducible apply hp_set) <;> rfl)
      have ba13 : w13.heap[w4.heap.size]? = some (.cells #[.int .u64 (s1 : Int), .int .u64 (s2 : Int)] 26) := (m13.block _ (by first | omega | (simp <;> omega)) (fun f => f)).trans (by (repeat first | with_reducible exact ba12 | with_reducible exact heap_new _ _ | with_reducible exact heap_next _ _ _ | with_reducible exact heap_third _ _ _ _ | with_reducible refine hp_dr ?_ | (with_reducible refine hp_ne ?_ ?_; focus omega) | (with_reducible refine hp_al ?_ ?_; focus (first | omega | (simp <;> omega))) | with_reducible apply hp_set) <;> rfl)
      have bl13 : w13.heap[w7.heap.size]? = some (.cells #[.int .u8 (c1 : Int), .int .u64 (c2 : Int)] 24) := (m13.block _ (by first | omega | (simp <;> omega)) (fun f => f)).trans (by (repeat first | with_reducible exact bl12 | with_reducible exact heap_new _ _ | with_reducible exact heap_next _ _ _ | with_reducible exact heap_third _ _ _ _ | with_reducible refine hp_dr ?_ | (with_reducible refine hp_ne ?_ ?_; focus omega) | (with_reducible refine hp_al ?_ ?_; focus (first | omega | (simp <;> omega))) | with_reducible apply hp_set) <;> rfl)
      have br13 : w13.heap[w7.heap.size + 1]? = some (.cells #[.int .u8 (c1 : Int), .int .u64 (c3 : Int)] 24) := (m13.block _ (by first | omega | (simp <;> omega)) (fun f => f)).trans (by (repeat first | with_reducible exact br12 | with_reducible exact heap_new _ _ | with_reducible exact heap_next _ _ _ | with_reducible exact heap_third _ _ _ _ | with_reducible refine hp_dr ?_ | (with_reducible refine hp_ne ?_ ?_; focus omega) | (with_reducible refine hp_al ?_ ?_; focus (first | omega | (simp <;> omega))) | with_reducible apply hp_set) <;> rfl)
      have bf13 : w13.heap[w12.heap.size]? = some (.cells #[.int .u64 (s1 : Int), .int .u64 (v : Int)] 26) := (m13.block _ (by first | omega | (simp <;> omega)) (fun f => f)).trans (by (repeat first | with_reducible exact heap_new _ _ | with_reducible exact heap_new _ _ | with_reducible exact heap_next _ _ _ | with_reducible exact heap_third _ _ _ _ | with_reducible refine hp_dr ?_ | (with_reducible refine hp_ne ?_ ?_; focus omega) | (with_reducible refine hp_al ?_ ?_; focus (first | omega | (simp <;> omega))) | with_reducible apply hp_set) <;> rfl)
      clear m13 n12 bc12 lc12 xc12 yc12 ba12 la12 xa12 ya12 bl12 ll12 xl12 yl12 br12 lr12 xr12 yr12
      have lc13 := heap_lt bc13
      have xc13 := cell2a bc13
      have yc13 := cell2b bc13
      have la13 := heap_lt ba13
      have xa13 := cell2a ba13
      have ya13 := cell2b ba13
      have ll13 := heap_lt bl13
      have xl13 := cell2a bl13
      have yl13 := cell2b bl13
      have lr13 := heap_lt br13
      have xr13 := cell2a br13
      have yr13 := cell2b br13
      have lf13 := heap_lt bf13
      have xf13 := cell2a bf13
      have yf13 := cell2b bf13
      go_wp2_with fail
      refine (d3 _).mono ?_
      rintro e14 w14 ⟨rfl, m14⟩
      have n14 : Nw w w14 := Nw.tr (by repeat first | with_reducible exact n13 | with_reducible refine Fr.alloc ?_ _ | with_reducible refine Fr.drew ?_ | (with_reducible refine Fr.setCell ?_ _ _ (fun h => ?_); rotate_left; focus (simp only at h; omega))) m14
      have bc14 : w14.heap[w.heap.size]? = some (.cells #[.int .u8 (L : Int), .int .u64 (I : Int)] 24) := (m14.block _ (by first | omega | (simp <;> omega)) (fun f => f)).trans (by (repeat first | with_reducible exact bc13 | with_reducible exact heap_new _ _ | with_reducible exact heap_next _ _ _ | with_reducible exact heap_third _ _ _ _ | with_reducible refine hp_dr ?_ | (with_reducible refine hp_ne ?_ ?_; focus omega) | (with_reducible refine hp_al ?_ ?_; focus (first | omega | (simp <;> omega))) | with_reducible apply hp_set) <;> rfl)
      have ba14 : w14.heap[w4.heap.size]? = some (.cells #[.int .u64 (s1 : Int), .int .u64 (s2 : Int)] 26) := (m14.block _ (by first | omega | (simp <;> omega)) (fun f => f)).trans (by (repeat first | with_reducible exact ba13 | with_reducible exact heap_new _ _ | with_reducible exact heap_next _ _ _ | with_reducible exact heap_third _ _ _ _ | with_reducible refine hp_dr ?_ | (with_reducible refine hp_ne ?_ ?_; focus omega) | (with_reducible refine hp_al ?_ ?_; focus (first | omega | (simp <;> omega))) | with_reducible apply hp_set) <;> rfl)
      have br14 : w14.heap[w7.heap.size + 1]? = some (.cells #[.int .u8 (c1 : Int), .int .u64 (c3 : Int)] 24) := (m14.block _ (by first | omega | (simp <;> omega)) (fun f => f)).trans (by (repeat first | with_reducible exact br13 | with_reducible exact heap_new _ _ | with_reducible exact heap_next _ _ _ | with_reducible exact heap_third _ _ _ _ | with_reducible refine hp_dr ?_ | (with_reducible refine hp_ne ?_ ?_; focus omega) | (with_reducible refine hp_al ?_ ?_; focus (first | omega | (simp <;> omega))) | with_reducible apply hp_set) <;> rfl)
      have bf14 : w14.heap[w12.heap.size]? = some (.cells #[.int .u64 (s1 : Int), .int .u64 (v : Int)] 26) := (m14.block _ (by first | omega | (simp <;> omega)) (fun f => f)).trans (by (repeat first | with_reducible exact bf13 | with_reducible exact heap_new _ _ | with_reducible exact heap_next _ _ _ | with_reducible exact heap_third _ _ _ _ | with_reducible refine hp_dr ?_ | (with_reducible refine hp_ne ?_ ?_; focus omega) | (with_reducible refine hp_al ?_ ?_; focus (first | omega | (simp <;> omega))) | with_reducible apply hp_set) <;> rfl)
      have bg14 : w14.heap[w13.heap.size]? = some (.cells #[.int .u64 (v : Int), .int .u64 (s2 : Int)] 26) := (m14.block _ (by first | omega | (simp <;> omega)) (fun f => f)).trans (by (repeat first | with_reducible exact heap_new _ _ | with_reducible exact heap_new _ _ | with_reducible exact heap_next _ _ _ | with_reducible exact heap_third _ _ _ _ | with_reducible refine hp_dr ?_ | (with_reducible refine hp_ne ?_ ?_; focus omega) | (with_reducible refine hp_al ?_ ?_; focus (first | omega | (simp <;> omega))) | with_reducible apply hp_set) <;> rfl)
      clear m14 n13 bc13 lc13 xc13 yc13 ba13 la13 xa13 ya13 bl13 ll13 xl13 yl13 br13 lr13 xr13 yr13 bf13 lf13 xf13 yf13
      have lc14 := heap_lt bc14
      have xc14 := cell2a bc14
      have yc14 := cell2b bc14
      have la14 := heap_lt ba14
      have xa14 := cell2a ba14
      have ya14 := cell2b ba14
      have lr14 := heap_lt br14
      have xr14 := cell2a br14
      have yr14 := cell2b br14
      have lf14 := heap_lt bf14
      have xf14 := cell2a bf14
      have yf14 := cell2b bf14
      have lg14 := heap_lt bg14
      have xg14 := cell2a bg14
      have yg14 := cell2b bg14
      go_wp2_with fail
      refine (d4 _).mono ?_
      rintro e15 w15 ⟨rfl, m15⟩
      have n15 : Nw w w15 := Nw.tr (by repeat first | with_reducible exact n14 | with_reducible refine Fr.alloc ?_ _ | with_reducible refine Fr.drew ?_ | (with_reducible refine Fr.setCell ?_ _ _ (fun h => ?_); rotate_left; focus (simp only at h; omega))) m15
      have bc15 : w15.heap[w.heap.size]? = some (.cells #[.int .u8 (L : Int), .int .u64 (I : Int)] 24) := (m15.block _ (by first | omega | (simp <;> omega)) (fun f => f)).trans (by (repeat first | with_reducible exact bc14 | with_reducible exact heap_new _ _ | with_reducible exact heap_next _ _ _ | with_reducible exact heap_third _ _ _ _ | with_reducible refine hp_dr ?_ | (with_reducible refine hp_ne ?_ ?_; focus omega) | (with_reducible refine hp_al ?_ ?_; focus (first | omega | (simp <;> omega))) | with_reducible apply hp_set) <;> rfl)
      have ba15 : w15.heap[w4.heap.size]? = some (.cells #[.int .u64 (s1 : Int), .int .u64 (s2 : Int)] 26) := (m15.block _ (by first | omega | (simp <;> omega)) (fun f => f)).trans (by (repeat first | with_reducible exact ba14 | with_reducible exact heap_new _ _ | with_reducible exact heap_next _ _ _ | with_reducible exact heap_third _ _ _ _ | with_reducible refine hp_dr ?_ | (with_reducible refine hp_ne ?_ ?_; focus omega) | (with_reducible refine hp_al ?_ ?_; focus (first | omega | (simp <;> omega))) | with_reducible apply hp_set) <;> rfl)
      have bf15 : w15.heap[w12.heap.size]? = some (.cells #[.int .u64 (s1 : Int), .int .u64 (v : Int)] 26) := (m15.block _ (by first | omega | (simp <;> omega)) (fun f => f)).trans (by (repeat first | with_reducible exact bf14 | with_reducible exact heap_new _ _ | with_reducible exact heap_next _ _ _ | with_reducible exact heap_third _ _ _ _ | with_reducible refine hp_dr ?_ | (with_reducible refine hp_ne ?_ ?_; focus omega) | (with_reducible refine hp_al ?_ ?_; focus (first | omega | (simp <;> omega))) | with_reducible apply hp_set) <;> rfl)
      have bg15 : w15.heap[w13.heap.size]? = some (.cells #[.int .u64 (v : Int), .int .u64 (s2 : Int)] 26) := (m15.block _ (by first | omega | (simp <;> omega)) (fun f => f)).trans (by (repeat first | with_reducible exact bg14 | with_reducible exact heap_new _ _ | with_reducible exact heap_next _ _ _ | with_reducible exact heap_third _ _ _ _ | with_reducible refine hp_dr ?_ | (with_reducible refine hp_ne ?_ ?_; focus omega) | (with_reducible refine hp_al ?_ ?_; focus (first | omega | (simp <;> omega))) | with_reducible apply hp_set) <;> rfl)
      have bm15 : w15.heap[w14.heap.size]? = some (.cells #[.int .u8 (L : Int), .int .u64 (I : Int)] 24) := (m15.block _ (by first | omega | (simp <;> omega)) (fun f => f)).trans (by (repeat first | with_reducible exact heap_new _ _ | with_reducible exact heap_new _ _ | with_reducible exact heap_next _ _ _ | with_reducible exact heap_third _ _ _ _ | with_reducible refine hp_dr ?_ | (with_reducible refine hp_ne ?_ ?_; focus omega) | (with_reducible refine hp_al ?_ ?_; focus (first | omega | (simp <;> omega))) | with_reducible apply hp_set) <;> rfl)
      clear m15 n14 bc14 lc14 xc14 yc14 ba14 la14 xa14 ya14 br14 lr14 xr14 yr14 bf14 lf14 xf14 yf14 bg14 lg14 xg14 yg14
      have lc15 := heap_lt bc15
      have xc15 := cell2a bc15
      have yc15 := cell2b bc15
      have la15 := heap_lt ba15
      have xa15 := cell2a ba15
      have ya15 := cell2b ba15
      have lf15 := heap_lt bf15
      have xf15 := cell2a bf15
      have yf15 := cell2b bf15
      have lg15 := heap_lt bg15
      have xg15 := cell2a bg15
      have yg15 := cell2b bg15
      have lm15 := heap_lt bm15
      have xm15 := cell2a bm15
      have ym15 := cell2b bm15
      go_wp2_with fail
      refine (alive_any _ (HT.out.nw (by repeat first | with_reducible exact n15 | with_reducible refine Fr.alloc ?_ _ | with_reducible refine Fr.drew ?_ | (with_reducible refine Fr.setCell ?_ _ _ (fun h => ?_); rotate_left; focus (simp only at h; omega))))).mono ?_
      rintro e16 w16 ⟨rfl, m16⟩
      have n16 : Nw w w16 := Nw.tr (by repeat first | with_reducible exact n15 | with_reducible refine Fr.alloc ?_ _ | with_reducible refine Fr.drew ?_ | (with_reducible refine Fr.setCell ?_ _ _ (fun h => ?_); rotate_left; focus (simp only at h; omega))) m16
      clear m16 n15 bc15 lc15 xc15 yc15 ba15 la15 xa15 ya15 bf15 lf15 xf15 yf15 bg15 lg15 xg15 yg15 bm15 lm15 xm15 ym15
      go_wp2
      go_ret
      exact ⟨rfl, n16⟩
    ·
      go_wp2_with fail
      refine (u3 _).mono ?_
      rintro e11 w11 ⟨rfl, m11⟩
      have n11 : Nw w w11 := Nw.tr (by repeat first | with_reducible exact n10 | with_reducible refine Fr.alloc ?_ _ | with_reducible refine Fr.drew ?_ | (with_reducible refine Fr.setCell ?_ _ _ (fun h => ?_); rotate_left; focus (simp only at h; omega))) m11
      have bc11 : w11.heap[w.heap.size]? = some (.cells #[.int .u8 (L : Int), .int .u64 (I : Int)] 24) := (m11.block _ (by first | omega | (simp <;> omega)) (fun f => f)).trans (by (repeat first | with_reducible exact bc10 | with_reducible exact heap_new _ _ | with_reducible exact heap_next _ _ _ | with_reducible exact heap_third _ _ _ _ | with_reducible refine hp_dr ?_ | (with_reducible refine hp_ne ?_ ?_; focus omega) | (with_reducible refine hp_al ?_ ?_; focus (first | omega | (simp <;> omega))) | with_reducible apply hp_set) <;> rfl)
      have ba11 : w11.heap[w4.heap.size]? = some (.cells #[.int .u64 (s1 : Int), .int .u64 (s2 : Int)] 26) := (m11.block _ (by first | omega | (simp <;> omega)) (fun f => f)).trans (by (repeat first | with_reducible exact ba10 | with_reducible exact heap_new _ _ | with_reducible exact heap_next _ _ _ | with_reducible exact heap_third _ _ _ _ | with_reducible refine hp_dr ?_ | (with_reducible refine hp_ne ?_ ?_; focus omega) | (with_reducible refine hp_al ?_ ?_; focus (first | omega | (simp <;> omega))) | with_reducible apply hp_set) <;> rfl)
      have bp11 : w11.heap[w5.heap.size]? = some (.cells #[.int .u8 (M : Int), .int .u64 (h : Int)] 24) := (m11.block _ (by first | omega | (simp <;> omega)) (fun f => f)).trans (by (repeat first | with_reducible exact bp10 | with_reducible exact heap_new _ _ | with_reducible exact heap_next _ _ _ | with_reducible exact heap_third _ _ _ _ | with_reducible refine hp_dr ?_ | (with_reducible refine hp_ne ?_ ?_; focus omega) | (with_reducible refine hp_al ?_ ?_; focus (first | omega | (simp <;> omega))) | with_reducible apply hp_set) <;> rfl)
      have bb11 : w11.heap[w6.heap.size]? = some (.cells #[.int .u8 (L : Int), .int .u64 (j : Int)] 24) := (m11.block _ (by first | omega | (simp <;> omega)) (fun f => f)).trans (by (repeat first | with_reducible exact bb10 | with_reducible exact heap_new _ _ | with_reducible exact heap_next _ _ _ | with_reducible exact heap_third _ _ _ _ | with_reducible refine hp_dr ?_ | (with_reducible refine hp_ne ?_ ?_; focus omega) | (with_reducible refine hp_al ?_ ?_; focus (first | omega | (simp <;> omega))) | with_reducible apply hp_set) <;> rfl)
      have bl11 : w11.heap[w7.heap.size]? = some (.cells #[.int .u8 (c1 : Int), .int .u64 (c2 : Int)] 24) := (m11.block _ (by first | omega | (simp <;> omega)) (fun f => f)).trans (by (repeat first | with_reducible exact bl10 | with_reducible exact heap_new _ _ | with_reducible exact heap_next _ _ _ | with_reducible exact heap_third _ _ _ _ | with_reducible refine hp_dr ?_ | (with_reducible refine hp_ne ?_ ?_; focus omega) | (with_reducible refine hp_al ?_ ?_; focus (first | omega | (simp <;> omega))) | with_reducible apply hp_set) <;> rfl)
      have br11 : w11.heap[w7.heap.size + 1]? = some (.cells #[.int .u8 (c1 : Int), .int .u64 (c3 : Int)] 24) := (m11.block _ (by first | omega | (simp <;> omega)) (fun f => f)).trans (by (repeat first | with_reducible exact br10 | with_reducible exact heap_new _ _ | with_reducible exact heap_next _ _ _ | with_reducible exact heap_third _ _ _ _ | with_reducible refine hp_dr ?_ | (with_reducible refine hp_ne ?_ ?_; focus omega) | (with_reducible refine hp_al ?_ ?_; focus (first | omega | (simp <;> omega))) | with_reducible apply hp_set) <;> rfl)
      have bq11 : w11.heap[w9.heap.size]? = some (.cells #[.int .u8 (M : Int), .int .u64 (h : Int)] 24) := (m11.block _ (by first | omega | (simp <;> omega)) (fun f => f)).trans (by (repeat first | with_reducible exact bq10 | with_reducible exact heap_new _ _ | with_reducible exact heap_next _ _ _ | with_reducible exact heap_third _ _ _ _ | with_reducible refine hp_dr ?_ | (with_reducible refine hp_ne ?_ ?_; focus omega) | (with_reducible refine hp_al ?_ ?_; focus (first | omega | (simp <;> omega))) | with_reducible apply hp_set) <;> rfl)
      have be11 : w11.heap[w10.heap.size]? = some (.cells #[.int .u8 (L : Int), .int .u64 (I : Int)] 24) := (m11.block _ (by first | omega | (simp <;> omega)) (fun f => f)).trans (by (repeat first | with_reducible exact heap_new _ _ | with_reducible exact heap_new _ _ | with_reducible exact heap_next _ _ _ | with_reducible exact heap_third _ _ _ _ | with_reducible refine hp_dr ?_ | (with_reducible refine hp_ne ?_ ?_; focus omega) | (with_reducible refine hp_al ?_ ?_; focus (first | omega | (simp <;> omega))) | with_reducible apply hp_set) <;> rfl)
      clear m11 n10 bc10 lc10 xc10 yc10 ba10 la10 xa10 ya10 bp10 lp10 xp10 yp10 bb10 lb10 xb10 yb10 bl10 ll10 xl10 yl10 br10 lr10 xr10 yr10 bq10 lq10 xq10 yq10
      have lc11 := heap_lt bc11
      have xc11 := cell2a bc11
      have yc11 := cell2b bc11
      have la11 := heap_lt ba11
      have xa11 := cell2a ba11
      have ya11 := cell2b ba11
      have lp11 := heap_lt bp11
      have xp11 := cell2a bp11
      have yp11 := cell2b bp11
      have lb11 := heap_lt bb11
      have xb11 := cell2a bb11
      have yb11 := cell2b bb11
      have ll11 := heap_lt bl11
      have xl11 := cell2a bl11
      have yl11 := cell2b bl11
      have lr11 := heap_lt br11
      have xr11 := cell2a br11
      have yr11 := cell2b br11
      have lq11 := heap_lt bq11
      have xq11 := cell2a bq11
      have yq11 := cell2b bq11
      have le11 := heap_lt be11
      have xe11 := cell2a be11
      have ye11 := cell2b be11
      go_wp2_with fail
      refine (d1 _).mono ?_
      rintro e12 w12 ⟨rfl, m12⟩
      have n12 : Nw w w12 := Nw.tr (by repeat first | with_reducible exact n11 | with_reducible refine Fr.alloc ?_ _ | with_reducible refine Fr.drew ?_ | (with_reducible refine Fr.setCell ?_ _ _ (fun h => ?_); rotate_left; focus (simp only at h; omega))) m12
      have bc12 : w12.heap[w.heap.size]? = some (.cells #[.int .u8 (L : Int), .int .u64 (I : Int)] 24) := (m12.block _ (by first | omega | (simp <;> omega)) (fun f => f)).trans (by (repeat first | with_reducible exact bc11 | with_reducible exact heap_new _ _ | with_reducible exact heap_next _ _ _ | with_reducible exact heap_third _ _ _ _ | with_reducible refine hp_dr ?_ | (with_reducible refine hp_ne ?_ ?_; focus omega) | (with_reducible refine hp_al ?_ ?_; focus (first | omega | (simp <;> omega))) | with_reducible apply hp_set) <;> rfl)
      have ba12 : w12.heap[w4.heap.size]? = some (.cells #[.int .u64 (s1 : Int), .int .u64 (s2 : Int)] 26) := (m12.block _ (by first | omega | (simp <;> omega)) (fun f => f)).trans (by (repeat first | with_reducible exact ba11 | with_reducible exact heap_new _ _ | with_reducible exact heap_next _ _ _ | with_reducible exact heap_third _ _ _ _ | with_reducible refine hp_dr ?_ | (with_reducible refine hp_ne ?_ ?_; focus omega) | (with_reducible refine hp_al ?_ ?_; focus (first | omega | (simp <;> omega))) | with_reducible apply hp_set) <;> rfl)
      have bl12 : w12.heap[w7.heap.size]? = some (.cells #[.int .u8 (c1 : Int), .int .u64 (c2 : Int)] 24) := (m12.block _ (by first | omega | (simp <;> omega)) (fun f => f)).trans (by (repeat first | with_reducible exact bl11 | with_reducible exact heap_new _ _ | with_reducible exact heap_next _ _ _ | with_reducible exact heap_third _ _ _ _ | with_reducible refine hp_dr ?_ | (with_reducible refine hp_ne ?_ ?_; focus omega) | (with_reducible refine hp_al ?_ ?_; focus (first | omega | (simp <;> omega))) | with_reducible apply hp_set) <;> rfl)
      have br12 : w12.heap[w7.heap.size + 1]? = some (.cells #[.int .u8 (c1 : Int), .int .u64 (c3 : Int)] 24) := (m12.block _ (by first | omega | (simp <;> omega)) (fun f => f)).trans (by (repeat first | with_reducible exact br11 | with_reducible exact heap_new _ _ | with_reducible exact heap_next _ _ _ | with_reducible exact heap_third _ _ _ _ | with_reducible refine hp_dr ?_ | (with_reducible refine hp_ne ?_ ?_; focus omega) | (with_reducible refine hp_al ?_ ?_; focus (first | omega | (simp <;> omega))) | with_reducible apply hp_set) <;> rfl)
      clear m12 n11 bc11 lc11 xc11 yc11 ba11 la11 xa11 ya11 bp11 lp11 xp11 yp11 bb11 lb11 xb11 yb11 bl11 ll11 xl11 yl11 br11 lr11 xr11 yr11 bq11 lq11 xq11 yq11 be11 le11 xe11 ye11
      have lc12 := heap_lt bc12
      have xc12 := cell2a bc12
      have yc12 := cell2b bc12
      have la12 := heap_lt ba12
      have xa12 := cell2a ba12
      have ya12 := cell2b ba12
      have ll12 := heap_lt bl12
      have xl12 := cell2a bl12
      have yl12 := cell2b bl12
      have lr12 := heap_lt br12
      have xr12 := cell2a br12
      have yr12 := cell2b br12
      go_wp2_with fail
      refine (d2 _).mono ?_
      rintro e13 w13 ⟨rfl, m13⟩
      have n13 : Nw w w13 := Nw.tr (by repeat first | with_reducible exact n12 | with_reducible refine Fr.alloc ?_ _ | with_reducible refine Fr.drew ?_ | (with_reducible refine Fr.setCell ?_ _ _ (fun h => ?_); rotate_left; focus (simp only at h; omega))) m13
      have bc13 : w13.heap[w.heap.size]? = some (.cells #[.int .u8 (L : Int), .int .u64 (I : Int)] 24) := (m13.block _ (by first | omega | (simp <;> omega)) (fun f => f)).trans (by (repeat first | with_reducible exact bc12 | with_reducible exact heap_new _ _ | with_reducible exact heap_next _ _ _ | with_reducible exact heap_third _ _ _ _ | with_reducible refine hp_dr ?_ | (with_reducible refine hp_ne ?_ ?_; focus omega) | (with_reducible refine hp_al ?_ ?_; focus (first | omega | (simp <;> omega))) | with_reducible apply hp_set) <;> rfl)
      have ba13 : w13.heap[w4.heap.size]? = some (.cells #[.int .u64 (s1 : Int), .int .u64 (s2 : Int)] 26) := (m13.block _ (by first | omega | (simp <;> omega)) (fun f => f)).trans (by (repeat first | with_reducible exact ba12 | with_reducible exact heap_new _ _ | with_reducible exact heap_next _ _ _ | with_reducible exact heap_third _ _ _ _ | with_reducible refine hp_dr ?_ | (with_reducible refine hp_ne ?_ ?_; focus omega) | (with_reducible refine hp_al ?_ ?_; focus (first | omega | (simp <;> omega))) | with_reducible apply hp_set) <;> rfl)
      have bl13 : w13.heap[w7.heap.size]? = some (.cells #[.int .u8 (c1 : Int), .int .u64 (c2 : Int)] 24) := (m13.block _ (by first | omega | (simp <;> omega)) (fun f => f)).trans (by (repeat first | with_reducible exact bl12 | with_reducible exact heap_new _ _ | with_reducible exact heap_next _ _ _ | with_reducible exact heap_third _ _ _ _ | with_reducible refine hp_dr ?_ | (with_reducible refine hp_ne ?_ ?_; focus omega) | (with_reducible refine hp_al ?_ ?_; focus (first | omega | (simp <;> omega))) | with_reducible apply hp_set) <;> rfl)
      have br13 : w13.heap[w7.heap.size + 1]? = some (.cells #[.int .u8 (c1 : Int), .int .u64 (c3 : Int)] 24) := (m13.block _ (by first | omega | (simp <;> omega)) (fun f => f)).trans (by (repeat first | with_reducible exact br12 | with_reducible exact heap_new _ _ | with_reducible exact heap_next _ _ _ | with_reducible exact heap_third _ _ _ _ | with_reducible refine hp_dr ?_ | (with_reducible refine hp_ne ?_ ?_; focus omega) | (with_reducible refine hp_al ?_ ?_; focus (first | omega | (simp <;> omega))) | with_reducible apply hp_set) <;> rfl)
      have bf13 : w13.heap[w12.heap.size]? = some (.cells #[.int .u64 (s1 : Int), .int .u64 (v : Int)] 26) := (m13.block _ (by first | omega | (simp <;> omega)) (fun f => f)).trans (by (repeat first | with_reducible exact heap_new _ _ | with_reducible exact heap_new _ _ | with_reducible exact heap_next _ _ _ | with_reducible exact heap_third _ _ _ _ | with_reducible refine hp_dr ?_ | (with_reducible refine hp_ne ?_ ?_; focus omega) | (with_reducible refine hp_al ?_ ?_; focus (first | omega | (simp <;> omega))) | with_reducible apply hp_set) <;> rfl)
      clear m13 n12 bc12 lc12 xc12 yc12 ba12 la12 xa12 ya12 bl12 ll12 xl12 yl12 br12 lr12 xr12 yr12
      have lc13 := heap_lt bc13
      have xc13 := cell2a bc13
      have yc13 := cell2b bc13
      have la13 := heap_lt ba13
      have xa13 := cell2a ba13
      have ya13 := cell2b ba13
      have ll13 := heap_lt bl13
      have xl13 := cell2a bl13
      have yl13 := cell2b bl13
      have lr13 := heap_lt br13
      have xr13 := cell2a br13
      have yr13 := cell2b br13
      have lf13 := heap_lt bf13
      have xf13 := cell2a bf13
      have yf13 := cell2b bf13
      go_wp2_with fail
      refine (d3 _).mono ?_
      rintro e14 w14 ⟨rfl, m14⟩
      have n14 : Nw w w14 := Nw.tr (by repeat first | with_reducible exact n13 | with_reducible refine Fr.alloc ?_ _ | with_reducible refine Fr.drew ?_ | (with_reducible refine Fr.setCell ?_ _ _ (fun h => ?_); rotate_left; focus (simp only at h; omega))) m14
      have bc14 : w14.heap[w.heap.size]? = some (.cells #[.int .u8 (L : Int), .int .u64 (I : Int)] 24) := (m14.block _ (by first | omega | (simp <;> omega)) (fun f => f)).trans (by (repeat first | with_reducible exact bc13 | with_reducible exact heap_new _ _ | with_reducible exact heap_next _ _ _ | with_reducible exact heap_third _ _ _ _ | with_reducible refine hp_dr ?_ | (with_reducible refine hp_ne ?_ ?_; focus omega) | (with_reducible refine hp_al ?_ ?_; focus (first | omega | (simp <;> omega))) | with_reducible apply hp_set) <;> rfl)
      have ba14 : w14.heap[w4.heap.size]? = some (.cells #[.int .u64 (s1 : Int), .int .u64 (s2 : Int)] 26) := (m14.block _ (by first | omega | (simp <;> omega)) (fun f => f)).trans (by (repeat first | with_reducible exact ba13 | with_reducible exact heap_new _ _ | with_reducible exact heap_next _ _ _ | with_reducible exact heap_third _ _ _ _ | with_reducible refine hp_dr ?_ | (with_reducible refine hp_ne ?_ ?_; focus omega) | (with_reducible refine hp_al ?_ ?_; focus (first | omega | (simp <;> omega))) | with_reducible apply hp_set) <;> rfl)
      have br14 : w14.heap[w7.heap.size + 1]? = some (.cells #[.int .u8 (c1 : Int), .int .u64 (c3 : Int)] 24) := (m14.block _ (by first | omega | (simp <;> omega)) (fun f => f)).trans (by (repeat first | with_reducible exact br13 | with_reducible exact heap_new _ _ | with_reducible exact heap_next _ _ _ | with_reducible exact heap_third _ _ _ _ | with_reducible refine hp_dr ?_ | (with_reducible refine hp_ne ?_ ?_; focus omega) | (with_reducible refine hp_al ?_ ?_; focus (first | omega | (simp <;> omega))) | with_reducible apply hp_set) <;> rfl)
      have bf14 : w14.heap[w12.heap.size]? = some (.cells #[.int .u64 (s1 : Int), .int .u64 (v : Int)] 26) := (m14.block _ (by first | omega | (simp <;> omega)) (fun f => f)).trans (by (repeat first | with_reducible exact bf13 | with_reducible exact heap_new _ _ | with_reducible exact heap_next _ _ _ | with_reducible exact heap_third _ _ _ _ | with_reducible refine hp_dr ?_ | (with_reducible refine hp_ne ?_ ?_; focus omega) | (with_reducible refine hp_al ?_ ?_; focus (first | omega | (simp <;> omega))) | with_reducible apply hp_set) <;> rfl)
      have bg14 : w14.heap[w13.heap.size]? = some (.cells #[.int .u64 (v : Int), .int .u64 (s2 : Int)] 26) := (m14.block _ (by first | omega | (simp <;> omega)) (fun f => f)).trans (by (repeat first | with_reducible exact heap_new _ _ | with_reducible exact heap_new _ _ | with_reducible exact heap_next _ _ _ | with_reducible exact heap_third _ _ _ _ | with_reducible refine hp_dr ?_ | (with_reducible refine hp_ne ?_ ?_; focus omega) | (with_reducible refine hp_al ?_ ?_; focus (first | omega | (simp <;> omega))) | with_reducible apply hp_set) <;> rfl)
      clear m14 n13 bc13 lc13 xc13 yc13 ba13 la13 xa13 ya13 bl13 ll13 xl13 yl13 br13 lr13 xr13 yr13 bf13 lf13 xf13 yf13
      have lc14 := heap_lt bc14
      have xc14 := cell2a bc14
      have yc14 := cell2b bc14
      have la14 := heap_lt ba14
      have xa14 := cell2a ba14
      have ya14 := cell2b ba14
      have lr14 := heap_lt br14
      have xr14 := cell2a br14
      have yr14 := cell2b br14
      have lf14 := heap_lt bf14
      have xf14 := cell2a bf14
      have yf14 := cell2b bf14
      have lg14 := heap_lt bg14
      have xg14 := cell2a bg14
      have yg14 := cell2b bg14
      go_wp2_with fail
      refine (d4 _).mono ?_
      rintro e15 w15 ⟨rfl, m15⟩
      have n15 : Nw w w15 := Nw.tr (by repeat first | with_reducible exact n14 | with_reducible refine Fr.alloc ?_ _ | with_reducible refine Fr.drew ?_ | (with_reducible refine Fr.setCell ?_ _ _ (fun h => ?_); rotate_left; focus (simp only at h; omega))) m15
      have bc15 : w15.heap[w.heap.size]? = some (.cells #[.int .u8 (L : Int), .int .u64 (I : Int)] 24) := (m15.block _ (by first | omega | (simp <;> omega)) (fun f => f)).trans (by (repeat first | with_reducible exact bc14 | with_reducible exact heap_new _ _ | with_reducible exact heap_next _ _ _ | with_reducible exact heap_third _ _ _ _ | with_reducible refine hp_dr ?_ | (with_reducible refine hp_ne ?_ ?_; focus omega) | (with_reducible refine hp_al ?_ ?_; focus (first | omega | (simp <;> omega))) | with_reducible apply hp_set) <;> rfl)
      have ba15 : w15.heap[w4.heap.size]? = some (.cells #[.int .u64 (s1 : Int), .int .u64 (s2 : Int)] 26) := (m15.block _ (by first | omega | (simp <;> omega)) (fun f => f)).trans (by (repeat first | with_reducible exact ba14 | with_reducible exact heap_new _ _ | with_reducible exact heap_next _ _ _ | with_reducible exact heap_third _ _ _ _ | with_reducible refine hp_dr ?_ | (with_reducible refine hp_ne ?_ ?_; focus omega) | (with_reducible refine hp_al ?_ ?_; focus (first | omega | (simp <;> omega))) | with_reducible apply hp_set) <;> rfl)
      have bf15 : w15.heap[w12.heap.size]? = some (.cells #[.int .u64 (s1 : Int), .int .u64 (v : Int)] 26) := (m15.block _ (by first | omega | (simp <;> omega)) (fun f => f)).trans (by (repeat first | with_reducible exact bf14 | with_reducible exact heap_new _ _ | with_reducible exact heap_next _ _ _ | with_reducible exact heap_third _ _ _ _ | with_reducible refine hp_dr ?_ | (with_reducible refine hp_ne ?_ ?_; focus omega) | (with_reducible refine hp_al ?_ ?_; focus (first | omega | (simp <;> omega))) | with_reducible apply hp_set) <;> rfl)
      have bg15 : w15.heap[w13.heap.size]? = some (.cells #[.int .u64 (v : Int), .int .u64 (s2 : Int)] 26) := (m15.block _ (by first | omega | (simp <;> omega)) (fun f => f)).trans (by (repeat first | with_reducible exact bg14 | with_reducible exact heap_new _ _ | with_reducible exact heap_next _ _ _ | with_reducible exact heap_third _ _ _ _ | with_reducible refine hp_dr ?_ | (with_reducible refine hp_ne ?_ ?_; focus omega) | (with_reducible refine hp_al ?_ ?_; focus (first | omega | (simp <;> omega))) | with_reducible apply hp_set) <;> rfl)
      have bm15 : w15.heap[w14.heap.size]? = some (.cells #[.int .u8 (L : Int), .int .u64 (I : Int)] 24) := (m15.block _ (by first | omega | (simp <;> omega)) (fun f => f)).trans (by (repeat first | with_reducible exact heap_new _ _ | with_reducible exact heap_new _ _ | with_reducible exact heap_next _ _ _ | with_reducible exact heap_third _ _ _ _ | with_reducible refine hp_dr ?_ | (with_reducible refine hp_ne ?_ ?_; focus omega) | (with_reducible refine hp_al ?_ ?_; focus (first | omega | (simp <;> omega))) | with_reducible apply hp_set) <;> rfl)
      clear m15 n14 bc14 lc14 xc14 yc14 ba14 la14 xa14 ya14 br14 lr14 xr14 yr14 bf14 lf14 xf14 yf14 bg14 lg14 xg14 yg14
      have lc15 := heap_lt bc15
      have xc15 := cell2a bc15
      have yc15 := cell2b bc15
      have la15 := heap_lt ba15
      have xa15 := cell2a ba15
      have ya15 := cell2b ba15
      have lf15 := heap_lt bf15
      have xf15 := cell2a bf15
      have yf15 := cell2b bf15
      have lg15 := heap_lt bg15
      have xg15 := cell2a bg15
      have yg15 := cell2b bg15
      have lm15 := heap_lt bm15
      have xm15 := cell2a bm15
      have ym15 := cell2b bm15
      go_wp2_with fail
      refine (alive_any _ (HT.out.nw (by repeat first | with_reducible exact n15 | with_reducible refine Fr.alloc ?_ _ | with_reducible refine Fr.drew ?_ | (with_reducible refine Fr.setCell ?_ _ _ (fun h => ?_); rotate_left; focus (simp only at h; omega))))).mono ?_
      rintro e16 w16 ⟨rfl, m16⟩
      have n16 : Nw w w16 := Nw.tr (by repeat first | with_reducible exact n15 | with_reducible refine Fr.alloc ?_ _ | with_reducible refine Fr.drew ?_ | (with_reducible refine Fr.setCell ?_ _ _ (fun h => ?_); rotate_left; focus (simp only at h; omega))) m16
      clear m16 n15 bc15 lc15 xc15 yc15 ba15 la15 xa15 ya15 bf15 lf15 xf15 yf15 bg15 lg15 xg15 yg15 bm15 lm15 xm15 ym15
      go_wp2
      go_ret
      exact ⟨rfl, n16⟩

set_option maxRecDepth 100000 in
set_option maxHeartbeats 8000000 in
theorem family_top (L I b e : Nat) (hm : may L I) (h0 : 0 < L) (h63 : ¬ L < 63) (hL : L ≤ 255) (hI : I < 18446744073709551616) (hb : b < 18446744073709551616) (he : e < 18446744073709551616) (w : World) (hT : TabAt w) :
    Calls Tryd.prog 5 #[cd L I, sp b e] w fun x w' => x = .returned (.bool true) ∧ Nw w w' := by
  have HT : Hid (TabAt w) := hT
  clear hT
  have q1 := fun w => span_yes L I hm w
  have q5 := fun w k => of_yes L I hm w k
  have hm2 := hm.2
  have hbe : I * 2 ^ L ≤ (I + 1) * 2 ^ L := Nat.mul_le_mul_right _ (by omega)
  have hw : IntKind.u64.wrap (2 ^ L) = ((2 ^ L : Nat) : Int) := by rw [← pow_cast, w64]; have := two_le hm.1; have := Nat.two_pow_pos L; omega
  have hdv : ((I * 2 ^ L : Nat) : Int) / 2 ^ L = (I : Int) := by rw [castd, Nat.mul_div_cancel _ (Nat.two_pow_pos L)]
  have hsub : (I + 1) * 2 ^ L = I * 2 ^ L + 2 ^ L := by rw [Nat.add_mul, Nat.one_mul]
  have hIb := may_bd hm
  have hL63 := hm.1
  rw [p63] at hm2 hIb
  have q2 := fun w => parent_no L I (fun k => h63 k.1) hL hI w
  have q3 := fun w => sibling_no L I (fun k => h63 k.1) hL hI w
  have q4 := fun w => children_yes L I hm h0 w
  obtain ⟨mc1, mc2⟩ := may_childf hm h0
  have d1 := fun w => span_yes (L - 1) (2 * I) mc1 w
  have d2 := fun w => span_yes (L - 1) (2 * I + 1) mc2 w
  have d3 := fun w => parent_yes (L - 1) (2 * I) mc1 (by omega) w
  have d4 := fun w => parent_yes (L - 1) (2 * I + 1) mc2 (by omega) w
  have e1 : L - 1 + 1 = L := by omega
  have e2 : 2 * I / 2 = I := by omega
  have e3 : (2 * I + 1) / 2 = I := by omega
  have e4 : 2 * I + 1 + 1 = 2 * (I + 1) := by omega
  rw [e1, e2] at d3
  rw [e1, e3] at d4
  rw [e4, ← half_powf h0] at d2
  rw [← half_powf h0] at d1
  have hv := mc1.2
  rw [p63] at hv
  obtain ⟨v, hv1⟩ : ∃ v, v = (2 * I + 1) * 2 ^ (L - 1) := ⟨_, rfl⟩
  rw [← hv1] at d1 d2 hv
  have hIh := may_half hm h0
  obtain ⟨c1, hc1⟩ : ∃ c1, c1 = L - 1 := ⟨_, rfl⟩
  obtain ⟨c2, hc2⟩ : ∃ c2, c2 = 2 * I := ⟨_, rfl⟩
  rw [← hc1, ← hc2] at q4 d1 d2 d3 d4
  obtain ⟨c3, hc3⟩ : ∃ c3, c3 = c2 + 1 := ⟨_, rfl⟩
  rw [← hc3] at q4 d2 d4
  clear hv1 mc1 mc2 e1 e2 e3 e4 hc1 hc2 hc3
  have HM := hidf hm
  obtain ⟨s1, hs1⟩ : ∃ x, x = I * 2 ^ L := ⟨_, rfl⟩
  obtain ⟨s2, hs2⟩ : ∃ x, x = (I + 1) * 2 ^ L := ⟨_, rfl⟩
  obtain ⟨P, hP⟩ : ∃ P, P = 2 ^ L := ⟨_, rfl⟩
  rw [← hs1] at q1 q5 hbe hdv hsub d1
  rw [← hs2] at q1 q5 hbe hm2 hsub d2
  rw [← hP] at hw hsub
  have hsub2 : (s2 : Int) - (s1 : Int) = (P : Int) := by omega
  have hend : ¬ (s2 : Int) > 9223372036854775808 := by omega
  have i1 : ¬ (L : Int) < 63 := by omega
  have i2 : (L : Int) > 0 := by omega
  clear hs1 hs2 hP hsub hm
  obtain ⟨x2, y2, o2, h2, bx2, by2⟩ := ofIs_ex b e
  have H2 := hidf h2
  clear h2
  go_enter Tryd.func5, Tryd.ntmps5
  go_wp2_with fail
  refine (of_any H2.out hb he _ (HT.out.nw (by repeat first | with_reducible exact nwr w | with_reducible refine Fr.alloc ?_ _ | with_reducible refine Fr.drew ?_ | (with_reducible refine Fr.setCell ?_ _ _ (fun h => ?_); rotate_left; focus (simp only at h; omega))))).mono ?_
  rintro e1 w1 ⟨rfl, m1⟩
  have n1 : Nw w w1 := Nw.tr (by repeat first | with_reducible exact nwr w | with_reducible refine Fr.alloc ?_ _ | with_reducible refine Fr.drew ?_ | (with_reducible refine Fr.setCell ?_ _ _ (fun h => ?_); rotate_left; focus (simp only at h; omega))) m1
  have bc1 : w1.heap[w.heap.size]? = some (.cells #[.int .u8 (L : Int), .int .u64 (I : Int)] 24) := (m1.block _ (by first | omega | (simp <;> omega)) (fun f => f)).trans (by (repeat first | with_reducible exact heap_new _ _ | with_reducible exact heap_new _ _ | with_reducible exact heap_next _ _ _ | with_reducible exact heap_third _ _ _ _ | with_reducible refine hp_dr ?_ | (with_reducible refine hp_ne ?_ ?_; focus omega) | (with_reducible refine hp_al ?_ ?_; focus (first | omega | (simp <;> omega))) | with_reducible apply hp_set) <;> rfl)
  have bs1 : w1.heap[w.heap.size + 1]? = some (.cells #[.int .u64 (b : Int), .int .u64 (e : Int)] 26) := (m1.block _ (by first | omega | (simp <;> omega)) (fun f => f)).trans (by (repeat first | with_reducible exact heap_new _ _ | with_reducible exact heap_new _ _ | with_reducible exact heap_next _ _ _ | with_reducible exact heap_third _ _ _ _ | with_reducible refine hp_dr ?_ | (with_reducible refine hp_ne ?_ ?_; focus omega) | (with_reducible refine hp_al ?_ ?_; focus (first | omega | (simp <;> omega))) | with_reducible apply hp_set) <;> rfl)
  clear m1
  have lc1 := heap_lt bc1
  have xc1 := cell2a bc1
  have yc1 := cell2b bc1
  have ls1 := heap_lt bs1
  have xs1 := cell2a bs1
  have ys1 := cell2b bs1
  go_upto_if 39 with fail
  refine gen_world (fun W => W.heap[w.heap.size]? = some (.cells #[.int .u8 (L : Int), .int .u64 (I : Int)] 24) ∧ W.heap[w.heap.size + 1]? = some (.cells #[.int .u64 (b : Int), .int .u64 (e : Int)] 26) ∧ W.heap[w1.heap.size]? = some (.cells #[.int .u8 (x2 : Int), .int .u64 (y2 : Int)] 24) ∧ Nw w W) ⟨by (repeat first | with_reducible exact bc1 | with_reducible exact heap_new _ _ | with_reducible exact heap_next _ _ _ | with_reducible exact heap_third _ _ _ _ | with_reducible refine hp_dr ?_ | (with_reducible refine hp_ne ?_ ?_; focus omega) | (with_reducible refine hp_al ?_ ?_; focus (first | omega | (simp <;> omega))) | with_reducible apply hp_set) <;> rfl, by (repeat first | with_reducible exact bs1 | with_reducible exact heap_new _ _ | with_reducible exact heap_next _ _ _ | with_reducible exact heap_third _ _ _ _ | with_reducible refine hp_dr ?_ | (with_reducible refine hp_ne ?_ ?_; focus omega) | (with_reducible refine hp_al ?_ ?_; focus (first | omega | (simp <;> omega))) | with_reducible apply hp_set) <;> rfl, by (repeat first | with_reducible exact heap_new _ _ | with_reducible exact heap_new _ _ | with_reducible exact heap_next _ _ _ | with_reducible exact heap_third _ _ _ _ | with_reducible refine hp_dr ?_ | (with_reducible refine hp_ne ?_ ?_; focus omega) | (with_reducible refine hp_al ?_ ?_; focus (first | omega | (simp <;> omega))) | with_reducible apply hp_set) <;> rfl, (by repeat first | with_reducible exact n1 | with_reducible refine Fr.alloc ?_ _ | with_reducible refine Fr.drew ?_ | (with_reducible refine Fr.setCell ?_ _ _ (fun h => ?_); rotate_left; focus (simp only at h; omega)))⟩ ?_
  clear bc1 bs1 n1 lc1 ls1 xc1 yc1 xs1 ys1
  rintro w2 ⟨bc2, bs2, bt2, n2⟩
  go_cut [] (fun wx => wx.heap[w.heap.size]? = some (.cells #[.int .u8 (L : Int), .int .u64 (I : Int)] 24) ∧ Nw w wx)
  case first =>
    have hof : o2 = false ∨ (o2 = true ∧ SpanIs x2 y2 b e true) := by
      rcases H2.out with ⟨k1, k2, k3, k4⟩ | ⟨_, _, _, k4⟩
      · exact .inr ⟨k4, .inl ⟨k1, k2, k3, rfl⟩⟩
      · exact .inl k4
    clear H2
    rcases hof with rfl | ⟨rfl, hof⟩
    · go_wp2
      go_meet
      exact ⟨bc2, n2⟩
    · have HO := hidf hof
      clear hof
      have xt2 := cell2a bt2
      have yt2 := cell2b bt2
      go_wp2_with fail
      refine (span_any HO.out bx2 by2 _).mono ?_
      rintro ex w3 ⟨rfl, n3⟩
      have bc3 := (n3.block _ (heap_lt bc2) (fun f => f)).trans bc2
      have bs3 := (n3.block _ (heap_lt bs2) (fun f => f)).trans bs2
      have n4 : Nw w w3 := n2.tr n3
      clear n3 n2 bc2 bs2 bt2 xt2 yt2
      have ls3 := heap_lt bs3
      have xs3 := cell2a bs3
      have ys3 := cell2b bs3
      go_wp2
      go_meet
      exact ⟨by (repeat first | with_reducible exact bc3 | with_reducible exact heap_new _ _ | with_reducible exact heap_next _ _ _ | with_reducible exact heap_third _ _ _ _ | with_reducible refine hp_dr ?_ | (with_reducible refine hp_ne ?_ ?_; focus omega) | (with_reducible refine hp_al ?_ ?_; focus (first | omega | (simp <;> omega))) | with_reducible apply hp_set) <;> rfl, (by repeat first | with_reducible exact n4 | with_reducible refine Fr.alloc ?_ _ | with_reducible refine Fr.drew ?_ | (with_reducible refine Fr.setCell ?_ _ _ (fun h => ?_); rotate_left; focus (simp only at h; omega)))⟩
  case rest =>
    obtain ⟨bc3, n3⟩ := hcut
    obtain ⟨w3, rfl⟩ : ∃ w3, w3 = wc := ⟨wc, rfl⟩
    clear H2 bc2 bs2 bt2 n2
    have lc3 := heap_lt bc3
    have xc3 := cell2a bc3
    have yc3 := cell2b bc3
    go_wp2_with fail
    refine (q1 _).mono ?_
    rintro e4 w4 ⟨rfl, m4⟩
    have n4 : Nw w w4 := Nw.tr (by repeat first | with_reducible exact n3 | with_reducible refine Fr.alloc ?_ _ | with_reducible refine Fr.drew ?_ | (with_reducible refine Fr.setCell ?_ _ _ (fun h => ?_); rotate_left; focus (simp only at h; omega))) m4
    have bc4 : w4.heap[w.heap.size]? = some (.cells #[.int .u8 (L : Int), .int .u64 (I : Int)] 24) := (m4.block _ (by first | omega | (simp <;> omega)) (fun f => f)).trans (by (repeat first | with_reducible exact bc3 | with_reducible exact heap_new _ _ | with_reducible exact heap_next _ _ _ | with_reducible exact heap_third _ _ _ _ | with_reducible refine hp_dr ?_ | (with_reducible refine hp_ne ?_ ?_; focus omega) | (with_reducible refine hp_al ?_ ?_; focus (first | omega | (simp <;> omega))) | with_reducible apply hp_set) <;> rfl)
    clear m4 n3 bc3 lc3 xc3 yc3
    have lc4 := heap_lt bc4
    have xc4 := cell2a bc4
    have yc4 := cell2b bc4
    go_wp2_with fail
    refine (q2 _).mono ?_
    rintro e5 w5 ⟨rfl, m5⟩
    have n5 : Nw w w5 := Nw.tr (by repeat first | with_reducible exact n4 | with_reducible refine Fr.alloc ?_ _ | with_reducible refine Fr.drew ?_ | (with_reducible refine Fr.setCell ?_ _ _ (fun h => ?_); rotate_left; focus (simp only at h; omega))) m5
    have bc5 : w5.heap[w.heap.size]? = some (.cells #[.int .u8 (L : Int), .int .u64 (I : Int)] 24) := (m5.block _ (by first | omega | (simp <;> omega)) (fun f => f)).trans (by (repeat first | with_reducible exact bc4 | with_reducible exact heap_new _ _ | with_reducible exact heap_next _ _ _ | with_reducible exact heap_third _ _ _ _ | with_reducible refine hp_dr ?_ | (with_reducible refine hp_ne ?_ ?_; focus omega) | (with_reducible refine hp_al ?_ ?_; focus (first | omega | (simp <;> omega))) | with_reducible apply hp_set) <;> rfl)
    have ba5 : w5.heap[w4.heap.size]? = some (.cells #[.int .u64 (s1 : Int), .int .u64 (s2 : Int)] 26) := (m5.block _ (by first | omega | (simp <;> omega)) (fun f => f)).trans (by (repeat first | with_reducible exact heap_new _ _ | with_reducible exact heap_new _ _ | with_reducible exact heap_next _ _ _ | with_reducible exact heap_third _ _ _ _ | with_reducible refine hp_dr ?_ | (with_reducible refine hp_ne ?_ ?_; focus omega) | (with_reducible refine hp_al ?_ ?_; focus (first | omega | (simp <;> omega))) | with_reducible apply hp_set) <;> rfl)
    clear m5 n4 bc4 lc4 xc4 yc4
    have lc5 := heap_lt bc5
    have xc5 := cell2a bc5
    have yc5 := cell2b bc5
    have la5 := heap_lt ba5
    have xa5 := cell2a ba5
    have ya5 := cell2b ba5
    go_wp2_with fail
    refine (q3 _).mono ?_
    rintro e6 w6 ⟨rfl, m6⟩
    have n6 : Nw w w6 := Nw.tr (by repeat first | with_reducible exact n5 | with_reducible refine Fr.alloc ?_ _ | with_reducible refine Fr.drew ?_ | (with_reducible refine Fr.setCell ?_ _ _ (fun h => ?_); rotate_left; focus (simp only at h; omega))) m6
    have bc6 : w6.heap[w.heap.size]? = some (.cells #[.int .u8 (L : Int), .int .u64 (I : Int)] 24) := (m6.block _ (by first | omega | (simp <;> omega)) (fun f => f)).trans (by (repeat first | with_reducible exact bc5 | with_reducible exact heap_new _ _ | with_reducible exact heap_next _ _ _ | with_reducible exact heap_third _ _ _ _ | with_reducible refine hp_dr ?_ | (with_reducible refine hp_ne ?_ ?_; focus omega) | (with_reducible refine hp_al ?_ ?_; focus (first | omega | (simp <;> omega))) | with_reducible apply hp_set) <;> rfl)
    have ba6 : w6.heap[w4.heap.size]? = some (.cells #[.int .u64 (s1 : Int), .int .u64 (s2 : Int)] 26) := (m6.block _ (by first | omega | (simp <;> omega)) (fun f => f)).trans (by (repeat first | with_reducible exact ba5 | with_reducible exact heap_new _ _ | with_reducible exact heap_next _ _ _ | with_reducible exact heap_third _ _ _ _ | with_reducible refine hp_dr ?_ | (with_reducible refine hp_ne ?_ ?_; focus omega) | (with_reducible refine hp_al ?_ ?_; focus (first | omega | (simp <;> omega))) | with_reducible apply hp_set) <;> rfl)
    have bp6 : w6.heap[w5.heap.size]? = some (.cells #[.int .u8 0, .int .u64 0] 24) := (m6.block _ (by first | omega | (simp <;> omega)) (fun f => f)).trans (by (repeat first | with_reducible exact heap_new _ _ | with_reducible exact heap_new _ _ | with_reducible exact heap_next _ _ _ | with_reducible exact heap_third _ _ _ _ | with_reducible refine hp_dr ?_ | (with_reducible refine hp_ne ?_ ?_; focus omega) | (with_reducible refine hp_al ?_ ?_; focus (first | omega | (simp <;> omega))) | with_reducible apply hp_set) <;> rfl)
    clear m6 n5 bc5 lc5 xc5 yc5 ba5 la5 xa5 ya5
    have lc6 := heap_lt bc6
    have xc6 := cell2a bc6
    have yc6 := cell2b bc6
    have la6 := heap_lt ba6
    have xa6 := cell2a ba6
    have ya6 := cell2b ba6
    have lp6 := heap_lt bp6
    have xp6 := cell2a bp6
    have yp6 := cell2b bp6
    go_wp2_with fail
    refine (q4 _).mono ?_
    rintro e7 w7 ⟨rfl, m7⟩
    have n7 : Nw w w7 := Nw.tr (by repeat first | with_reducible exact n6 | with_reducible refine Fr.alloc ?_ _ | with_reducible refine Fr.drew ?_ | (with_reducible refine Fr.setCell ?_ _ _ (fun h => ?_); rotate_left; focus (simp only at h; omega))) m7
    have bc7 : w7.heap[w.heap.size]? = some (.cells #[.int .u8 (L : Int), .int .u64 (I : Int)] 24) := (m7.block _ (by first | omega | (simp <;> omega)) (fun f => f)).trans (by (repeat first | with_reducible exact bc6 | with_reducible exact heap_new _ _ | with_reducible exact heap_next _ _ _ | with_reducible exact heap_third _ _ _ _ | with_reducible refine hp_dr ?_ | (with_reducible refine hp_ne ?_ ?_; focus omega) | (with_reducible refine hp_al ?_ ?_; focus (first | omega | (simp <;> omega))) | with_reducible apply hp_set) <;> rfl)
    have ba7 : w7.heap[w4.heap.size]? = some (.cells #[.int .u64 (s1 : Int), .int .u64 (s2 : Int)] 26) := (m7.block _ (by first | omega | (simp <;> omega)) (fun f => f)).trans (by (repeat first | with_reducible exact ba6 | with_reducible exact heap_new _ _ | with_reducible exact heap_next _ _ _ | with_reducible exact heap_third _ _ _ _ | with_reducible refine hp_dr ?_ | (with_reducible refine hp_ne ?_ ?_; focus omega) | (with_reducible refine hp_al ?_ ?_; focus (first | omega | (simp <;> omega))) | with_reducible apply hp_set) <;> rfl)
    clear m7 n6 bc6 lc6 xc6 yc6 ba6 la6 xa6 ya6 bp6 lp6 xp6 yp6
    have lc7 := heap_lt bc7
    have xc7 := cell2a bc7
    have yc7 := cell2b bc7
    have la7 := heap_lt ba7
    have xa7 := cell2a ba7
    have ya7 := cell2b ba7
    go_wp2_with fail
    refine (q5 _ (HT.out.nw (by repeat first | with_reducible exact n7 | with_reducible refine Fr.alloc ?_ _ | with_reducible refine Fr.drew ?_ | (with_reducible refine Fr.setCell ?_ _ _ (fun h => ?_); rotate_left; focus (simp only at h; omega))))).mono ?_
    rintro e8 w8 ⟨rfl, m8⟩
    have n8 : Nw w w8 := Nw.tr (by repeat first | with_reducible exact n7 | with_reducible refine Fr.alloc ?_ _ | with_reducible refine Fr.drew ?_ | (with_reducible refine Fr.setCell ?_ _ _ (fun h => ?_); rotate_left; focus (simp only at h; omega))) m8
    have bc8 : w8.heap[w.heap.size]? = some (.cells #[.int .u8 (L : Int), .int .u64 (I : Int)] 24) := (m8.block _ (by first | omega | (simp <;> omega)) (fun f => f)).trans (by (repeat first | with_reducible exact bc7 | with_reducible exact heap_new _ _ | with_reducible exact heap_next _ _ _ | with_reducible exact heap_third _ _ _ _ | with_reducible refine hp_dr ?_ | (with_reducible refine hp_ne ?_ ?_; focus omega) | (with_reducible refine hp_al ?_ ?_; focus (first | omega | (simp <;> omega))) | with_reducible apply hp_set) <;> rfl)
    have ba8 : w8.heap[w4.heap.size]? = some (.cells #[.int .u64 (s1 : Int), .int .u64 (s2 : Int)] 26) := (m8.block _ (by first | omega | (simp <;> omega)) (fun f => f)).trans (by (repeat first | with_reducible exact ba7 | with_reducible exact heap_new _ _ | with_reducible exact heap_next _ _ _ | with_reducible exact heap_third _ _ _ _ | with_reducible refine hp_dr ?_ | (with_reducible refine hp_ne ?_ ?_; focus omega) | (with_reducible refine hp_al ?_ ?_; focus (first | omega | (simp <;> omega))) | with_reducible apply hp_set) <;> rfl)
    have bl8 : w8.heap[w7.heap.size]? = some (.cells #[.int .u8 (c1 : Int), .int .u64 (c2 : Int)] 24) := (m8.block _ (by first | omega | (simp <;> omega)) (fun f => f)).trans (by (repeat first | with_reducible exact heap_new _ _ | with_reducible exact heap_new _ _ | with_reducible exact heap_next _ _ _ | with_reducible exact heap_third _ _ _ _ | with_reducible refine hp_dr ?_ | (with_reducible refine hp_ne ?_ ?_; focus omega) | (with_reducible refine hp_al ?_ ?_; focus (first | omega | (simp <;> omega))) | with_reducible apply hp_set) <;> rfl)
    have br8 : w8.heap[w7.heap.size + 1]? = some (.cells #[.int .u8 (c1 : Int), .int .u64 (c3 : Int)] 24) := (m8.block _ (by first | omega | (simp <;> omega)) (fun f => f)).trans (by (repeat first | with_reducible exact heap_new _ _ | with_reducible exact heap_new _ _ | with_reducible exact heap_next _ _ _ | with_reducible exact heap_third _ _ _ _ | with_reducible refine hp_dr ?_ | (with_reducible refine hp_ne ?_ ?_; focus omega) | (with_reducible refine hp_al ?_ ?_; focus (first | omega | (simp <;> omega))) | with_reducible apply hp_set) <;> rfl)
    clear m8 n7 bc7 lc7 xc7 yc7 ba7 la7 xa7 ya7
    have lc8 := heap_lt bc8
    have xc8 := cell2a bc8
    have yc8 := cell2b bc8
    have la8 := heap_lt ba8
    have xa8 := cell2a ba8
    have ya8 := cell2b ba8
    have ll8 := heap_lt bl8
    have xl8 := cell2a bl8
    have yl8 := cell2b bl8
    have lr8 := heap_lt br8
    have xr8 := cell2a br8
    have yr8 := cell2b br8
    clear q1 q2 q3 q4 q5
    go_wp2_with fail
    refine (d1 _).mono ?_
    rintro e9 w9 ⟨rfl, m9⟩
    have n9 : Nw w w9 := Nw.tr (by repeat first | with_reducible exact n8 | with_reducible refine Fr.alloc ?_ _ | with_reducible refine Fr.drew ?_ | (with_reducible refine Fr.setCell ?_ _ _ (fun h => ?_); rotate_left; focus (simp only at h; omega))) m9
    have bc9 : w9.heap[w.heap.size]? = some (.cells #[.int .u8 (L : Int), .int .u64 (I : Int)] 24) := (m9.block _ (by first | omega | (simp <;> omega)) (fun f => f)).trans (by (repeat first | with_reducible exact bc8 | with_reducible exact heap_new _ _ | with_reducible exact heap_next _ _ _ | with_reducible exact heap_third _ _ _ _ | with_reducible refine hp_dr ?_ | (with_reducible refine hp_ne ?_ ?_; focus omega) | (with_reducible refine hp_al ?_ ?_; focus (first | omega | (simp <;> omega))) | with_reducible apply hp_set) <;> rfl)
    have ba9 : w9.heap[w4.heap.size]? = some (.cells #[.int .u64 (s1 : Int), .int .u64 (s2 : Int)] 26) := (m9.block _ (by first | omega | (simp <;> omega)) (fun f => f)).trans (by (repeat first | with_reducible exact ba8 | with_reducible exact heap_new _ _ | with_reducible exact heap_next _ _ _ | with_reducible exact heap_third _ _ _ _ | with_reducible refine hp_dr ?_ | (with_reducible refine hp_ne ?_ ?_; focus omega) | (with_reducible refine hp_al ?_ ?_; focus (first | omega | (simp <;> omega))) | with_reducible apply hp_set) <;> rfl)
    have bl9 : w9.heap[w7.heap.size]? = some (.cells #[.int .u8 (c1 : Int), .int .u64 (c2 : Int)] 24) := (m9.block _ (by first | omega | (simp <;> omega)) (fun f => f)).trans (by (repeat first | with_reducible exact bl8 | with_reducible exact heap_new _ _ | with_reducible exact heap_next _ _ _ | with_reducible exact heap_third _ _ _ _ | with_reducible refine hp_dr ?_ | (with_reducible refine hp_ne ?_ ?_; focus omega) | (with_reducible refine hp_al ?_ ?_; focus (first | omega | (simp <;> omega))) | with_reducible apply hp_set) <;> rfl)
    have br9 : w9.heap[w7.heap.size + 1]? = some (.cells #[.int .u8 (c1 : Int), .int .u64 (c3 : Int)] 24) := (m9.block _ (by first | omega | (simp <;> omega)) (fun f => f)).trans (by (repeat first | with_reducible exact br8 | with_reducible exact heap_new _ _ | with_reducible exact heap_next _ _ _ | with_reducible exact heap_third _ _ _ _ | with_reducible refine hp_dr ?_ | (with_reducible refine hp_ne ?_ ?_; focus omega) | (with_reducible refine hp_al ?_ ?_; focus (first | omega | (simp <;> omega))) | with_reducible apply hp_set) <;> rfl)
    clear m9 n8 bc8 lc8 xc8 yc8 ba8 la8 xa8 ya8 bl8 ll8 xl8 yl8 br8 lr8 xr8 yr8
    have lc9 := heap_lt bc9
    have xc9 := cell2a bc9
    have yc9 := cell2b bc9
    have la9 := heap_lt ba9
    have xa9 := cell2a ba9
    have ya9 := cell2b ba9
    have ll9 := heap_lt bl9
    have xl9 := cell2a bl9
    have yl9 := cell2b bl9
    have lr9 := heap_lt br9
    have xr9 := cell2a br9
    have yr9 := cell2b br9
    go_wp2_with fail
    refine (d2 _).mono ?_
    rintro e10 w10 ⟨rfl, m10⟩
    have n10 : Nw w w10 := Nw.tr (by repeat first | with_reducible exact n9 | with_reducible refine Fr.alloc ?_ _ | with_reducible refine Fr.drew ?_ | (with_reducible refine Fr.setCell ?_ _ _ (fun h => ?_); rotate_left; focus (simp only at h; omega))) m10
    have bc10 : w10.heap[w.heap.size]? = some (.cells #[.int .u8 (L : Int), .int .u64 (I : Int)] 24) := (m10.block _ (by first | omega | (simp <;> omega)) (fun f => f)).trans (by (repeat first | with_reducible exact bc9 | with_reducible exact heap_new _ _ | with_reducible exact heap_next _ _ _ | with_reducible exact heap_third _ _ _ _ | with_reducible refine hp_dr ?_ | (with_reducible refine hp_ne ?_ ?_; focus omega) | (with_reducible refine hp_al ?_ ?_; focus (first | omega | (simp <;> omega))) | with_reducible apply hp_set) <;> rfl)
    have ba10 : w10.heap[w4.heap.size]? = some (.cells #[.int .u64 (s1 : Int), .int .u64 (s2 : Int)] 26) := (m10.block _ (by first | omega | (simp <;> omega)) (fun f => f)).trans (by (repeat first | with_reducible exact ba9 | with_reducible exact heap_new _ _ | with_reducible exact heap_next _ _ _ | with_reducible exact heap_third _ _ _ _ | with_reducible refine hp_dr ?_ | (with_reducible refine hp_ne ?_ ?_; focus omega) | (with_reducible refine hp_al ?_ ?_; focus (first | omega | (simp <;> omega))) | with_reducible apply hp_set) <;> rfl)
    have bl10 : w10.heap[w7.heap.size]? = some (.cells #[.int .u8 (c1 : Int), .int .u64 (c2 : Int)] 24) := (m10.block _ (by first | omega | (simp <;> omega)) (fun f => f)).trans (by (repeat first | with_reducible exact bl9 | with_reducible exact heap_new _ _ | with_reducible exact heap_next _ _ _ | with_reducible exact heap_third _ _ _ _ | with_reducible refine hp_dr ?_ | (with_reducible refine hp_ne ?_ ?_; focus omega) | (with_reducible refine hp_al ?_ ?_; focus (first | omega | (simp <;> omega))) | with_reducible apply hp_set) <;> rfl)
    have br10 : w10.heap[w7.heap.size + 1]? = some (.cells #[.int .u8 (c1 : Int), .int .u64 (c3 : Int)] 24) := (m10.block _ (by first | omega | (simp <;> omega)) (fun f => f)).trans (by (repeat first | with_reducible exact br9 | with_reducible exact heap_new _ _ | with_reducible exact heap_next _ _ _ | with_reducible exact heap_third _ _ _ _ | with_reducible refine hp_dr ?_ | (with_reducible refine hp_ne ?_ ?_; focus omega) | (with_reducible refine hp_al ?_ ?_; focus (first | omega | (simp <;> omega))) | with_reducible apply hp_set) <;> rfl)
    have bf10 : w10.heap[w9.heap.size]? = some (.cells #[.int .u64 (s1 : Int), .int .u64 (v : Int)] 26) := (m10.block _ (by first | omega | (simp <;> omega)) (fun f => f)).trans (by (repeat first | with_reducible exact heap_new _ _ | with_reducible exact heap_new _ _ | with_reducible exact heap_next _ _ _ | with_reducible exact heap_third _ _ _ _ | with_reducible refine hp_dr ?_ | (with_reducible refine hp_ne ?_ ?_; focus omega) | (with_reducible refine hp_al ?_ ?_; focus (first | omega | (simp <;> omega))) | with_reducible apply hp_set) <;> rfl)
    clear m10 n9 bc9 lc9 xc9 yc9 ba9 la9 xa9 ya9 bl9 ll9 xl9 yl9 br9 lr9 xr9 yr9
    have lc10 := heap_lt bc10
    have xc10 := cell2a bc10
    have yc10 := cell2b bc10
    have la10 := heap_lt ba10
    have xa10 := cell2a ba10
    have ya10 := cell2b ba10
    have ll10 := heap_lt bl10
    have xl10 := cell2a bl10
    have yl10 := cell2b bl10
    have lr10 := heap_lt br10
    have xr10 := cell2a br10
    have yr10 := cell2b br10
    have lf10 := heap_lt bf10
    have xf10 := cell2a bf10
    have yf10 := cell2b bf10
    go_wp2_with fail
    refine (d3 _).mono ?_
    rintro e11 w11 ⟨rfl, m11⟩
    have n11 : Nw w w11 := Nw.tr (by repeat first | with_reducible exact n10 | with_reducible refine Fr.alloc ?_ _ | with_reducible refine Fr.drew ?_ | (with_reducible refine Fr.setCell ?_ _ _ (fun h => ?_); rotate_left; focus (simp only at h; omega))) m11
    have bc11 : w11.heap[w.heap.size]? = some (.cells #[.int .u8 (L : Int), .int .u64 (I : Int)] 24) := (m11.block _ (by first | omega | (simp <;> omega)) (fun f => f)).trans (by (repeat first | with_reducible exact bc10 | with_reducible exact heap_new _ _ | with_reducible exact heap_next _ _ _ | with_reducible exact heap_third _ _ _ _ | with_reducible refine hp_dr ?_ | (with_reducible refine hp_ne ?_ ?_; focus omega) | (with_reducible refine hp_al ?_ ?_; focus (first | omega | (simp <;> omega))) | with_reducible apply hp_set) <;> rfl)
    have ba11 : w11.heap[w4.heap.size]? = some (.cells #[.int .u64 (s1 : Int), .int .u64 (s2 : Int)] 26) := (m11.block _ (by first | omega | (simp <;> omega)) (fun f => f)).trans (by (repeat first | with_reducible exact ba10 | with_reducible exact heap_new _ _ | with_reducible exact heap_next _ _ _ | with_reducible exact heap_third _ _ _ _ | with_reducible refine hp_dr ?_ | (with_reducible refine hp_ne ?_ ?_; focus omega) | (with_reducible refine hp_al ?_ ?_; focus (first | omega | (simp <;> omega))) | with_reducible apply hp_set) <;> rfl)
    have br11 : w11.heap[w7.heap.size + 1]? = some (.cells #[.int .u8 (c1 : Int), .int .u64 (c3 : Int)] 24) := (m11.block _ (by first | omega | (simp <;> omega)) (fun f => f)).trans (by (repeat first | with_reducible exact br10 | with_reducible exact heap_new _ _ | with_reducible exact heap_next _ _ _ | with_reducible exact heap_third _ _ _ _ | with_reducible refine hp_dr ?_ | (with_reducible refine hp_ne ?_ ?_; focus omega) | (with_reducible refine hp_al ?_ ?_; focus (first | omega | (simp <;> omega))) | with_reducible apply hp_set) <;> rfl)
    have bf11 : w11.heap[w9.heap.size]? = some (.cells #[.int .u64 (s1 : Int), .int .u64 (v : Int)] 26) := (m11.block _ (by first | omega | (simp <;> omega)) (fun f => f)).trans (by (repeat first | with_reducible exact bf10 | with_reducible exact heap_new _ _ | with_reducible exact heap_next _ _ _ | with_reducible exact heap_third _ _ _ _ | with_reducible refine hp_dr ?_ | (with_reducible refine hp_ne ?_ ?_; focus omega) | (with_reducible refine hp_al ?_ ?_; focus (first | omega | (simp <;> omega))) | with_reducible apply hp_set) <;> rfl)
    have bg11 : w11.heap[w10.heap.size]? = some (.cells #[.int .u64 (v : Int), .int .u64 (s2 : Int)] 26) := (m11.block _ (by first | omega | (simp <;> omega)) (fun f => f)).trans (by (repeat first | with_reducible exact heap_new _ _ | with_reducible exact heap_new _ _ | with_reducible exact heap_next _ _ _ | with_reducible exact heap_third _ _ _ _ | with_reducible refine hp_dr ?_ | (with_reducible refine hp_ne ?_ ?_; focus omega) | (with_reducible refine hp_al ?_ ?_; focus (first | omega | (simp <;> omega))) | with_reducible apply hp_set) <;> rfl)
    clear m11 n10 bc10 lc10 xc10 yc10 ba10 la10 xa10 ya10 bl10 ll10 xl10 yl10 br10 lr10 xr10 yr10 bf10 lf10 xf10 yf10
    have lc11 := heap_lt bc11
    have xc11 := cell2a bc11
    have yc11 := cell2b bc11
    have la11 := heap_lt ba11
    have xa11 := cell2a ba11
    have ya11 := cell2b ba11
    have lr11 := heap_lt br11
    have xr11 := cell2a br11
    have yr11 := cell2b br11
    have lf11 := heap_lt bf11
    have xf11 := cell2a bf11
    have yf11 := cell2b bf11
    have lg11 := heap_lt bg11
    have xg11 := cell2a bg11
    have yg11 := cell2b bg11
    go_wp2_with fail
    refine (d4 _).mono ?_
    rintro e12 w12 ⟨rfl, m12⟩
    have n12 : Nw w w12 := Nw.tr (by repeat first | with_reducible exact n11 | with_reducible refine Fr.alloc ?_ _ | with_reducible refine Fr.drew ?_ | (with_reducible refine Fr.setCell ?_ _ _ (fun h => ?_); rotate_left; focus (simp only at h; omega))) m12
    have bc12 : w12.heap[w.heap.size]? = some (.cells #[.int .u8 (L : Int), .int .u64 (I : Int)] 24) := (m12.block _ (by first | omega | (simp <;> omega)) (fun f => f)).trans (by (repeat first | with_reducible exact bc11 | with_reducible exact heap_new _ _ | with_reducible exact heap_next _ _ _ | with_reducible exact heap_third _ _ _ _ | with_reducible refine hp_dr ?_ | (with_reducible refine hp_ne ?_ ?_; focus omega) | (with_reducible refine hp_al ?_ ?_; focus (first | omega | (simp <;> omega))) | with_reducible apply hp_set) <;> rfl)
    have ba12 : w12.heap[w4.heap.size]? = some (.cells #[.int .u64 (s1 : Int), .int .u64 (s2 : Int)] 26) := (m12.block _ (by first | omega | (simp <;> omega)) (fun f => f)).trans (by (repeat first | with_reducible exact ba11 | with_reducible exact heap_new _ _ | with_reducible exact heap_next _ _ _ | with_reducible exact heap_third _ _ _ _ | with_reducible refine hp_dr ?_ | (with_reducible refine hp_ne ?_ ?_; focus omega) | (with_reducible refine hp_al ?_ ?_; focus (first | omega | (simp <;> omega))) | with_reducible apply hp_set) <;> rfl)
    have bf12 : w12.heap[w9.heap.size]? = some (.cells #[.int .u64 (s1 : Int), .int .u64 (v : Int)] 26) := (m12.block _ (by first | omega | (simp <;> omega)) (fun f => f)).trans (by (repeat first | with_reducible exact bf11 | with_reducible exact heap_new _ _ | with_reducible exact heap_next _ _ _ | with_reducible exact heap_third _ _ _ _ | with_reducible refine hp_dr ?_ | (with_reducible refine hp_ne ?_ ?_; focus omega) | (with_reducible refine hp_al ?_ ?_; focus (first | omega | (simp <;> omega))) | with_reducible apply hp_set) <;> rfl)
    have bg12 : w12.heap[w10.heap.size]? = some (.cells #[.int .u64 (v : Int), .int .u64 (s2 : Int)] 26) := (m12.block _ (by first | omega | (simp <;> omega)) (fun f => f)).trans (by (repeat first | with_reducible exact bg11 | with_reducible exact heap_new _ _ | with_reducible exact heap_next _ _ _ | with_reducible exact heap_third _ _ _ _ | with_reducible refine hp_dr ?_ | (with_reducible refine hp_ne ?_ ?_; focus omega) | (with_reducible refine hp_al ?_ ?_; focus (first | omega | (simp <;> omega))) | with_reducible apply hp_set) <;> rfl)
    have bm12 : w12.heap[w11.heap.size]? = some (.cells #[.int .u8 (L : Int), .int .u64 (I : Int)] 24) := (m12.block _ (by first | omega | (simp <;> omega)) (fun f => f)).trans (by (repeat first | with_reducible exact heap_new _ _ | with_reducible exact heap_new _ _ | with_reducible exact heap_next _ _ _ | with_reducible exact heap_third _ _ _ _ | with_reducible refine hp_dr ?_ | (with_reducible refine hp_ne ?_ ?_; focus omega) | (with_reducible refine hp_al ?_ ?_; focus (first | omega | (simp <;> omega))) | with_reducible apply hp_set) <;> rfl)
    clear m12 n11 bc11 lc11 xc11 yc11 ba11 la11 xa11 ya11 br11 lr11 xr11 yr11 bf11 lf11 xf11 yf11 bg11 lg11 xg11 yg11
    have lc12 := heap_lt bc12
    have xc12 := cell2a bc12
    have yc12 := cell2b bc12
    have la12 := heap_lt ba12
    have xa12 := cell2a ba12
    have ya12 := cell2b ba12
    have lf12 := heap_lt bf12
    have xf12 := cell2a bf12
    have yf12 := cell2b bf12
    have lg12 := heap_lt bg12
    have xg12 := cell2a bg12
    have yg12 := cell2b bg12
    have lm12 := heap_lt bm12
    have xm12 := cell2a bm12
    have ym12 := cell2b bm12
    go_wp2_with fail
    refine (alive_any _ (HT.out.nw (by repeat first | with_reducible exact n12 | with_reducible refine Fr.alloc ?_ _ | with_reducible refine Fr.drew ?_ | (with_reducible refine Fr.setCell ?_ _ _ (fun h => ?_); rotate_left; focus (simp only at h; omega))))).mono ?_
    rintro e13 w13 ⟨rfl, m13⟩
    have n13 : Nw w w13 := Nw.tr (by repeat first | with_reducible exact n12 | with_reducible refine Fr.alloc ?_ _ | with_reducible refine Fr.drew ?_ | (with_reducible refine Fr.setCell ?_ _ _ (fun h => ?_); rotate_left; focus (simp only at h; omega))) m13
    clear m13 n12 bc12 lc12 xc12 yc12 ba12 la12 xa12 ya12 bf12 lf12 xf12 yf12 bg12 lg12 xg12 yg12 bm12 lm12 xm12 ym12
    go_wp2
    go_ret
    exact ⟨rfl, n13⟩

theorem family_any (L I b e : Nat) (hL : L ≤ 255) (hI : I < 18446744073709551616) (hb : b < 18446744073709551616) (he : e < 18446744073709551616) (w : World) (hT : TabAt w) :
    Calls Tryd.prog 5 #[cd L I, sp b e] w fun x w' => x = .returned (.bool true) ∧ Nw w w' := by
  by_cases hm : may L I
  · by_cases h0 : 0 < L
    · by_cases h63 : L < 63
      · exact family_mid L I b e hm h0 h63 hL hI hb he w hT
      · exact family_top L I b e hm h0 h63 hL hI hb he w hT
    · exact family_low L I b e hm h0 (by omega) hL hI hb he w hT
  · exact family_no L I b e hm hL hI hb he w hT
end Go.Proofs.YtibkmcmgolbhhaaDoor
