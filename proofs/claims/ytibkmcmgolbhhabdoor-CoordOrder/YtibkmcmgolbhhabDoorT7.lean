/- CoordOrder. -/
import Derived.Test.YtibkmcmgolbhhabDoorD3
import Derived.Test.YtibkmcmgolbhhabDoorC6
import Derived.Deep.DeepCutAuto
namespace Go.Proofs.YtibkmcmgolbhhabDoor
open Go.RowKit
set_option linter.unusedVariables false
set_option linter.unusedSimpArgs false

theorem hid {p : Prop} (h : p) : Hid p := h
theorem cmp_half {L I : Nat} (h : may L I) (h0 : 0 < L) : cmpT L I (L - 1) (2 * I) = -1 ∧ cmpT (L - 1) (2 * I) (L - 1) (2 * I + 1) = -1 := by
  have hp : 2 ^ L = 2 ^ (L - 1) * 2 := by rw [← Nat.pow_succ]; congr 1; omega
  have e : beg (L - 1) (2 * I) = beg L I := by unfold beg; rw [hp, Nat.mul_comm 2 I, Nat.mul_assoc, Nat.mul_comm 2]
  constructor
  · unfold cmpT
    rw [e, if_neg (by omega), if_neg (by omega), if_pos (by omega)]
  · apply cmpT_lt
    unfold beg
    exact Nat.mul_lt_mul_of_pos_right (by omega) (Nat.two_pow_pos _)
theorem cmp_begin {La Ia Lb Ib : Nat} (h : beg La Ia ≠ beg Lb Ib) : (beg La Ia < beg Lb Ib) ↔ cmpT La Ia Lb Ib < 0 := by
  unfold cmpT
  constructor
  · intro k; rw [if_pos k]; omega
  · intro k
    rcases Nat.lt_or_ge (beg La Ia) (beg Lb Ib) with h1 | h1
    · exact h1
    · rw [if_neg (by omega), if_pos (by omega)] at k
      omega

set_option maxRecDepth 100000 in
set_option maxHeartbeats 8000000 in
theorem order_any (La Ia Lb Ib Lc Ic : Nat) (hLa : La ≤ 255) (hIa : Ia < 18446744073709551616) (hLb : Lb ≤ 255) (hIb : Ib < 18446744073709551616) (hLc : Lc ≤ 255) (hIc : Ic < 18446744073709551616) (w : World) (hT : TabAt w) :
    Calls Tryd.prog 4 #[cd La Ia, cd Lb Ib, cd Lc Ic] w fun x w' => x = .returned (.bool true) ∧ Nw w w' := by
  have HT : Hid (TabAt w) := hT
  clear hT
  have qab := fun w => cmp_any La Ia Lb Ib hLa hIa hLb hIb w
  have qbc := fun w => cmp_any Lb Ib Lc Ic hLb hIb hLc hIc w
  have qac := fun w => cmp_any La Ia Lc Ic hLa hIa hLc hIc w
  have qba := fun w => cmp_any Lb Ib La Ia hLb hIb hLa hIa w
  have hbx := cmpT_bd La Ia Lb Ib
  have hby := cmpT_bd Lb Ib Lc Ic
  have hbz := cmpT_bd La Ia Lc Ic
  have t1 := @cmpT_trans La Ia Lb Ib Lc Ic
  have t2 := @cmpT_trans' La Ia Lb Ib Lc Ic
  have z0 := @cmpT_zero La Ia Lb Ib
  have cb := @cmp_begin La Ia Lb Ib
  rw [cmpT_neg La Ia Lb Ib] at qba
  obtain ⟨x, hx⟩ : ∃ x, x = cmpT La Ia Lb Ib := ⟨_, rfl⟩
  obtain ⟨y, hy⟩ : ∃ y, y = cmpT Lb Ib Lc Ic := ⟨_, rfl⟩
  obtain ⟨z, hz⟩ : ∃ z, z = cmpT La Ia Lc Ic := ⟨_, rfl⟩
  rw [← hx] at qab qba hbx t1 t2 z0 cb
  rw [← hy] at qbc hby t1 t2
  rw [← hz] at qac hbz t1 t2
  have T1 := hid t1
  have T2 := hid t2
  have Z0 := hid z0
  have CB := hid cb
  have QBA := hid qba
  clear hx hy hz t1 t2 z0 cb qba
  obtain ⟨a1, a2, a3, a4, o1, h1, ba1, ba2, ba3, ba4⟩ := chiIs_ex La Ia hLa
  obtain ⟨s1, s2, o2, h2, bs1, bs2⟩ := spanIs_ex La Ia
  obtain ⟨s3, s4, o3, h3, bs3, bs4⟩ := spanIs_ex Lb Ib
  have H1 := hid h1
  have H2 := hid h2
  have H3 := hid h3
  clear h1 h2 h3
  go_enter Tryd.func4, Tryd.ntmps4
  go_wp2_with fail
  refine (qab _).mono ?_
  rintro e1 w1 ⟨rfl, m1⟩
  have n1 : Nw w w1 := Nw.tr (by repeat first | with_reducible exact nwr w | with_reducible refine Fr.alloc ?_ _ | with_reducible refine Fr.drew ?_ | (with_reducible refine Fr.setCell ?_ _ _ (fun h => ?_); rotate_left; focus (simp only at h; omega))) m1
  have ba1 : w1.heap[w.heap.size]? = some (.cells #[.int .u8 (La : Int), .int .u64 (Ia : Int)] 24) := (m1.block _ (by first | omega | (simp <;> omega)) (fun f => f)).trans (by (repeat first | with_reducible exact heap_new _ _ | with_reducible exact heap_new _ _ | with_reducible exact heap_next _ _ _ | with_reducible exact heap_third _ _ _ _ | with_reducible refine hp_dr ?_ | (with_reducible refine hp_ne ?_ ?_; focus omega) | (with_reducible refine hp_al ?_ ?_; focus (first | omega | (simp <;> omega))) | with_reducible apply hp_set) <;> rfl)
  have bb1 : w1.heap[w.heap.size + 1]? = some (.cells #[.int .u8 (Lb : Int), .int .u64 (Ib : Int)] 24) := (m1.block _ (by first | omega | (simp <;> omega)) (fun f => f)).trans (by (repeat first | with_reducible exact heap_new _ _ | with_reducible exact heap_new _ _ | with_reducible exact heap_next _ _ _ | with_reducible exact heap_third _ _ _ _ | with_reducible refine hp_dr ?_ | (with_reducible refine hp_ne ?_ ?_; focus omega) | (with_reducible refine hp_al ?_ ?_; focus (first | omega | (simp <;> omega))) | with_reducible apply hp_set) <;> rfl)
  have bc1 : w1.heap[w.heap.size + 1 + 1]? = some (.cells #[.int .u8 (Lc : Int), .int .u64 (Ic : Int)] 24) := (m1.block _ (by first | omega | (simp <;> omega)) (fun f => f)).trans (by (repeat first | with_reducible exact heap_new _ _ | with_reducible exact heap_new _ _ | with_reducible exact heap_next _ _ _ | with_reducible exact heap_third _ _ _ _ | with_reducible refine hp_dr ?_ | (with_reducible refine hp_ne ?_ ?_; focus omega) | (with_reducible refine hp_al ?_ ?_; focus (first | omega | (simp <;> omega))) | with_reducible apply hp_set) <;> rfl)
  clear m1
  have la1 := heap_lt ba1
  have xa1 := cell2a ba1
  have ya1 := cell2b ba1
  have lb1 := heap_lt bb1
  have xb1 := cell2a bb1
  have yb1 := cell2b bb1
  have lc1 := heap_lt bc1
  have xc1 := cell2a bc1
  have yc1 := cell2b bc1
  go_wp2_with fail
  refine (qbc _).mono ?_
  rintro e2 w2 ⟨rfl, m2⟩
  have n2 : Nw w w2 := Nw.tr (by repeat first | with_reducible exact n1 | with_reducible refine Fr.alloc ?_ _ | with_reducible refine Fr.drew ?_ | (with_reducible refine Fr.setCell ?_ _ _ (fun h => ?_); rotate_left; focus (simp only at h; omega))) m2
  have ba2 : w2.heap[w.heap.size]? = some (.cells #[.int .u8 (La : Int), .int .u64 (Ia : Int)] 24) := (m2.block _ (by first | omega | (simp <;> omega)) (fun f => f)).trans (by (repeat first | with_reducible exact ba1 | with_reducible exact heap_new _ _ | with_reducible exact heap_next _ _ _ | with_reducible exact heap_third _ _ _ _ | with_reducible refine hp_dr ?_ | (with_reducible refine hp_ne ?_ ?_; focus omega) | (with_reducible refine hp_al ?_ ?_; focus (first | omega | (simp <;> omega))) | with_reducible apply hp_set) <;> rfl)
  have bb2 : w2.heap[w.heap.size + 1]? = some (.cells #[.int .u8 (Lb : Int), .int .u64 (Ib : Int)] 24) := (m2.block _ (by first | omega | (simp <;> omega)) (fun f => f)).trans (by (repeat first | with_reducible exact bb1 | with_reducible exact heap_new _ _ | with_reducible exact heap_next _ _ _ | with_reducible exact heap_third _ _ _ _ | with_reducible refine hp_dr ?_ | (with_reducible refine hp_ne ?_ ?_; focus omega) | (with_reducible refine hp_al ?_ ?_; focus (first | omega | (simp <;> omega))) | with_reducible apply hp_set) <;> rfl)
  have bc2 : w2.heap[w.heap.size + 1 + 1]? = some (.cells #[.int .u8 (Lc : Int), .int .u64 (Ic : Int)] 24) := (m2.block _ (by first | omega | (simp <;> omega)) (fun f => f)).trans (by (repeat first | with_reducible exact bc1 | with_reducible exact heap_new _ _ | with_reducible exact heap_next _ _ _ | with_reducible exact heap_third _ _ _ _ | with_reducible refine hp_dr ?_ | (with_reducible refine hp_ne ?_ ?_; focus omega) | (with_reducible refine hp_al ?_ ?_; focus (first | omega | (simp <;> omega))) | with_reducible apply hp_set) <;> rfl)
  clear m2 n1 ba1 la1 xa1 ya1 bb1 lb1 xb1 yb1 bc1 lc1 xc1 yc1
  have la2 := heap_lt ba2
  have xa2 := cell2a ba2
  have ya2 := cell2b ba2
  have lb2 := heap_lt bb2
  have xb2 := cell2a bb2
  have yb2 := cell2b bb2
  have lc2 := heap_lt bc2
  have xc2 := cell2a bc2
  have yc2 := cell2b bc2
  go_wp2_with fail
  refine (qac _).mono ?_
  rintro e3 w3 ⟨rfl, m3⟩
  have n3 : Nw w w3 := Nw.tr (by repeat first | with_reducible exact n2 | with_reducible refine Fr.alloc ?_ _ | with_reducible refine Fr.drew ?_ | (with_reducible refine Fr.setCell ?_ _ _ (fun h => ?_); rotate_left; focus (simp only at h; omega))) m3
  have ba3 : w3.heap[w.heap.size]? = some (.cells #[.int .u8 (La : Int), .int .u64 (Ia : Int)] 24) := (m3.block _ (by first | omega | (simp <;> omega)) (fun f => f)).trans (by (repeat first | with_reducible exact ba2 | with_reducible exact heap_new _ _ | with_reducible exact heap_next _ _ _ | with_reducible exact heap_third _ _ _ _ | with_reducible refine hp_dr ?_ | (with_reducible refine hp_ne ?_ ?_; focus omega) | (with_reducible refine hp_al ?_ ?_; focus (first | omega | (simp <;> omega))) | with_reducible apply hp_set) <;> rfl)
  have bb3 : w3.heap[w.heap.size + 1]? = some (.cells #[.int .u8 (Lb : Int), .int .u64 (Ib : Int)] 24) := (m3.block _ (by first | omega | (simp <;> omega)) (fun f => f)).trans (by (repeat first | with_reducible exact bb2 | with_reducible exact heap_new _ _ | with_reducible exact heap_next _ _ _ | with_reducible exact heap_third _ _ _ _ | with_reducible refine hp_dr ?_ | (with_reducible refine hp_ne ?_ ?_; focus omega) | (with_reducible refine hp_al ?_ ?_; focus (first | omega | (simp <;> omega))) | with_reducible apply hp_set) <;> rfl)
  clear m3 n2 ba2 la2 xa2 ya2 bb2 lb2 xb2 yb2 bc2 lc2 xc2 yc2
  have la3 := heap_lt ba3
  have xa3 := cell2a ba3
  have ya3 := cell2b ba3
  have lb3 := heap_lt bb3
  have xb3 := cell2a bb3
  have yb3 := cell2b bb3
  clear qab qbc qac
  go_upto_region 4 with fail
  go_cut [71] (fun b wx => b = .bool false ∧ wx.heap[w.heap.size]? = some (.cells #[.int .u8 (La : Int), .int .u64 (Ia : Int)] 24) ∧ wx.heap[w.heap.size + 1]? = some (.cells #[.int .u8 (Lb : Int), .int .u64 (Ib : Int)] 24) ∧ Nw w wx)
  case first =>
    have hcs : (x = -1 ∧ y ≤ 0 ∧ ¬ z > 0) ∨ (x = -1 ∧ ¬ y ≤ 0) ∨ (x = 1 ∧ y ≥ 0 ∧ ¬ z < 0) ∨ (x = 1 ∧ ¬ y ≥ 0) ∨ (x = 0 ∧ y = -1 ∧ ¬ z > 0) ∨ (x = 0 ∧ y = 0 ∧ z = 0) ∨ (x = 0 ∧ y = 1 ∧ ¬ z < 0) := by
      have k1 := T1.out
      have k2 := T2.out
      omega
    have hne : x = 0 ∨ (¬ x = 0 ∧ (((La : Int) == (Lb : Int)) = false ∨ (La = Lb ∧ ((Ia : Int) == (Ib : Int)) = false))) := by
      by_cases k : x = 0
      · exact .inl k
      · refine .inr ⟨k, ?_⟩
        have k2 := Z0.out
        by_cases k3 : La = Lb
        · refine .inr ⟨k3, ?_⟩
          have : ¬ Ia = Ib := fun k4 => k (k2.2 ⟨k3, k4⟩)
          simp; omega
        · exact .inl (by simp; omega)
    have heq : x = 0 → La = Lb ∧ Ia = Ib := fun k => Z0.out.1 k
    have HEQ := hid heq
    clear heq T1 T2 Z0 CB H1 H2 H3
    have HBA : Hid (w3.heap[w.heap.size]? = some (.cells #[.int .u8 (La : Int), .int .u64 (Ia : Int)] 24) ∧ w3.heap[w.heap.size + 1]? = some (.cells #[.int .u8 (Lb : Int), .int .u64 (Ib : Int)] 24) ∧ Nw w w3) := ⟨ba3, bb3, n3⟩
    clear ba3 bb3 n3
    rcases hcs with ⟨rfl, hy, hz⟩ | ⟨rfl, hy⟩ | ⟨rfl, hy, hz⟩ | ⟨rfl, hy⟩ | ⟨rfl, rfl, hz⟩ | ⟨rfl, rfl, rfl⟩ | ⟨rfl, rfl, hz⟩
    all_goals
      rcases hne with hne | ⟨_, hne | ⟨rfl, hne⟩⟩
      all_goals first
        | (exfalso; omega)
        | skip
    all_goals try (obtain ⟨rfl, rfl⟩ := HEQ.out rfl)
    all_goals
      have Q := QBA.out
      clear HEQ QBA
      go_wp2_with (go_at_call 9; refine (Q _).mono ?_; rintro ex wx ⟨rfl, nx⟩; have gx : Hid (wx.heap[w.heap.size]? = _ ∧ wx.heap[w.heap.size + 1]? = _ ∧ Nw w wx) := ⟨(nx.block _ (heap_lt HBA.out.1) (fun f => f)).trans HBA.out.1, (nx.block _ (heap_lt HBA.out.2.1) (fun f => f)).trans HBA.out.2.1, HBA.out.2.2.tr nx⟩; have xa4 := cell2a gx.out.1; have ya4 := cell2b gx.out.1; have xb4 := cell2a gx.out.2.1; have yb4 := cell2b gx.out.2.1; have nb4 := gx.out.2.2)
      go_meet
      exact ⟨by first | rfl | (simp; omega), gx.out⟩
  case rest =>
    obtain ⟨rfl, ba4, bb4, n4⟩ := hcut
    obtain ⟨w4, rfl⟩ : ∃ w4, w4 = wc := ⟨wc, rfl⟩
    clear ba3 bb3 n3 la3 lb3 xa3 ya3 xb3 yb3 T1 T2 Z0 QBA
    have la4 := heap_lt ba4
    have xa4 := cell2a ba4
    have ya4 := cell2b ba4
    have lb4 := heap_lt bb4
    have xb4 := cell2a bb4
    have yb4 := cell2b bb4
    go_wp2_with fail
    refine (children_any H1.out hLa hIa _).mono ?_
    rintro e5 w5 ⟨rfl, m5⟩
    have n5 : Nw w w5 := Nw.tr (by repeat first | with_reducible exact n4 | with_reducible refine Fr.alloc ?_ _ | with_reducible refine Fr.drew ?_ | (with_reducible refine Fr.setCell ?_ _ _ (fun h => ?_); rotate_left; focus (simp only at h; omega))) m5
    have ba5 : w5.heap[w.heap.size]? = some (.cells #[.int .u8 (La : Int), .int .u64 (Ia : Int)] 24) := (m5.block _ (by first | omega | (simp <;> omega)) (fun f => f)).trans (by (repeat first | with_reducible exact ba4 | with_reducible exact heap_new _ _ | with_reducible exact heap_next _ _ _ | with_reducible exact heap_third _ _ _ _ | with_reducible refine hp_dr ?_ | (with_reducible refine hp_ne ?_ ?_; focus omega) | (with_reducible refine hp_al ?_ ?_; focus (first | omega | (simp <;> omega))) | with_reducible apply hp_set) <;> rfl)
    have bb5 : w5.heap[w.heap.size + 1]? = some (.cells #[.int .u8 (Lb : Int), .int .u64 (Ib : Int)] 24) := (m5.block _ (by first | omega | (simp <;> omega)) (fun f => f)).trans (by (repeat first | with_reducible exact bb4 | with_reducible exact heap_new _ _ | with_reducible exact heap_next _ _ _ | with_reducible exact heap_third _ _ _ _ | with_reducible refine hp_dr ?_ | (with_reducible refine hp_ne ?_ ?_; focus omega) | (with_reducible refine hp_al ?_ ?_; focus (first | omega | (simp <;> omega))) | with_reducible apply hp_set) <;> rfl)
    clear m5 n4 ba4 la4 xa4 ya4 bb4 lb4 xb4 yb4
    have la5 := heap_lt ba5
    have xa5 := cell2a ba5
    have ya5 := cell2b ba5
    have lb5 := heap_lt bb5
    have xb5 := cell2a bb5
    have yb5 := cell2b bb5
    have hch : o1 = false ∨ (o1 = true ∧ cmpT La Ia a1 a2 = -1 ∧ cmpT a1 a2 a3 a4 = -1) := by
      rcases H1.out with ⟨k, rfl, rfl, rfl, rfl, rfl⟩ | ⟨_, _, _, _, _, k⟩
      · exact .inr ⟨rfl, cmp_half k.2 k.1⟩
      · exact .inl k
    clear H1
    have hsp : o2 = false ∨ (o2 = true ∧ o3 = false) ∨ (o2 = true ∧ o3 = true ∧ s1 = s3) ∨ (o2 = true ∧ o3 = true ∧ ((s1 : Int) == (s3 : Int)) = false ∧ ((s1 < s3 ∧ x < 0) ∨ (¬ s1 < s3 ∧ ¬ x < 0))) := by
      rcases H2.out with ⟨_, k1, _, k3⟩ | ⟨_, _, _, k3⟩
      · rcases H3.out with ⟨_, j1, _, j3⟩ | ⟨_, _, _, j3⟩
        · by_cases e : s1 = s3
          · exact .inr (.inr (.inl ⟨k3, j3, e⟩))
          · have c := CB.out (by unfold beg; rw [← k1, ← j1]; exact e)
            unfold beg at c
            rw [← k1, ← j1] at c
            refine .inr (.inr (.inr ⟨k3, j3, by simp; omega, ?_⟩))
            omega
        · exact .inr (.inl ⟨k3, j3⟩)
      · exact .inl k3
    have HSP := hid hsp
    clear hsp CB
    go_upto_region 7 with fail
    refine gen_world (fun W => W.heap[w.heap.size]? = some (.cells #[.int .u8 (La : Int), .int .u64 (Ia : Int)] 24) ∧ W.heap[w.heap.size + 1]? = some (.cells #[.int .u8 (Lb : Int), .int .u64 (Ib : Int)] 24) ∧ W.heap[w5.heap.size]? = some (.cells #[.int .u8 (a1 : Int), .int .u64 (a2 : Int)] 24) ∧ W.heap[w5.heap.size + 1]? = some (.cells #[.int .u8 (a3 : Int), .int .u64 (a4 : Int)] 24) ∧ Nw w W) ⟨by (repeat first | with_reducible exact ba5 | with_reducible exact heap_new _ _ | with_reducible exact heap_next _ _ _ | with_reducible exact heap_third _ _ _ _ | with_reducible refine hp_dr ?_ | (with_reducible refine hp_ne ?_ ?_; focus omega) | (with_reducible refine hp_al ?_ ?_; focus (first | omega | (simp <;> omega))) | with_reducible apply hp_set) <;> rfl, by (repeat first | with_reducible exact bb5 | with_reducible exact heap_new _ _ | with_reducible exact heap_next _ _ _ | with_reducible exact heap_third _ _ _ _ | with_reducible refine hp_dr ?_ | (with_reducible refine hp_ne ?_ ?_; focus omega) | (with_reducible refine hp_al ?_ ?_; focus (first | omega | (simp <;> omega))) | with_reducible apply hp_set) <;> rfl, by (repeat first | with_reducible exact heap_new _ _ | with_reducible exact heap_new _ _ | with_reducible exact heap_next _ _ _ | with_reducible exact heap_third _ _ _ _ | with_reducible refine hp_dr ?_ | (with_reducible refine hp_ne ?_ ?_; focus omega) | (with_reducible refine hp_al ?_ ?_; focus (first | omega | (simp <;> omega))) | with_reducible apply hp_set) <;> rfl, by (repeat first | with_reducible exact heap_new _ _ | with_reducible exact heap_new _ _ | with_reducible exact heap_next _ _ _ | with_reducible exact heap_third _ _ _ _ | with_reducible refine hp_dr ?_ | (with_reducible refine hp_ne ?_ ?_; focus omega) | (with_reducible refine hp_al ?_ ?_; focus (first | omega | (simp <;> omega))) | with_reducible apply hp_set) <;> rfl, (by repeat first | with_reducible exact n5 | with_reducible refine Fr.alloc ?_ _ | with_reducible refine Fr.drew ?_ | (with_reducible refine Fr.setCell ?_ _ _ (fun h => ?_); rotate_left; focus (simp only at h; omega)))⟩ ?_
    clear ba5 bb5 n5 la5 lb5 xa5 ya5 xb5 yb5
    rintro w6 ⟨ba6, bb6, bl6, br6, n6⟩
    have la6 := heap_lt ba6
    have xa6 := cell2a ba6
    have ya6 := cell2b ba6
    have lb6 := heap_lt bb6
    have ll6 := heap_lt bl6
    have xl6 := cell2a bl6
    have yl6 := cell2b bl6
    have lr6 := heap_lt br6
    have xr6 := cell2a br6
    have yr6 := cell2b br6
    go_cut [90] (fun b wx => b = .bool false ∧ wx.heap[w.heap.size]? = some (.cells #[.int .u8 (La : Int), .int .u64 (Ia : Int)] 24) ∧ wx.heap[w.heap.size + 1]? = some (.cells #[.int .u8 (Lb : Int), .int .u64 (Ib : Int)] 24) ∧ Nw w wx)
    case first =>
      rcases hch with rfl | ⟨rfl, k1, k2⟩
      · go_wp2
        go_meet
        exact ⟨rfl, ba6, bb6, n6⟩
      · have q1 := fun w => cmp_any La Ia a1 a2 hLa hIa ba1 ba2 w
        have q2 := fun w => cmp_any a1 a2 a3 a4 ba1 ba2 ba3 ba4 w
        rw [k1] at q1
        rw [k2] at q2
        clear k1 k2
        go_wp2_with fail
        refine (q1 _).mono ?_
        rintro e7 w7 ⟨rfl, n7⟩
        have ba7 := (n7.block _ la6 (fun f => f)).trans ba6
        have bb7 := (n7.block _ lb6 (fun f => f)).trans bb6
        have bl7 := (n7.block _ ll6 (fun f => f)).trans bl6
        have br7 := (n7.block _ lr6 (fun f => f)).trans br6
        have n8 : Nw w w7 := n6.tr n7
        clear q1 n7 n6 ba6 bb6 bl6 br6 la6 xa6 ya6 lb6 ll6 xl6 yl6 lr6 xr6 yr6
        have xl7 := cell2a bl7
        have yl7 := cell2b bl7
        have xr7 := cell2a br7
        have yr7 := cell2b br7
        go_wp2_with fail
        refine (q2 _).mono ?_
        rintro e8 w8 ⟨rfl, n9⟩
        have ba8 := (n9.block _ (heap_lt ba7) (fun f => f)).trans ba7
        have bb8 := (n9.block _ (heap_lt bb7) (fun f => f)).trans bb7
        have n10 : Nw w w8 := n8.tr n9
        clear q2 n9 n8 ba7 bb7 bl7 br7 xl7 yl7 xr7 yr7
        go_wp2
        go_meet
        exact ⟨rfl, ba8, bb8, n10⟩
    case rest =>
      obtain ⟨rfl, ba9, bb9, n9⟩ := hcut
      obtain ⟨w9, rfl⟩ : ∃ w9, w9 = wc := ⟨wc, rfl⟩
      clear ba6 bb6 bl6 br6 n6 la6 xa6 ya6 lb6 ll6 xl6 yl6 lr6 xr6 yr6 hch
      have la9 := heap_lt ba9
      have xa9 := cell2a ba9
      have ya9 := cell2b ba9
      have lb9 := heap_lt bb9
      have xb9 := cell2a bb9
      have yb9 := cell2b bb9
      go_wp2_with fail
      refine (span_any H2.out hLa hIa _).mono ?_
      rintro e10 w10 ⟨rfl, m10⟩
      have n10 : Nw w w10 := Nw.tr (by repeat first | with_reducible exact n9 | with_reducible refine Fr.alloc ?_ _ | with_reducible refine Fr.drew ?_ | (with_reducible refine Fr.setCell ?_ _ _ (fun h => ?_); rotate_left; focus (simp only at h; omega))) m10
      have bb10 : w10.heap[w.heap.size + 1]? = some (.cells #[.int .u8 (Lb : Int), .int .u64 (Ib : Int)] 24) := (m10.block _ (by first | omega | (simp <;> omega)) (fun f => f)).trans (by (repeat first | with_reducible exact bb9 | with_reducible exact heap_new _ _ | with_reducible exact heap_next _ _ _ | with_reducible exact heap_third _ _ _ _ | with_reducible refine hp_dr ?_ | (with_reducible refine hp_ne ?_ ?_; focus omega) | (with_reducible refine hp_al ?_ ?_; focus (first | omega | (simp <;> omega))) | with_reducible apply hp_set) <;> rfl)
      clear m10 n9 ba9 la9 xa9 ya9 bb9 lb9 xb9 yb9
      have lb10 := heap_lt bb10
      have xb10 := cell2a bb10
      have yb10 := cell2b bb10
      go_wp2_with fail
      refine (span_any H3.out hLb hIb _).mono ?_
      rintro e11 w11 ⟨rfl, m11⟩
      have n11 : Nw w w11 := Nw.tr (by repeat first | with_reducible exact n10 | with_reducible refine Fr.alloc ?_ _ | with_reducible refine Fr.drew ?_ | (with_reducible refine Fr.setCell ?_ _ _ (fun h => ?_); rotate_left; focus (simp only at h; omega))) m11
      have bs11 : w11.heap[w10.heap.size]? = some (.cells #[.int .u64 (s1 : Int), .int .u64 (s2 : Int)] 28) := (m11.block _ (by first | omega | (simp <;> omega)) (fun f => f)).trans (by (repeat first | with_reducible exact heap_new _ _ | with_reducible exact heap_new _ _ | with_reducible exact heap_next _ _ _ | with_reducible exact heap_third _ _ _ _ | with_reducible refine hp_dr ?_ | (with_reducible refine hp_ne ?_ ?_; focus omega) | (with_reducible refine hp_al ?_ ?_; focus (first | omega | (simp <;> omega))) | with_reducible apply hp_set) <;> rfl)
      clear m11 n10 bb10 lb10 xb10 yb10
      have ls11 := heap_lt bs11
      have xs11 := cell2a bs11
      have ys11 := cell2b bs11
      have hsp := HSP.out
      clear HSP H2 H3
      have al := fun W (k : Nw w W) => alive_any W (HT.out.nw k)
      rcases hsp with rfl | ⟨rfl, rfl⟩ | ⟨rfl, rfl, rfl⟩ | ⟨rfl, rfl, hne, ⟨k1, k2⟩ | ⟨k1, k2⟩⟩
      all_goals
        first
          | (have k3 : (s1 : Int) < (s3 : Int) := by omega)
          | (have k3 : ¬ (s1 : Int) < (s3 : Int) := by omega; have k4 : decide (x < 0) = false := by simp; omega)
          | skip
        go_wp2_with (go_at_call 7; refine (al _ (by repeat first | with_reducible exact n11 | with_reducible refine Fr.alloc ?_ _ | with_reducible refine Fr.drew ?_ | (with_reducible refine Fr.setCell ?_ _ _ (fun h => ?_); rotate_left; focus (simp only at h; omega)))).mono ?_; rintro ex wx ⟨rfl, nx⟩; have ny := Nw.tr (show Nw w _ from (by repeat first | with_reducible exact n11 | with_reducible refine Fr.alloc ?_ _ | with_reducible refine Fr.drew ?_ | (with_reducible refine Fr.setCell ?_ _ _ (fun h => ?_); rotate_left; focus (simp only at h; omega)))) nx)
        go_ret
        first
          | exact ⟨rfl, ny⟩
          | exact ⟨by show Ending.returned (.bool !decide (x < 0)) = _; rw [decide_eq_false (show ¬ x < 0 by omega)]; rfl, ny⟩
end Go.Proofs.YtibkmcmgolbhhabDoor
