/- What the document answers: Has, Common. -/
import Derived.Test.YtibkmcmgolbhhaaDoorD1
import Derived.Test.YtibkmcmgolbhhaaDoorC5
namespace Go.Proofs.YtibkmcmgolbhhaaDoor
open Go.RowKit
set_option linter.unusedVariables false
set_option linter.unusedSimpArgs false

set_option maxHeartbeats 2000000 in
theorem rhas_any (l x L I : Nat) (r : Bool) (hr : r = true ↔ L ≤ l ∧ I / 2 ^ (l - L) = x) (h1 : may l x) (h2 : may L I) (w : World) :
    Calls Tryd.prog 32 #[cd l x, cd L I] w fun e w' => e = .returned (.bool r) ∧ Nw w w' := by
  rw [← has_iff] at hr
  have HR : Hid (r = true ↔ x * 2 ^ l ≤ I * 2 ^ L ∧ (I + 1) * 2 ^ L ≤ (x + 1) * 2 ^ l) := hr
  have q1 := fun w => rspan_yes l x h1 w
  have q2 := fun w => rspan_yes L I h2 w
  clear hr h1 h2
  obtain ⟨a, ha⟩ : ∃ a, a = x * 2 ^ l := ⟨_, rfl⟩
  obtain ⟨b, hb⟩ : ∃ b, b = (x + 1) * 2 ^ l := ⟨_, rfl⟩
  obtain ⟨c, hc⟩ : ∃ c, c = I * 2 ^ L := ⟨_, rfl⟩
  obtain ⟨d, hd⟩ : ∃ d, d = (I + 1) * 2 ^ L := ⟨_, rfl⟩
  rw [← ha, ← hb] at q1
  rw [← hc, ← hd] at q2
  rw [← ha, ← hb, ← hc, ← hd] at HR
  clear ha hb hc hd
  by_cases hac : a ≤ c
  · have hi : (a : Int) ≤ (c : Int) := by omega
    go_enter Tryd.func32, Tryd.ntmps32
    go_wp2_with fail
    refine (q1 _).mono ?_
    rintro e w1 ⟨rfl, n1⟩
    obtain ⟨⟨l0, l1⟩, b0, b1, n2⟩ := two_made n1
    clear n1 b0
    have c0 := cell2a b1
    have c1 := cell2b b1
    go_wp2_with fail
    refine (q2 _).mono ?_
    rintro e w2 ⟨rfl, n3⟩
    obtain ⟨l2, b2, n4⟩ := one_made n3
    have n5 : Nw w w2 := n2.tr n4
    clear n3 n4 n2 b1 c0 c1
    have d0 := cell2a b2
    have d1 := cell2b b2
    go_wp2
    go_ret
    refine ⟨ret_b ?_, (by repeat first | with_reducible exact n5 | with_reducible refine Fr.alloc ?_ _ | with_reducible refine Fr.drew ?_ | (with_reducible refine Fr.setCell ?_ _ _ (fun h => ?_); rotate_left; focus (simp only at h; omega)))⟩
    rw [Bool.eq_iff_iff, HR.out]
    simp only [decide_eq_true_eq]
    omega
  · have hi : ¬ (a : Int) ≤ (c : Int) := by omega
    obtain rfl : r = false := by rcases r with _ | _; rfl; exact absurd (HR.out.1 rfl).1 hac
    go_enter Tryd.func32, Tryd.ntmps32
    go_wp2_with fail
    refine (q1 _).mono ?_
    rintro e w1 ⟨rfl, n1⟩
    obtain ⟨⟨l0, l1⟩, b0, b1, n2⟩ := two_made n1
    clear n1 b0
    have c0 := cell2a b1
    have c1 := cell2b b1
    go_wp2_with fail
    refine (q2 _).mono ?_
    rintro e w2 ⟨rfl, n3⟩
    obtain ⟨l2, b2, n4⟩ := one_made n3
    have n5 : Nw w w2 := n2.tr n4
    clear n3 n4 n2 b1 c0 c1
    have d0 := cell2a b2
    have d1 := cell2b b2
    go_wp2
    go_ret
    exact ⟨rfl, (by repeat first | with_reducible exact n5 | with_reducible refine Fr.alloc ?_ _ | with_reducible refine Fr.drew ?_ | (with_reducible refine Fr.setCell ?_ _ _ (fun h => ?_); rotate_left; focus (simp only at h; omega)))⟩

set_option maxHeartbeats 2000000 in
theorem rcommon_no (La Ia Lb Ib : Nat) (h : ¬ (may La Ia ∧ may Lb Ib)) (hLa : La ≤ 255) (hIa : Ia < 18446744073709551616) (hLb : Lb ≤ 255) (hIb : Ib < 18446744073709551616) (w : World) :
    Calls Tryd.prog 20 #[cd La Ia, cd Lb Ib] w fun x w' => x = .returned (.tuple #[cd 0 0, .bool false]) ∧ Nw w w' := by
  by_cases ha : may La Ia
  · have hb : ¬ may Lb Ib := fun k => h ⟨ha, k⟩
    clear h
    have HA : Hid (may La Ia) := ha
    have HB : Hid (¬ may Lb Ib) := hb
    clear ha hb
    go_enter Tryd.func20, Tryd.ntmps20
    go_wp2_with fail
    refine (rmay La Ia true (by simp [HA.out]) (by omega) (by omega) _).mono ?_
    rintro x w1 ⟨rfl, n1⟩
    obtain ⟨⟨l0, l1, l2⟩, b0, b1, b2, n2⟩ := three_made n1
    have c0 := cell2a b1
    have c1 := cell2b b1
    clear n1
    go_wp2_with fail
    refine (rmay Lb Ib false (by simp [HB.out]) (by omega) (by omega) _).mono ?_
    rintro x w2 ⟨rfl, n3⟩
    have b3 := (n3.block _ l2 (fun f => f)).trans b2
    have n4 : Nw w w2 := n2.tr n3
    clear c0 c1 b0 b1 b2 n3 n2
    have d0 := cell2a b3
    have d1 := cell2b b3
    have z0 := frozen_of b3 0
    have z1 := frozen_of b3 1
    go_wp2
    (refine bodyPost_ret (results_cell_slot (V := #[.int .u8 0, .int .u64 0]) (ty := 24) (f := (0, 0)) Tryd.results20 Tryd.isAgg24 Tryd.sizeOf24 rfl _ rfl ?_ rfl) rfl ⟨rfl, (by repeat first | with_reducible exact n4 | with_reducible refine Fr.alloc ?_ _ | with_reducible refine Fr.drew ?_ | (with_reducible refine Fr.setCell ?_ _ _ (fun h => ?_); rotate_left; focus (simp only at h; omega)))⟩; (repeat first | with_reducible exact b3 | with_reducible exact heap_new _ _ | with_reducible exact heap_next _ _ _ | with_reducible exact heap_third _ _ _ _ | with_reducible refine hp_dr ?_ | (with_reducible refine hp_ne ?_ ?_; focus omega) | (with_reducible refine hp_al ?_ ?_; focus (first | omega | (simp <;> omega))) | with_reducible apply hp_set) <;> rfl)
  · clear h
    have HA : Hid (¬ may La Ia) := ha
    clear ha
    go_enter Tryd.func20, Tryd.ntmps20
    go_wp2_with fail
    refine (rmay La Ia false (by simp [HA.out]) (by omega) (by omega) _).mono ?_
    rintro x w1 ⟨rfl, n1⟩
    obtain ⟨⟨l0, l1, l2⟩, b0, b1, b2, n2⟩ := three_made n1
    clear n1 b0 b1
    have d0 := cell2a b2
    have d1 := cell2b b2
    have z0 := frozen_of b2 0
    have z1 := frozen_of b2 1
    go_wp2
    (refine bodyPost_ret (results_cell_slot (V := #[.int .u8 0, .int .u64 0]) (ty := 24) (f := (0, 0)) Tryd.results20 Tryd.isAgg24 Tryd.sizeOf24 rfl _ rfl ?_ rfl) rfl ⟨rfl, (by repeat first | with_reducible exact n2 | with_reducible refine Fr.alloc ?_ _ | with_reducible refine Fr.drew ?_ | (with_reducible refine Fr.setCell ?_ _ _ (fun h => ?_); rotate_left; focus (simp only at h; omega)))⟩; (repeat first | with_reducible exact b2 | with_reducible exact heap_new _ _ | with_reducible exact heap_next _ _ _ | with_reducible exact heap_third _ _ _ _ | with_reducible refine hp_dr ?_ | (with_reducible refine hp_ne ?_ ?_; focus omega) | (with_reducible refine hp_al ?_ ?_; focus (first | omega | (simp <;> omega))) | with_reducible apply hp_set) <;> rfl)

theorem level_div {La Ia k : Nat} (h : La ≤ k) : Ia * 2 ^ La / 2 ^ k = Ia / 2 ^ (k - La) := by
  rw [two_pow_split h, ← Nat.div_div_eq_div_mul, Nat.mul_div_cancel _ (Nat.two_pow_pos La)]
theorem level_may {La Ia k : Nat} (h : may La Ia) (hk : k ≤ 63) : may k (Ia * 2 ^ La / 2 ^ k) := by
  refine (may_lt hk).2 ?_
  rw [Nat.div_lt_iff_lt_mul (Nat.two_pow_pos k), ← Nat.pow_add]
  have h2 : 63 - k + k = 63 := by omega
  rw [h2]
  have h3 : Ia * 2 ^ La < (Ia + 1) * 2 ^ La := by rw [Nat.add_mul, Nat.one_mul]; have := Nat.two_pow_pos La; omega
  exact Nat.lt_of_lt_of_le h3 h.2

set_option maxRecDepth 100000 in
set_option maxHeartbeats 4000000 in
theorem rcommon_yes (La Ia Lb Ib m : Nat) (ha : may La Ia) (hb : may Lb Ib) (hC : IsC La Ia Lb Ib m) (w : World) :
    Calls Tryd.prog 20 #[cd La Ia, cd Lb Ib] w fun x w' => x = .returned (.tuple #[cd m (Ia / 2 ^ (m - La)), .bool true]) ∧ Nw w w' := by
  have HA : Hid (may La Ia) := ha
  have HB : Hid (may Lb Ib) := hb
  have HC : Hid (IsC La Ia Lb Ib m) := hC
  have hm := hC.le63 ha hb
  have hLa := ha.1
  have hLb := hb.1
  have hIa := may_bd ha
  have hIb := may_bd hb
  rw [p63] at hIa hIb
  have qs := fun w => rspan_yes La Ia ha w
  have hS : Ia * 2 ^ La < 9223372036854775808 := by
    have h3 : Ia * 2 ^ La < (Ia + 1) * 2 ^ La := by rw [Nat.add_mul, Nat.one_mul]; have := Nat.two_pow_pos La; omega
    have := ha.2
    rw [p63] at this
    omega
  have hlm : ∀ k, k ≤ 63 → may k (Ia * 2 ^ La / 2 ^ k) := fun k hk => level_may ha hk
  have hld : ∀ k, La ≤ k → Ia * 2 ^ La / 2 ^ k = Ia / 2 ^ (k - La) := fun k hk => level_div hk
  obtain ⟨s, hs⟩ : ∃ s, s = Ia * 2 ^ La := ⟨_, rfl⟩
  obtain ⟨t, ht⟩ : ∃ t, t = (Ia + 1) * 2 ^ La := ⟨_, rfl⟩
  rw [← hs] at qs hS
  rw [← ht] at qs
  simp only [← hs] at hlm hld
  have HLM : Hid (∀ k, k ≤ 63 → may k (s / 2 ^ k)) := hlm
  have HLD : Hid (∀ k, La ≤ k → s / 2 ^ k = Ia / 2 ^ (k - La)) := hld
  clear ha hb hC hs ht hlm hld
  go_enter Tryd.func20, Tryd.ntmps20
  go_wp2_with fail
  refine (rmay La Ia true (by simp [HA.out]) (by omega) (by omega) _).mono ?_
  rintro x w1 ⟨rfl, n1⟩
  obtain ⟨⟨l0, l1, l2⟩, b0, b1, b2, n2⟩ := three_made n1
  have c0 := cell2a b0
  have c1 := cell2b b0
  have d0 := cell2a b1
  have d1 := cell2b b1
  clear n1
  go_wp2_with fail
  refine (rmay Lb Ib true (by simp [HB.out]) (by omega) (by omega) _).mono ?_
  rintro x w2 ⟨rfl, n3⟩
  have b0' := (n3.block _ l0 (fun f => f)).trans b0
  have b1' := (n3.block _ l1 (fun f => f)).trans b1
  have b2' := (n3.block _ l2 (fun f => f)).trans b2
  have n4 : Nw w w2 := n2.tr n3
  clear c0 c1 d0 d1 b0 b1 b2 n3 n2 l0 l1 l2
  have c0 := cell2a b0'
  have c1 := cell2b b0'
  go_wp2_with fail
  refine (qs _).mono ?_
  rintro x w3 ⟨rfl, n5⟩
  have e0 := (n5.block _ (heap_lt b0') (fun f => f)).trans b0'
  have e1 := (n5.block _ (heap_lt b1') (fun f => f)).trans b1'
  have e2 := (n5.block _ (heap_lt b2') (fun f => f)).trans b2'
  have n6 : Nw w w3 := n4.tr n5
  clear b0' b1' b2' n4 n5 c0 c1 qs
  have l0 := heap_lt e0
  have l1 := heap_lt e1
  have l2 := heap_lt e2
  go_wp2
  obtain ⟨B, hB⟩ : ∃ B, B = w3.heap.size := ⟨_, rfl⟩
  rw [← hB] at l0 l1 l2 ⊢
  have HBw : Hid (B = w3.heap.size) := hB
  clear hB
  go_loopw [8] (fun v wr => ∃ k : Nat, k ≤ 63 ∧ v = .int .i64 k ∧ k ≤ m ∧ wr.heap[w.heap.size]? = some (.cells #[.int .u8 (La : Int), .int .u64 (Ia : Int)] 24) ∧ wr.heap[w.heap.size + 1]? = some (.cells #[.int .u8 (Lb : Int), .int .u64 (Ib : Int)] 24) ∧ wr.heap[w.heap.size + 1 + 1]? = some (.cells #[.int .u8 0, .int .u64 0] 24) ∧ wr.heap[B]? = some (.cells #[.int .u64 (s : Int), .int .u64 (t : Int)] 26) ∧ Nw w wr) (fun v _ => 63 - (intOf v).toNat)
  case atStart => exact ⟨0, by omega, rfl, by omega, by rw [HBw.out] at l0; (repeat first | with_reducible exact e0 | with_reducible exact heap_new _ _ | with_reducible exact heap_next _ _ _ | with_reducible exact heap_third _ _ _ _ | with_reducible refine hp_dr ?_ | (with_reducible refine hp_ne ?_ ?_; focus omega) | (with_reducible refine hp_al ?_ ?_; focus (first | omega | (simp <;> omega))) | with_reducible apply hp_set) <;> rfl, by rw [HBw.out] at l1; (repeat first | with_reducible exact e1 | with_reducible exact heap_new _ _ | with_reducible exact heap_next _ _ _ | with_reducible exact heap_third _ _ _ _ | with_reducible refine hp_dr ?_ | (with_reducible refine hp_ne ?_ ?_; focus omega) | (with_reducible refine hp_al ?_ ?_; focus (first | omega | (simp <;> omega))) | with_reducible apply hp_set) <;> rfl, by rw [HBw.out] at l2; (repeat first | with_reducible exact e2 | with_reducible exact heap_new _ _ | with_reducible exact heap_next _ _ _ | with_reducible exact heap_third _ _ _ _ | with_reducible refine hp_dr ?_ | (with_reducible refine hp_ne ?_ ?_; focus omega) | (with_reducible refine hp_al ?_ ?_; focus (first | omega | (simp <;> omega))) | with_reducible apply hp_set) <;> rfl, by rw [HBw.out]; (repeat first | with_reducible exact heap_new _ _ | with_reducible exact heap_new _ _ | with_reducible exact heap_next _ _ _ | with_reducible exact heap_third _ _ _ _ | with_reducible refine hp_dr ?_ | (with_reducible refine hp_ne ?_ ?_; focus omega) | (with_reducible refine hp_al ?_ ?_; focus (first | omega | (simp <;> omega))) | with_reducible apply hp_set) <;> rfl, (by repeat first | with_reducible exact n6 | with_reducible refine Fr.alloc ?_ _ | with_reducible refine Fr.drew ?_ | (with_reducible refine Fr.setCell ?_ _ _ (fun h => ?_); rotate_left; focus (simp only at h; omega)))⟩
  case round =>
    obtain ⟨k, hk, rfl, hkm, j0, j1, j2, j3, hnw⟩ := hrel
    clear e0 e1 e2 n6 l0 l1 l2
    have l0 := heap_lt j0
    have l1 := heap_lt j1
    have l2 := heap_lt j2
    have l3 := heap_lt j3
    by_cases hlt : k < 63
    · have hi : (k : Int) < 63 := by omega
      have hcd : (s : Int) / 2 ^ k = ((s / 2 ^ k : Nat) : Int) := castd _ _
      have hmq := HLM.out k hk
      have hdl : s / 2 ^ k ≤ s := Nat.div_le_self _ _
      have hdq := HLD.out k
      obtain ⟨q, hq⟩ : ∃ q, q = s / 2 ^ k := ⟨_, rfl⟩
      rw [← hq] at hcd hmq hdl hdq
      have HM : Hid (may k q) := hmq
      have HQ : Hid (La ≤ k → q = Ia / 2 ^ (k - La)) := hdq
      clear hq hmq hdq
      have c0 := cell2a j0
      have c1 := cell2b j0
      have d0 := cell2a j3
      obtain ⟨r1, hr1⟩ : ∃ r1 : Bool, r1 = true ↔ La ≤ k ∧ Ia / 2 ^ (k - La) = q := ⟨decide (La ≤ k ∧ Ia / 2 ^ (k - La) = q), by simp⟩
      obtain ⟨r2, hr2⟩ : ∃ r2 : Bool, r2 = true ↔ Lb ≤ k ∧ Ib / 2 ^ (k - Lb) = q := ⟨decide (Lb ≤ k ∧ Ib / 2 ^ (k - Lb) = q), by simp⟩
      have HR1 : Hid (r1 = true ↔ La ≤ k ∧ Ia / 2 ^ (k - La) = q) := hr1
      have HR2 : Hid (r2 = true ↔ Lb ≤ k ∧ Ib / 2 ^ (k - Lb) = q) := hr2
      clear hr1 hr2
      go_wp2_with fail
      refine (rhas_any k q La Ia r1 HR1.out HM.out HA.out _).mono ?_
      rintro x w4 ⟨rfl, n7⟩
      have k0 : w4.heap[w.heap.size]? = some (.cells #[.int .u8 (La : Int), .int .u64 (Ia : Int)] 24) := (n7.block _ (by first | omega | (simp <;> omega)) (fun f => f)).trans (by (repeat first | with_reducible exact j0 | with_reducible exact heap_new _ _ | with_reducible exact heap_next _ _ _ | with_reducible exact heap_third _ _ _ _ | with_reducible refine hp_dr ?_ | (with_reducible refine hp_ne ?_ ?_; focus omega) | (with_reducible refine hp_al ?_ ?_; focus (first | omega | (simp <;> omega))) | with_reducible apply hp_set) <;> rfl)
      have k1 : w4.heap[w.heap.size + 1]? = some (.cells #[.int .u8 (Lb : Int), .int .u64 (Ib : Int)] 24) := (n7.block _ (by first | omega | (simp <;> omega)) (fun f => f)).trans (by (repeat first | with_reducible exact j1 | with_reducible exact heap_new _ _ | with_reducible exact heap_next _ _ _ | with_reducible exact heap_third _ _ _ _ | with_reducible refine hp_dr ?_ | (with_reducible refine hp_ne ?_ ?_; focus omega) | (with_reducible refine hp_al ?_ ?_; focus (first | omega | (simp <;> omega))) | with_reducible apply hp_set) <;> rfl)
      have k2 : w4.heap[w.heap.size + 1 + 1]? = some (.cells #[.int .u8 0, .int .u64 0] 24) := (n7.block _ (by first | omega | (simp <;> omega)) (fun f => f)).trans (by (repeat first | with_reducible exact j2 | with_reducible exact heap_new _ _ | with_reducible exact heap_next _ _ _ | with_reducible exact heap_third _ _ _ _ | with_reducible refine hp_dr ?_ | (with_reducible refine hp_ne ?_ ?_; focus omega) | (with_reducible refine hp_al ?_ ?_; focus (first | omega | (simp <;> omega))) | with_reducible apply hp_set) <;> rfl)
      have k3 : w4.heap[B]? = some (.cells #[.int .u64 (s : Int), .int .u64 (t : Int)] 26) := (n7.block _ (by first | omega | (simp <;> omega)) (fun f => f)).trans (by (repeat first | with_reducible exact j3 | with_reducible exact heap_new _ _ | with_reducible exact heap_next _ _ _ | with_reducible exact heap_third _ _ _ _ | with_reducible refine hp_dr ?_ | (with_reducible refine hp_ne ?_ ?_; focus omega) | (with_reducible refine hp_al ?_ ?_; focus (first | omega | (simp <;> omega))) | with_reducible apply hp_set) <;> rfl)
      have k4 : w4.heap[wr.heap.size]? = some (.cells #[.int .u8 (k : Int), .int .u64 (q : Int)] 24) := (n7.block _ (by simp) (fun f => f)).trans (by (repeat first | with_reducible exact heap_new _ _ | with_reducible exact heap_new _ _ | with_reducible exact heap_next _ _ _ | with_reducible exact heap_third _ _ _ _ | with_reducible refine hp_dr ?_ | (with_reducible refine hp_ne ?_ ?_; focus omega) | (with_reducible refine hp_al ?_ ?_; focus (first | omega | (simp <;> omega))) | with_reducible apply hp_set) <;> rfl)
      have n8 : Nw w w4 := Nw.tr (by repeat first | with_reducible exact hnw | with_reducible refine Fr.alloc ?_ _ | with_reducible refine Fr.drew ?_ | (with_reducible refine Fr.setCell ?_ _ _ (fun h => ?_); rotate_left; focus (simp only at h; omega))) n7
      have s0 : w.heap.size < wr.heap.size := l0
      have s1 : w.heap.size + 1 < wr.heap.size := l1
      have s2 : w.heap.size + 1 + 1 < wr.heap.size := l2
      have s3 : B < wr.heap.size := l3
      clear n7 hnw j0 j1 j2 j3 c0 c1 d0 l0 l1 l2 l3
      have l0 := heap_lt k0
      have l1 := heap_lt k1
      have l2 := heap_lt k2
      have l3 := heap_lt k3
      have l4 := heap_lt k4
      have HE : Hid (∀ W : World, W.heap[w.heap.size]? = some (.cells #[.int .u8 (La : Int), .int .u64 (Ia : Int)] 24) → W.heap[w.heap.size + 1]? = some (.cells #[.int .u8 (Lb : Int), .int .u64 (Ib : Int)] 24) → W.heap[w.heap.size + 1 + 1]? = some (.cells #[.int .u8 0, .int .u64 0] 24) → W.heap[B]? = some (.cells #[.int .u64 (s : Int), .int .u64 (t : Int)] 26) → Nw w W → (r1 = false ∨ r2 = false) → (∃ k_1 : Nat, k_1 ≤ 63 ∧ Value.int .i64 ((k : Int) + 1) = .int .i64 (k_1 : Int) ∧ k_1 ≤ m ∧ W.heap[w.heap.size]? = some (.cells #[.int .u8 (La : Int), .int .u64 (Ia : Int)] 24) ∧ W.heap[w.heap.size + 1]? = some (.cells #[.int .u8 (Lb : Int), .int .u64 (Ib : Int)] 24) ∧ W.heap[w.heap.size + 1 + 1]? = some (.cells #[.int .u8 0, .int .u64 0] 24) ∧ W.heap[B]? = some (.cells #[.int .u64 (s : Int), .int .u64 (t : Int)] 26) ∧ Nw w W) ∧ 63 - (intOf (Value.int .i64 ((k : Int) + 1))).toNat < 63 - (intOf (Value.int .i64 (k : Int))).toNat) := by
        intro W a0 a1 a2 a3 a4 hf
        have hkm2 : k < m := by
          rcases Nat.lt_or_ge k m with h | h
          · exact h
          · exfalso
            obtain rfl : k = m := by omega
            have t1 := HQ.out HC.out.la
            have x1 := HR1.out.2 ⟨HC.out.la, t1.symm⟩
            have x2 := HR2.out.2 ⟨HC.out.lb, by rw [t1]; exact HC.out.eq.symm⟩
            rcases hf with h1 | h1
            · rw [h1] at x1; cases x1
            · rw [h1] at x2; cases x2
        exact ⟨⟨k + 1, by omega, by go_num, by omega, a0, a1, a2, a3, a4⟩, by simp [intOf]; omega⟩
      have c0 := cell2a k1
      have c1 := cell2b k1
      have d0 := cell2a k4
      have d1 := cell2b k4
      rcases r1 with _ | _
      · go_wp2
        exact HE.out _ (by (repeat first | with_reducible exact k0 | with_reducible exact heap_new _ _ | with_reducible exact heap_next _ _ _ | with_reducible exact heap_third _ _ _ _ | with_reducible refine hp_dr ?_ | (with_reducible refine hp_ne ?_ ?_; focus omega) | (with_reducible refine hp_al ?_ ?_; focus (first | omega | (simp <;> omega))) | with_reducible apply hp_set) <;> rfl) (by (repeat first | with_reducible exact k1 | with_reducible exact heap_new _ _ | with_reducible exact heap_next _ _ _ | with_reducible exact heap_third _ _ _ _ | with_reducible refine hp_dr ?_ | (with_reducible refine hp_ne ?_ ?_; focus omega) | (with_reducible refine hp_al ?_ ?_; focus (first | omega | (simp <;> omega))) | with_reducible apply hp_set) <;> rfl) (by (repeat first | with_reducible exact k2 | with_reducible exact heap_new _ _ | with_reducible exact heap_next _ _ _ | with_reducible exact heap_third _ _ _ _ | with_reducible refine hp_dr ?_ | (with_reducible refine hp_ne ?_ ?_; focus omega) | (with_reducible refine hp_al ?_ ?_; focus (first | omega | (simp <;> omega))) | with_reducible apply hp_set) <;> rfl) (by (repeat first | with_reducible exact k3 | with_reducible exact heap_new _ _ | with_reducible exact heap_next _ _ _ | with_reducible exact heap_third _ _ _ _ | with_reducible refine hp_dr ?_ | (with_reducible refine hp_ne ?_ ?_; focus omega) | (with_reducible refine hp_al ?_ ?_; focus (first | omega | (simp <;> omega))) | with_reducible apply hp_set) <;> rfl) (by repeat first | with_reducible exact n8 | with_reducible refine Fr.alloc ?_ _ | with_reducible refine Fr.drew ?_ | (with_reducible refine Fr.setCell ?_ _ _ (fun h => ?_); rotate_left; focus (simp only at h; omega))) (by simp)
      · go_wp2_with fail
        refine (rhas_any k q Lb Ib r2 HR2.out HM.out HB.out _).mono ?_
        rintro x w5 ⟨rfl, n9⟩
        have i0 := (n9.block _ l0 (fun f => f)).trans k0
        have i1 := (n9.block _ l1 (fun f => f)).trans k1
        have i2 := (n9.block _ l2 (fun f => f)).trans k2
        have i3 := (n9.block _ l3 (fun f => f)).trans k3
        have i4 := (n9.block _ l4 (fun f => f)).trans k4
        have n10 : Nw w w5 := n8.tr n9
        clear n8 n9 c0 c1 d0 d1 k0 k1 k2 k3 k4 l0 l1 l2 l3 l4
        rcases r2 with _ | _
        · go_wp2
          exact HE.out _ (by (repeat first | with_reducible exact i0 | with_reducible exact heap_new _ _ | with_reducible exact heap_next _ _ _ | with_reducible exact heap_third _ _ _ _ | with_reducible refine hp_dr ?_ | (with_reducible refine hp_ne ?_ ?_; focus omega) | (with_reducible refine hp_al ?_ ?_; focus (first | omega | (simp <;> omega))) | with_reducible apply hp_set) <;> rfl) (by (repeat first | with_reducible exact i1 | with_reducible exact heap_new _ _ | with_reducible exact heap_next _ _ _ | with_reducible exact heap_third _ _ _ _ | with_reducible refine hp_dr ?_ | (with_reducible refine hp_ne ?_ ?_; focus omega) | (with_reducible refine hp_al ?_ ?_; focus (first | omega | (simp <;> omega))) | with_reducible apply hp_set) <;> rfl) (by (repeat first | with_reducible exact i2 | with_reducible exact heap_new _ _ | with_reducible exact heap_next _ _ _ | with_reducible exact heap_third _ _ _ _ | with_reducible refine hp_dr ?_ | (with_reducible refine hp_ne ?_ ?_; focus omega) | (with_reducible refine hp_al ?_ ?_; focus (first | omega | (simp <;> omega))) | with_reducible apply hp_set) <;> rfl) (by (repeat first | with_reducible exact i3 | with_reducible exact heap_new _ _ | with_reducible exact heap_next _ _ _ | with_reducible exact heap_third _ _ _ _ | with_reducible refine hp_dr ?_ | (with_reducible refine hp_ne ?_ ?_; focus omega) | (with_reducible refine hp_al ?_ ?_; focus (first | omega | (simp <;> omega))) | with_reducible apply hp_set) <;> rfl) (by repeat first | with_reducible exact n10 | with_reducible refine Fr.alloc ?_ _ | with_reducible refine Fr.drew ?_ | (with_reducible refine Fr.setCell ?_ _ _ (fun h => ?_); rotate_left; focus (simp only at h; omega))) (by simp)
        · have l2 := heap_lt i2
          have l4 := heap_lt i4
          have d0 := cell2a i4
          have d1 := cell2b i4
          have g0 := cell2a i2
          have g1 := cell2b i2
          have z0 := frozen_of i2 0
          have z1 := frozen_of i2 1
          have E : Hid (k = m ∧ q = Ia / 2 ^ (m - La)) := by
            have t1 := HR1.out.1 (by simp)
            have t2 := HR2.out.1 (by simp)
            have e := HC.out.meets t1.1 t2.1 hkm hkm rfl (by rw [t1.2, t2.2])
            subst e
            exact ⟨rfl, t1.2.symm⟩
          clear HE
          go_wp2
          (refine bodyPost_ret (results_cell_slot (V := #[.int .u8 (k : Int), .int .u64 (q : Int)]) (ty := 24) (f := (0, 0)) Tryd.results20 Tryd.isAgg24 Tryd.sizeOf24 rfl _ rfl ?_ rfl) rfl ⟨by rw [← E.out.2, ← E.out.1]; rfl, (by repeat first | with_reducible exact n10 | with_reducible refine Fr.alloc ?_ _ | with_reducible refine Fr.drew ?_ | (with_reducible refine Fr.setCell ?_ _ _ (fun h => ?_); rotate_left; focus (simp only at h; omega)))⟩; (repeat first | with_reducible exact i2 | with_reducible exact heap_new _ _ | with_reducible exact heap_next _ _ _ | with_reducible exact heap_third _ _ _ _ | with_reducible refine hp_dr ?_ | (with_reducible refine hp_ne ?_ ?_; focus omega) | (with_reducible refine hp_al ?_ ?_; focus (first | omega | (simp <;> omega))) | with_reducible apply hp_set) <;> rfl)
    · obtain rfl : k = 63 := by omega
      have E : Hid (63 = m ∧ 0 = Ia / 2 ^ (m - La)) := by
        have e : m = 63 := by omega
        rw [e]
        exact ⟨rfl, ((may_div HA.out.1).1 HA.out).symm⟩
      have g0 := cell2a j2
      have g1 := cell2b j2
      have z0 := frozen_of j2 0
      have z1 := frozen_of j2 1
      go_wp2
      (refine bodyPost_ret (results_cell_slot (V := #[.int .u8 63, .int .u64 0]) (ty := 24) (f := (0, 0)) Tryd.results20 Tryd.isAgg24 Tryd.sizeOf24 rfl _ rfl ?_ rfl) rfl ⟨by rw [← E.out.2, ← E.out.1]; rfl, (by repeat first | with_reducible exact hnw | with_reducible refine Fr.alloc ?_ _ | with_reducible refine Fr.drew ?_ | (with_reducible refine Fr.setCell ?_ _ _ (fun h => ?_); rotate_left; focus (simp only at h; omega)))⟩; (repeat first | with_reducible exact j2 | with_reducible exact heap_new _ _ | with_reducible exact heap_next _ _ _ | with_reducible exact heap_third _ _ _ _ | with_reducible refine hp_dr ?_ | (with_reducible refine hp_ne ?_ ?_; focus omega) | (with_reducible refine hp_al ?_ ?_; focus (first | omega | (simp <;> omega))) | with_reducible apply hp_set) <;> rfl)

/-- Common's answer, whatever the trees. -/
def ComIs (La Ia Lb Ib p q : Nat) (ok : Bool) : Prop := (may La Ia ∧ may Lb Ib ∧ IsC La Ia Lb Ib p ∧ q = Ia / 2 ^ (p - La) ∧ ok = true) ∨ (¬ (may La Ia ∧ may Lb Ib) ∧ p = 0 ∧ q = 0 ∧ ok = false)
theorem comIs_ex (La Ia Lb Ib : Nat) : ∃ p q ok, ComIs La Ia Lb Ib p q ok ∧ p ≤ 255 ∧ q < 18446744073709551616 := by
  by_cases h : may La Ia ∧ may Lb Ib
  · obtain ⟨m, hm, hC⟩ := isC_ex h.1 h.2
    have hb := may_bd h.1
    rw [p63] at hb
    have := Nat.div_le_self Ia (2 ^ (m - La))
    exact ⟨m, _, true, .inl ⟨h.1, h.2, hC, rfl, rfl⟩, by omega, by omega⟩
  · exact ⟨0, 0, false, .inr ⟨h, rfl, rfl, rfl⟩, by omega, by omega⟩
theorem common_any {La Ia Lb Ib p q : Nat} {ok : Bool} (h : ComIs La Ia Lb Ib p q ok) (hLa : La ≤ 255) (hIa : Ia < 18446744073709551616) (hLb : Lb ≤ 255) (hIb : Ib < 18446744073709551616) (w : World) :
    Calls Tryd.prog 19 #[cd La Ia, cd Lb Ib] w fun x w' => x = .returned (.tuple #[cd p q, .bool ok]) ∧ Nw w w' := by
  rcases h with ⟨h1, h2, h3, rfl, rfl⟩ | ⟨h, rfl, rfl, rfl⟩
  · exact common_yes La Ia Lb Ib p h1 h2 h3 w
  · exact common_no La Ia Lb Ib h hLa hIa hLb hIb w
theorem rcommon_any {La Ia Lb Ib p q : Nat} {ok : Bool} (h : ComIs La Ia Lb Ib p q ok) (hLa : La ≤ 255) (hIa : Ia < 18446744073709551616) (hLb : Lb ≤ 255) (hIb : Ib < 18446744073709551616) (w : World) :
    Calls Tryd.prog 20 #[cd La Ia, cd Lb Ib] w fun x w' => x = .returned (.tuple #[cd p q, .bool ok]) ∧ Nw w w' := by
  rcases h with ⟨h1, h2, h3, rfl, rfl⟩ | ⟨h, rfl, rfl, rfl⟩
  · exact rcommon_yes La Ia Lb Ib p h1 h2 h3 w
  · exact rcommon_no La Ia Lb Ib h hLa hIa hLb hIb w
end Go.Proofs.YtibkmcmgolbhhaaDoor
