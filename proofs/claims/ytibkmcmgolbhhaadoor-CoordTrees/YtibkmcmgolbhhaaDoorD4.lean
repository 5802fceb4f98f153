/- What the document answers: Of, level by level. -/
import Derived.Test.YtibkmcmgolbhhaaDoorD3
namespace Go.Proofs.YtibkmcmgolbhhaaDoor
open Go.RowKit
set_option linter.unusedVariables false
set_option linter.unusedSimpArgs false

theorem hid {p : Prop} (h : p) : Hid p := h
/-- The stretch is the tree of that level. -/
def Mat (b e k : Nat) : Prop := may k (b / 2 ^ k) ∧ b = b / 2 ^ k * 2 ^ k ∧ e = (b / 2 ^ k + 1) * 2 ^ k
theorem mat_yes {b e L I : Nat} (h : may L I) (h1 : b = I * 2 ^ L) (h2 : e = (I + 1) * 2 ^ L) : Mat b e L ∧ b / 2 ^ L = I := by
  have hd : b / 2 ^ L = I := by rw [h1]; exact Nat.mul_div_cancel _ (Nat.two_pow_pos L)
  refine ⟨?_, hd⟩
  unfold Mat
  rw [hd]
  exact ⟨h, h1, h2⟩
theorem mat_uniq {b e k L : Nat} (h : Mat b e k) (h2 : Mat b e L) : k = L := by
  obtain ⟨_, a1, a2⟩ := h
  obtain ⟨_, b1, b2⟩ := h2
  rw [Nat.add_mul, Nat.one_mul, ← a1] at a2
  rw [Nat.add_mul, Nat.one_mul, ← b1] at b2
  have : 2 ^ k = 2 ^ L := by omega
  exact Nat.le_antisymm (pow_le_inv (by omega)) (pow_le_inv (by omega))
theorem OfIs.mat {b e L I : Nat} {ok : Bool} (h : OfIs b e L I ok) {k : Nat} (hm : Mat b e k) : k = L ∧ b / 2 ^ k = I ∧ ok = true := by
  rcases h with ⟨h, h1, h2, h3⟩ | ⟨h, _⟩
  · obtain ⟨m1, m2⟩ := mat_yes h h1 h2
    have := mat_uniq hm m1
    subst this
    exact ⟨rfl, m2, h3⟩
  · exact absurd ⟨hm.2.1, hm.2.2⟩ (h _ _ hm.1)
theorem OfIs.none {b e L I : Nat} {ok : Bool} (h : OfIs b e L I ok) (hn : ∀ k, k ≤ 63 → ¬ Mat b e k) : L = 0 ∧ I = 0 ∧ ok = false := by
  rcases h with ⟨h, h1, h2, h3⟩ | ⟨_, h⟩
  · exact absurd (mat_yes h h1 h2).1 (hn L h.1)
  · exact h

set_option maxRecDepth 100000 in
set_option maxHeartbeats 2000000 in
theorem rof_any {b e L I : Nat} {ok : Bool} (h : OfIs b e L I ok) (hb : b < 18446744073709551616) (he : e < 18446744073709551616) (w : World) :
    Calls Tryd.prog 11 #[sp b e] w fun x w' => x = .returned (.tuple #[cd L I, .bool ok]) ∧ Nw w w' := by
  have H : Hid (OfIs b e L I ok) := h
  clear h
  go_enter Tryd.func11, Tryd.ntmps11
  go_wp2
  go_loopw [4] (fun v wr => ∃ k : Nat, k ≤ 64 ∧ v = .int .i64 k ∧ (∀ j, j < k → ¬ Mat b e j) ∧ wr.heap[w.heap.size]? = some (.cells #[.int .u64 (b : Int), .int .u64 (e : Int)] 26) ∧ wr.heap[w.heap.size + 1]? = some (.cells #[.int .u8 0, .int .u64 0] 24) ∧ Nw w wr) (fun v _ => 64 - (intOf v).toNat)
  case atStart => exact ⟨0, by omega, rfl, fun j hj => by omega, by (repeat first | with_reducible exact heap_new w _ | with_reducible exact heap_new _ _ | with_reducible exact heap_next _ _ _ | with_reducible exact heap_third _ _ _ _ | with_reducible refine hp_dr ?_ | (with_reducible refine hp_ne ?_ ?_; focus omega) | (with_reducible refine hp_al ?_ ?_; focus (first | omega | (simp <;> omega))) | with_reducible apply hp_set) <;> rfl, by (repeat first | with_reducible exact heap_next w _ _ | with_reducible exact heap_new _ _ | with_reducible exact heap_next _ _ _ | with_reducible exact heap_third _ _ _ _ | with_reducible refine hp_dr ?_ | (with_reducible refine hp_ne ?_ ?_; focus omega) | (with_reducible refine hp_al ?_ ?_; focus (first | omega | (simp <;> omega))) | with_reducible apply hp_set) <;> rfl, (by repeat first | with_reducible exact nwr w | with_reducible refine Fr.alloc ?_ _ | with_reducible refine Fr.drew ?_ | (with_reducible refine Fr.setCell ?_ _ _ (fun h => ?_); rotate_left; focus (simp only at h; omega)))⟩
  case round =>
    obtain ⟨k, hk, rfl, hno, j0, j1, hnw⟩ := hrel
    have HN : Hid (∀ j, j < k → ¬ Mat b e j) := hno
    clear hno
    have l0 := heap_lt j0
    have l1 := heap_lt j1
    have c0 := cell2a j0
    have c1 := cell2b j0
    by_cases hlt : k ≤ 63
    · have hi1 : (k : Int) ≤ 63 := by omega
      have hdv : (b : Int) / 2 ^ k = ((b / 2 ^ k : Nat) : Int) := castd b k
      have hdl : b / 2 ^ k ≤ b := Nat.div_le_self _ _
      obtain ⟨q, hq⟩ : ∃ q, q = b / 2 ^ k := ⟨_, rfl⟩
      rw [← hq] at hdv hdl
      have HQ : Hid (q = b / 2 ^ k) := hq
      clear hq
      obtain ⟨x, y, o2, hs, hx, hy⟩ := spanIs_ex k q
      have HS : Hid (SpanIs k q x y o2) := hs
      clear hs
      go_wp2_with fail
      refine (rspan_any HS.out (by omega) (by omega) _).mono ?_
      rintro e1 w2 ⟨rfl, n2⟩
      have k0 : w2.heap[w.heap.size]? = some (.cells #[.int .u64 (b : Int), .int .u64 (e : Int)] 26) := (n2.block _ (by simp <;> omega) (fun f => f)).trans (by (repeat first | with_reducible exact j0 | with_reducible exact heap_new _ _ | with_reducible exact heap_next _ _ _ | with_reducible exact heap_third _ _ _ _ | with_reducible refine hp_dr ?_ | (with_reducible refine hp_ne ?_ ?_; focus omega) | (with_reducible refine hp_al ?_ ?_; focus (first | omega | (simp <;> omega))) | with_reducible apply hp_set) <;> rfl)
      have k1 : w2.heap[w.heap.size + 1]? = some (.cells #[.int .u8 0, .int .u64 0] 24) := (n2.block _ (by simp <;> omega) (fun f => f)).trans (by (repeat first | with_reducible exact j1 | with_reducible exact heap_new _ _ | with_reducible exact heap_next _ _ _ | with_reducible exact heap_third _ _ _ _ | with_reducible refine hp_dr ?_ | (with_reducible refine hp_ne ?_ ?_; focus omega) | (with_reducible refine hp_al ?_ ?_; focus (first | omega | (simp <;> omega))) | with_reducible apply hp_set) <;> rfl)
      have k2 : w2.heap[wr.heap.size]? = some (.cells #[.int .u8 (k : Int), .int .u64 (q : Int)] 24) := (n2.block _ (by simp) (fun f => f)).trans (by (repeat first | with_reducible exact j1 | with_reducible exact heap_new _ _ | with_reducible exact heap_next _ _ _ | with_reducible exact heap_third _ _ _ _ | with_reducible refine hp_dr ?_ | (with_reducible refine hp_ne ?_ ?_; focus omega) | (with_reducible refine hp_al ?_ ?_; focus (first | omega | (simp <;> omega))) | with_reducible apply hp_set) <;> rfl)
      have n3 : Nw w w2 := Nw.tr (by repeat first | with_reducible exact hnw | with_reducible refine Fr.alloc ?_ _ | with_reducible refine Fr.drew ?_ | (with_reducible refine Fr.setCell ?_ _ _ (fun h => ?_); rotate_left; focus (simp only at h; omega))) n2
      clear n2 c0 c1 j0 j1 hnw
      have hs0 : w.heap.size ≠ wr.heap.size := by omega
      have hs1 : w.heap.size + 1 ≠ wr.heap.size := by omega
      clear l0 l1
      have l0 := heap_lt k0
      have l1 := heap_lt k1
      have l2 := heap_lt k2
      have c0 := cell2a k0
      have c1 := cell2b k0
      have d0 := cell2a k2
      have d1 := cell2b k2
      have g0 := cell2a k1
      have g1 := cell2b k1
      have z0 := frozen_of k1 0
      have z1 := frozen_of k1 1
      by_cases hm : Mat b e k
      · obtain ⟨m1, m2, m3⟩ := H.out.mat hm
        obtain ⟨hm1, hm2, hm3⟩ := hm
        rw [← HQ.out] at hm1 hm2 hm3 m2
        have hxy : x = b ∧ y = e ∧ o2 = true := by
          rcases HS.out with ⟨_, a1, a2, a3⟩ | ⟨a1, _⟩
          · exact ⟨by rw [a1, ← hm2], by rw [a2, ← hm3], a3⟩
          · exact absurd hm1 a1
        obtain ⟨hx1, hy1, rfl⟩ := hxy
        have M : Hid (k = L ∧ q = I ∧ ok = true) := ⟨m1, m2, m3⟩
        clear m1 m2 m3 hm1 hm2 hm3 HS
        subst hx1 hy1
        go_wp2
        (refine bodyPost_ret (results_cell_slot (V := #[.int .u8 (k : Int), .int .u64 (q : Int)]) (ty := 24) (f := (0, 0)) Tryd.results11 Tryd.isAgg24 Tryd.sizeOf24 rfl _ rfl ?_ rfl) rfl ⟨by rw [← M.out.1, ← M.out.2.1, M.out.2.2]; rfl, (by repeat first | with_reducible exact n3 | with_reducible refine Fr.alloc ?_ _ | with_reducible refine Fr.drew ?_ | (with_reducible refine Fr.setCell ?_ _ _ (fun h => ?_); rotate_left; focus (simp only at h; omega)))⟩; (repeat first | with_reducible exact k1 | with_reducible exact heap_new _ _ | with_reducible exact heap_next _ _ _ | with_reducible exact heap_third _ _ _ _ | with_reducible refine hp_dr ?_ | (with_reducible refine hp_ne ?_ ?_; focus omega) | (with_reducible refine hp_al ?_ ?_; focus (first | omega | (simp <;> omega))) | with_reducible apply hp_set) <;> rfl)
      · have HM : Hid (¬ Mat b e k) := hm
        clear hm
        have hne : o2 = false ∨ (o2 = true ∧ ((x : Int) == (b : Int)) = false) ∨ (o2 = true ∧ x = b ∧ ((y : Int) == (e : Int)) = false) := by
          rcases HS.out with ⟨a0, a1, a2, a3⟩ | ⟨_, _, _, a3⟩
          · have hc : ¬ (x = b ∧ y = e) := fun hc => HM.out ⟨by rw [← HQ.out]; exact a0, by rw [← HQ.out]; omega, by rw [← HQ.out]; omega⟩
            by_cases hxb : x = b
            · exact .inr (.inr ⟨a3, hxb, by simp; omega⟩)
            · exact .inr (.inl ⟨a3, by simp; omega⟩)
          · exact .inl a3
        have hend : ∀ W : World, W.heap[w.heap.size]? = some (.cells #[.int .u64 (b : Int), .int .u64 (e : Int)] 26) → W.heap[w.heap.size + 1]? = some (.cells #[.int .u8 0, .int .u64 0] 24) → Nw w W → (∃ k_1 : Nat, k_1 ≤ 64 ∧ Value.int .i64 ((k : Int) + 1) = .int .i64 (k_1 : Int) ∧ (∀ j, j < k_1 → ¬ Mat b e j) ∧ W.heap[w.heap.size]? = some (.cells #[.int .u64 (b : Int), .int .u64 (e : Int)] 26) ∧ W.heap[w.heap.size + 1]? = some (.cells #[.int .u8 0, .int .u64 0] 24) ∧ Nw w W) ∧ 64 - (intOf (Value.int .i64 ((k : Int) + 1))).toNat < 64 - (intOf (Value.int .i64 (k : Int))).toNat := by
          intro W a b c
          refine ⟨⟨k + 1, by omega, by go_num, fun j hj => ?_, a, b, c⟩, by simp [intOf]; omega⟩
          rcases Nat.lt_or_ge j k with hj2 | hj2
          · exact HN.out j hj2
          · obtain rfl : j = k := by omega
            exact HM.out
        have HE := hid hend
        clear hend
        clear HS
        rcases hne with rfl | ⟨rfl, hne⟩ | ⟨rfl, rfl, hne⟩
        · go_wp2
          exact HE.out _ (by (repeat first | with_reducible exact k0 | with_reducible exact heap_new _ _ | with_reducible exact heap_next _ _ _ | with_reducible exact heap_third _ _ _ _ | with_reducible refine hp_dr ?_ | (with_reducible refine hp_ne ?_ ?_; focus omega) | (with_reducible refine hp_al ?_ ?_; focus (first | omega | (simp <;> omega))) | with_reducible apply hp_set) <;> rfl) (by (repeat first | with_reducible exact k1 | with_reducible exact heap_new _ _ | with_reducible exact heap_next _ _ _ | with_reducible exact heap_third _ _ _ _ | with_reducible refine hp_dr ?_ | (with_reducible refine hp_ne ?_ ?_; focus omega) | (with_reducible refine hp_al ?_ ?_; focus (first | omega | (simp <;> omega))) | with_reducible apply hp_set) <;> rfl) (by repeat first | with_reducible exact n3 | with_reducible refine Fr.alloc ?_ _ | with_reducible refine Fr.drew ?_ | (with_reducible refine Fr.setCell ?_ _ _ (fun h => ?_); rotate_left; focus (simp only at h; omega)))
        · go_wp2
          exact HE.out _ (by (repeat first | with_reducible exact k0 | with_reducible exact heap_new _ _ | with_reducible exact heap_next _ _ _ | with_reducible exact heap_third _ _ _ _ | with_reducible refine hp_dr ?_ | (with_reducible refine hp_ne ?_ ?_; focus omega) | (with_reducible refine hp_al ?_ ?_; focus (first | omega | (simp <;> omega))) | with_reducible apply hp_set) <;> rfl) (by (repeat first | with_reducible exact k1 | with_reducible exact heap_new _ _ | with_reducible exact heap_next _ _ _ | with_reducible exact heap_third _ _ _ _ | with_reducible refine hp_dr ?_ | (with_reducible refine hp_ne ?_ ?_; focus omega) | (with_reducible refine hp_al ?_ ?_; focus (first | omega | (simp <;> omega))) | with_reducible apply hp_set) <;> rfl) (by repeat first | with_reducible exact n3 | with_reducible refine Fr.alloc ?_ _ | with_reducible refine Fr.drew ?_ | (with_reducible refine Fr.setCell ?_ _ _ (fun h => ?_); rotate_left; focus (simp only at h; omega)))
        · go_wp2
          exact HE.out _ (by (repeat first | with_reducible exact k0 | with_reducible exact heap_new _ _ | with_reducible exact heap_next _ _ _ | with_reducible exact heap_third _ _ _ _ | with_reducible refine hp_dr ?_ | (with_reducible refine hp_ne ?_ ?_; focus omega) | (with_reducible refine hp_al ?_ ?_; focus (first | omega | (simp <;> omega))) | with_reducible apply hp_set) <;> rfl) (by (repeat first | with_reducible exact k1 | with_reducible exact heap_new _ _ | with_reducible exact heap_next _ _ _ | with_reducible exact heap_third _ _ _ _ | with_reducible refine hp_dr ?_ | (with_reducible refine hp_ne ?_ ?_; focus omega) | (with_reducible refine hp_al ?_ ?_; focus (first | omega | (simp <;> omega))) | with_reducible apply hp_set) <;> rfl) (by repeat first | with_reducible exact n3 | with_reducible refine Fr.alloc ?_ _ | with_reducible refine Fr.drew ?_ | (with_reducible refine Fr.setCell ?_ _ _ (fun h => ?_); rotate_left; focus (simp only at h; omega)))
    · obtain ⟨m1, m2, m3⟩ := H.out.none (fun j hj => HN.out j (by omega))
      subst m1 m2 m3
      have hi1 : ¬ (k : Int) ≤ 63 := by omega
      have g0 := cell2a j1
      have g1 := cell2b j1
      have z0 := frozen_of j1 0
      have z1 := frozen_of j1 1
      go_wp2
      (refine bodyPost_ret (results_cell_slot (V := #[.int .u8 0, .int .u64 0]) (ty := 24) (f := (0, 0)) Tryd.results11 Tryd.isAgg24 Tryd.sizeOf24 rfl _ rfl ?_ rfl) rfl ⟨rfl, (by repeat first | with_reducible exact hnw | with_reducible refine Fr.alloc ?_ _ | with_reducible refine Fr.drew ?_ | (with_reducible refine Fr.setCell ?_ _ _ (fun h => ?_); rotate_left; focus (simp only at h; omega)))⟩; (repeat first | with_reducible exact j1 | with_reducible exact heap_new _ _ | with_reducible exact heap_next _ _ _ | with_reducible exact heap_third _ _ _ _ | with_reducible refine hp_dr ?_ | (with_reducible refine hp_ne ?_ ?_; focus omega) | (with_reducible refine hp_al ?_ ?_; focus (first | omega | (simp <;> omega))) | with_reducible apply hp_set) <;> rfl)
end Go.Proofs.YtibkmcmgolbhhaaDoor
