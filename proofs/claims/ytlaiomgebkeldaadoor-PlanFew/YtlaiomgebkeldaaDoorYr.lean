/- plan: what PlanFew asks: the logarithm, which part needs a tile, whether all trees are laid. -/
import Derived.Test.YtlaiomgebkeldaaDoorYq
import Derived.Test.YtlaiomgebkeldaaDoorYg
namespace Go.Proofs.YtlaiomgebkeldaaDoor
open Go.RowKit
set_option linter.unusedVariables false
set_option linter.unusedSimpArgs false
set_option maxHeartbeats 1000000 in
theorem log15_any (n c : Nat) (hc : c ≤ 63) (hn : n ≤ 2 ^ c) (hlow : ∀ j, j < c → 2 ^ j < n) (w : World) :
    Calls Tryd.prog 51 #[.int .u64 (n : Int)] w fun e w' => e = .returned (.int .i64 (c : Int)) ∧ w' = w := by
  have HN : Hid (n ≤ 2 ^ c) := hn
  have HL : Hid (∀ j, j < c → 2 ^ j < n) := hlow
  clear hn hlow
  go_enter Tryd.func51, Tryd.ntmps51
  go_wp2
  go_loopw [3] (fun i wr => ∃ k : Nat, k ≤ c ∧ i = .int .i64 k ∧ wr = w) (fun i _ => c - (intOf i).toNat)
  case atStart => exact ⟨0, by omega, rfl, rfl⟩
  case round =>
    obtain ⟨k, hk, rfl, rfl⟩ := hrel
    obtain ⟨P, hP⟩ : ∃ P, P = 2 ^ k := ⟨_, rfl⟩
    have hP64 : P < 18446744073709551616 := by
      have : 2 ^ k ≤ 2 ^ 63 := Nat.pow_le_pow_right (by decide) (by omega)
      rw [hP]; omega
    have e1 : IntKind.u64.wrap ((2 : Int) ^ k) = (P : Int) := by rw [← pow_cast, ← hP, w64]; omega
    have e2 : (2 : Int) ^ k = (P : Int) := by rw [← pow_cast, ← hP]
    have hk64 : (k : Int) < 64 := by omega
    have hd64 : decide ((k : Int) < 64) = true := by simp; omega
    by_cases hlt : k < c
    · have h1 : P < n := by rw [hP]; exact HL.out k hlt
      have h2 : (P : Int) < (n : Int) := by omega
      have hd1 : decide ((P : Int) < (n : Int)) = true := by simp; omega
      clear hP
      go_wp2
      exact ⟨⟨k + 1, by omega, by go_num, trivial⟩, by simp [intOf]; omega⟩
    · obtain rfl : k = c := by omega
      have h1 : ¬ P < n := by rw [hP]; have := HN.out; omega
      have h2 : ¬ (P : Int) < (n : Int) := by omega
      have hd1 : decide ((P : Int) < (n : Int)) = false := by simp; omega
      clear hP
      go_wp2
      go_ret
      exact ⟨rfl, rfl⟩
/-- Does a tree stand in a tile? -/
def mtT (t : Ti) (c : Nat × Nat) : Prop := c.1 / 8 = t.L ∧ ofA c.1 c.2 / 256 = t.I
instance (t : Ti) (c : Nat × Nat) : Decidable (mtT t c) := by unfold mtT; infer_instance
set_option maxRecDepth 100000 in
set_option maxHeartbeats 4000000 in
theorem needs_any (x : Value) (l : List (Nat × Nat)) (t : Ti) (w : World) (hc : Crd w x l) (hm : ∀ c ∈ l, may c.1 c.2) (hl : l.length ≤ 1099511627776) :
    Calls Tryd.prog 53 #[.agg #[x], tl t.L t.I t.W] w fun e w' => e = .returned (.bool (decide (∃ c ∈ l, mtT t c))) ∧ Nw w w' := by
  obtain ⟨bd, cb, rfl, hc⟩ := hc
  have HC : Hid (∀ k t, l[k]? = some t → ∃ g off, bd = some ⟨g, off, none⟩ ∧ g < w.heap.size ∧ w.cell? ⟨g, off + k * 2, none⟩ = some (.int .u8 (t.1 : Int)) ∧ w.cell? ⟨g, off + k * 2 + 1, none⟩ = some (.int .u64 (t.2 : Int))) := hc
  have HM : Hid (∀ c ∈ l, may c.1 c.2) := hm
  clear hc hm
  obtain ⟨n, hn⟩ : ∃ n, n = l.length := ⟨_, rfl⟩
  have HN : Hid (n = l.length) := hn
  rw [← hn] at hl ⊢
  clear hn
  obtain ⟨D, hD⟩ : ∃ D, D = decide (∃ c ∈ l, mtT t c) := ⟨_, rfl⟩
  have HD : Hid (D = decide (∃ c ∈ l, mtT t c)) := hD
  rw [← hD]
  clear hD
  obtain ⟨w0, hw0⟩ : ∃ q, q = (w.alloc (.cells #[.slice bd n cb] 43)).alloc (.cells #[.int .u8 (t.L : Int), .int .u64 (t.I : Int), .int .i64 (t.W : Int)] 87) := ⟨_, rfl⟩
  have N0 : Hid (Nw w w0) := by show Nw _ _; rw [hw0]; exact (nwa w _).alloc _
  have b0 : w0.heap[w.heap.size]? = some (.cells #[.slice bd n cb] 43) := by rw [hw0]; (repeat first | with_reducible exact heap_new _ _ | with_reducible exact heap_new _ _ | with_reducible exact heap_next _ _ _ | with_reducible exact heap_third _ _ _ _ | with_reducible refine hp_dr ?_ | (with_reducible refine hp_ne ?_ ?_; focus omega) | (with_reducible refine hp_al ?_ ?_; focus (first | omega | (simp <;> omega))) | with_reducible apply hp_set) <;> rfl
  have b1 : w0.heap[w.heap.size + 1]? = some (.cells #[.int .u8 (t.L : Int), .int .u64 (t.I : Int), .int .i64 (t.W : Int)] 87) := by rw [hw0]; exact heap_next _ _ _
  have C : Hid (∀ W, Nw w0 W → W.cell? ⟨w.heap.size, 0, none⟩ = some (.slice bd n cb) ∧ W.cell? ⟨w.heap.size + 1, 0, none⟩ = some (.int .u8 (t.L : Int)) ∧ W.cell? ⟨w.heap.size + 1, 1, none⟩ = some (.int .u64 (t.I : Int)) ∧ w.heap.size + 1 < W.heap.size) := fun W nW => by
    have h := (nW.block _ (heap_lt b0) (fun f => f)).trans b0
    have k := (nW.block _ (heap_lt b1) (fun f => f)).trans b1
    exact ⟨(cell_of h 0).trans rfl, (cell_of k 0).trans rfl, (cell_of k 1).trans rfl, heap_lt k⟩
  clear b0 b1
  obtain ⟨TL, hTL⟩ : ∃ q, q = t.L := ⟨_, rfl⟩
  obtain ⟨TI, hTI⟩ : ∃ q, q = t.I := ⟨_, rfl⟩
  obtain ⟨TW, hTW⟩ : ∃ q, q = t.W := ⟨_, rfl⟩
  have HTL : Hid (TL = t.L) := hTL
  have HTI : Hid (TI = t.I) := hTI
  rw [← hTL, ← hTI, ← hTW] at hw0 ⊢
  rw [← hTL, ← hTI] at C
  clear hTL hTI hTW
  go_enter Tryd.func53, Tryd.ntmps53
  go_upto_region 1 with fail
  rw [← hw0]
  clear hw0
  obtain ⟨bq, hbq⟩ : ∃ q, q = w.heap.size := ⟨_, rfl⟩
  rw [← hbq] at C ⊢
  clear hbq
  go_wp2
  go_loopw [5] (fun i wr => ∃ k : Nat, k ≤ n ∧ i = .int .i64 k ∧ (∀ j c, j < k → l[j]? = some c → ¬ mtT t c) ∧ Nw w0 wr) (fun i _ => n - (intOf i).toNat)
  case atStart => exact ⟨0, by omega, rfl, fun j c hj => by omega, nwr w0⟩
  case round =>
    obtain ⟨k, hk, rfl, hno, hnw⟩ := hrel
    have HNO : Hid (∀ j c, j < k → l[j]? = some c → ¬ mtT t c) := hno
    have HW : Hid (Nw w0 wr) := hnw
    obtain ⟨c0, c1, c2, lb⟩ := C.out wr hnw
    clear hno hnw
    by_cases hlt : k < n
    · obtain ⟨c, ht⟩ : ∃ t, l[k]? = some t := ⟨_, List.getElem?_eq_getElem (by rw [← HN.out]; exact hlt)⟩
      obtain ⟨g, off, rfl, g1, g2, g3⟩ := HC.out k c ht
      have hmm := HM.out c (List.mem_of_getElem? ht)
      have HMEM : Hid (c ∈ l) := List.mem_of_getElem? ht
      have HK : Hid (l[k]? = some c) := ht
      obtain ⟨L, I⟩ := c
      have g2' := (N0.out.tr HW.out).cellOf g2
      have g3' := (N0.out.tr HW.out).cellOf g3
      have q := fun V => tof_yes L I hmm V
      obtain ⟨x, hx⟩ : ∃ x, x = L / 8 := ⟨_, rfl⟩
      obtain ⟨y, hy⟩ : ∃ y, y = ofA L I / 256 := ⟨_, rfl⟩
      obtain ⟨z, hz⟩ : ∃ z, z = ofW L := ⟨_, rfl⟩
      obtain ⟨u, hu⟩ : ∃ u, u = ofA L I % 256 := ⟨_, rfl⟩
      obtain ⟨v, hv⟩ : ∃ v, v = 2 ^ (L % 8) := ⟨_, rfl⟩
      rw [← hx, ← hy, ← hz, ← hu, ← hv] at q
      have HQ : Hid (∀ V, Calls Tryd.prog 68 #[cd L I] V fun e w' => e = .returned (.tuple #[tl x y z, .int .i64 (u : Int), .int .i64 (v : Int), .bool true]) ∧ Nw V w') := q
      have HMT : Hid (mtT t (L, I) ↔ x = TL ∧ y = TI) := by show _ ↔ _; rw [hx, hy, HTL.out, HTI.out]; exact Iff.rfl
      have hki : (k : Int) < (n : Int) := by omega
      clear g2 g3 ht hmm q hx hy hz hu hv
      go_wp2_with fail
      refine (HQ.out _).mono ?_
      rintro e w1 ⟨rfl, n1⟩
      have W1 : Hid (Nw w0 w1) := HW.out.tr n1
      obtain ⟨c0, c1, c2, lb⟩ := C.out w1 W1.out
      clear n1 g2' g3'
      by_cases h1 : x = TL
      · have e1 : ((x : Int) == (TL : Int)) = true := by simp; omega
        by_cases h2 : y = TI
        · have e2 : ((y : Int) == (TI : Int)) = true := by simp; omega
          have HDT : Hid (D = true) := by show _ = _; rw [HD.out]; exact decide_eq_true ⟨(L, I), HMEM.out, HMT.out.2 ⟨h1, h2⟩⟩
          clear h1 h2
          go_wp2
          go_ret
          exact ⟨ret_b HDT.out.symm, (by repeat first | with_reducible exact N0.out.tr W1.out | with_reducible refine Fr.alloc ?_ _ | with_reducible refine Fr.drew ?_ | (with_reducible refine Fr.setCell ?_ _ _ (fun h => ?_); rotate_left; focus (simp only at h; omega)))⟩
        · have e2 : ((y : Int) == (TI : Int)) = false := by simp; omega
          have HNM : Hid (¬ mtT t (L, I)) := fun q => h2 (HMT.out.1 q).2
          clear h1 h2
          go_wp2
          refine ⟨⟨k + 1, by omega, by go_num, fun j c hj hc => ?_, (by repeat first | with_reducible exact W1.out | with_reducible refine Fr.alloc ?_ _ | with_reducible refine Fr.drew ?_ | (with_reducible refine Fr.setCell ?_ _ _ (fun h => ?_); rotate_left; focus (simp only at h; omega)))⟩, by simp [intOf]; omega⟩
          by_cases hjk : j < k
          · exact HNO.out j c hjk hc
          · obtain rfl : j = k := by omega
            rw [HK.out] at hc; cases hc; exact HNM.out
      · have e1 : ((x : Int) == (TL : Int)) = false := by simp; omega
        have HNM : Hid (¬ mtT t (L, I)) := fun q => h1 (HMT.out.1 q).1
        clear h1
        go_wp2
        refine ⟨⟨k + 1, by omega, by go_num, fun j c hj hc => ?_, (by repeat first | with_reducible exact W1.out | with_reducible refine Fr.alloc ?_ _ | with_reducible refine Fr.drew ?_ | (with_reducible refine Fr.setCell ?_ _ _ (fun h => ?_); rotate_left; focus (simp only at h; omega)))⟩, by simp [intOf]; omega⟩
        by_cases hjk : j < k
        · exact HNO.out j c hjk hc
        · obtain rfl : j = k := by omega
          rw [HK.out] at hc; cases hc; exact HNM.out
    · obtain rfl : k = n := by omega
      have HDF : Hid (D = false) := by
        show _ = _
        rw [HD.out]
        refine decide_eq_false ?_
        rintro ⟨c, hc, hmt⟩
        obtain ⟨j, hj⟩ := List.getElem?_of_mem hc
        exact HNO.out j c (by have := (List.getElem?_eq_some_iff.1 hj).1; have := HN.out; omega) hj hmt
      go_wp2
      go_ret
      exact ⟨ret_b HDF.out.symm, N0.out.tr HW.out⟩
end Go.Proofs.YtlaiomgebkeldaaDoor
