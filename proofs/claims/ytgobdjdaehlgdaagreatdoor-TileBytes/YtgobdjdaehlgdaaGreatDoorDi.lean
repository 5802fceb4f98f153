/- tile: the document's Decode. -/
import Derived.Test.YtgobdjdaehlgdaaGreatDoorDh
import Derived.Test.YtgobdjdaehlgdaaGreatDoorVg
namespace Go.Proofs.YtgobdjdaehlgdaaGreatDoor
open Go.RowKit
open Go.Lib (decDigits nDigits)
set_option linter.unusedVariables false
set_option linter.unusedSimpArgs false
/-- Bytes that were laid so far, zeros behind them. -/
def lz (X : List UInt8) (m k : Nat) : List UInt8 := X.take k ++ List.replicate (m - k) 0
theorem lz_len (X : List UInt8) (m k : Nat) (h : X.length = m) (hk : k ≤ m) : (lz X m k).length = m := by
  unfold lz; rw [List.length_append, List.length_take, List.length_replicate]; omega
theorem lz_set (X : List UInt8) (m k : Nat) (h : X.length = m) (hk : k < m) : (bc (lz X m k)).toArray.setIfInBounds k (.int .u8 ((TX.C X k).toNat : Int)) = (bc (lz X m (k + 1))).toArray := by
  apply Array.ext'
  rw [Array.toList_setIfInBounds, List.toList_toArray, List.toList_toArray]
  have e1 : lz X m k = X.take k ++ 0 :: List.replicate (m - (k + 1)) 0 := by
    unfold lz
    rw [show m - k = (m - (k + 1)) + 1 by omega, List.replicate_succ]
  have e2 : lz X m (k + 1) = X.take k ++ TX.C X k :: List.replicate (m - (k + 1)) 0 := by
    unfold lz
    rw [List.take_add, TX.drop_C X k (by omega)]
    simp
  have hl : (bc (X.take k)).length = k := by simp [bc]; omega
  rw [e1, e2]
  have f1 : ∀ c : UInt8, bc (X.take k ++ c :: List.replicate (m - (k + 1)) 0) = bc (X.take k) ++ .int .u8 (c.toNat : Int) :: bc (List.replicate (m - (k + 1)) 0) := fun c => by simp [bc]
  rw [f1, f1, List.set_append_right _ _ (by omega), hl, Nat.sub_self]
  rfl
theorem lz_end (X : List UInt8) (m : Nat) (h : X.length = m) : lz X m m = X := by
  unfold lz; rw [Nat.sub_self, List.take_of_length_le (by omega)]; simp
theorem hbs_bc : (hbs zh).toList = bc (List.replicate 32 0) := by simp [hbs, bc]
theorem lz_at (X : List UInt8) (m k : Nat) (h : X.length = m) (hk : k < m) : (bc (lz X m k)).toArray[k]? = some (.int .u8 0) := by
  have e1 : lz X m k = X.take k ++ 0 :: List.replicate (m - (k + 1)) 0 := by
    unfold lz
    rw [show m - k = (m - (k + 1)) + 1 by omega, List.replicate_succ]
  have hl : (bc (X.take k)).length = k := by simp [bc]; omega
  have f1 : bc (X.take k ++ 0 :: List.replicate (m - (k + 1)) 0) = bc (X.take k) ++ .int .u8 0 :: bc (List.replicate (m - (k + 1)) 0) := by simp [bc]
  rw [e1, List.getElem?_toArray, f1, List.getElem?_append_right (by omega), hl, Nat.sub_self]
  rfl
theorem lz_zero (X : List UInt8) (n : Nat) : (hsc (List.replicate n zh)).toArray = (bc (lz X (32 * n) 0)).toArray := by
  congr 1
  have e : lz X (32 * n) 0 = List.replicate (32 * n) 0 := by unfold lz; simp
  rw [e]
  induction n with
  | zero => rfl
  | succ n ih =>
    rw [List.replicate_succ, show 32 * (n + 1) = 32 + 32 * n by omega, ← List.replicate_append_replicate]
    have h1 : hsc (zh :: List.replicate n zh) = (hbs zh).toList ++ hsc (List.replicate n zh) := by simp [hsc]; exact hbs_bc.symm
    have h2 : bc (List.replicate 32 0 ++ List.replicate (32 * n) 0) = bc (List.replicate 32 0) ++ bc (List.replicate (32 * n) 0) := by simp [bc]
    rw [h1, h2, ih (by unfold lz; simp), ← hbs_bc]
/-- A row of hashes out of bytes that lie in one block. -/
theorem hss_bc {w : World} {g n : Nat} {X : List UInt8} {f : Nat × Nat} (h : X.length = 32 * n) (hb : w.heap[g]? = some (.cells (bc X).toArray 96 f)) : Hss w (.slice (some ⟨g, 0, none⟩) n n) (chs X n) := by
  refine ⟨some ⟨g, 0, none⟩, n, by rw [chs_len], fun k x hk => ⟨g, 0, rfl, fun j hj => ?_⟩⟩
  have hkn : k < n := by have := (List.getElem?_eq_some_iff.1 hk).1; rwa [chs_len] at this
  rw [chs_at X hkn] at hk
  obtain rfl := Option.some.inj hk
  rw [cell_of hb]
  simp only [Nat.zero_add, List.getElem?_toArray]
  unfold hbs bc
  simp [List.getElem?_map, List.getElem?_take, List.getElem?_drop, hj, Nat.mul_comm]
set_option maxRecDepth 100000 in
set_option maxHeartbeats 1000000 in
theorem rdec_yes (s : ByteArray) (n : Nat) (h1 : 1 ≤ n) (h2 : n ≤ 256) (hs : s.size = 32 * n) (w : World) :
    Calls Tryz.prog 22 #[.string s, .int .i64 (n : Int)] w fun e w' => ∃ g, e = .returned (.tuple #[.slice (some ⟨g, 0, none⟩) n n, flt 0 0]) ∧ Hss w' (.slice (some ⟨g, 0, none⟩) n n) (chs s.data.toList n) ∧ Nw w w' := by
  have hlen := bytes_len s
  have HC : Hid (∀ k (h : k < s.size), s[k]'h = TX.C s.data.toList k) := fun k h => TX.C_get s k h
  obtain ⟨X, hX⟩ : ∃ X, X = s.data.toList := ⟨_, rfl⟩
  rw [← hX] at HC hlen ⊢
  have HL : Hid (X.length = 32 * n) := by show _ = _; omega
  have d1 : ¬ (n : Int) < 1 := by omega
  have d2 : ¬ (256 : Int) < (n : Int) := by omega
  have d3 : ((s.size : Int) != 32 * (n : Int)) = false := by rw [hs]; simp
  have hmk := make_hsc n (n : Int) rfl (by omega) (w.alloc (.cells #[.int .i64 0, .int .i64 0] 29))
  rw [lz_zero X n] at hmk
  have hsb : s.size ≤ 8192 := by omega
  obtain ⟨m, hm⟩ : ∃ m, m = s.size := ⟨_, rfl⟩
  have HM : Hid (m = 32 * n) := by show _ = _; omega
  have HMS : Hid (s.size = m) := hm.symm
  clear hX hlen hs hm
  go_enter Tryz.func22, Tryz.ntmps22
  go_wp2
  go_loopw [7] (fun v wr => ∃ (k : Nat), k ≤ s.size ∧ v = .int .i64 k ∧ wr.heap[w.heap.size]? = some (.cells #[.int .i64 0, .int .i64 0] 29) ∧ wr.heap[w.heap.size + 1]? = some (.cells (bc (lz X (32 * n) k)).toArray 96) ∧ Nw w wr) (fun v _ => s.size - (intOf v).toNat)
  case atStart =>
    refine ⟨0, by omega, rfl, ?_, ?_, (by repeat first | with_reducible exact Fr.refl _ w | with_reducible refine Fr.alloc ?_ _ | with_reducible refine Fr.drew ?_ | (with_reducible refine Fr.setCell ?_ _ _ (fun h => ?_); rotate_left; focus (simp only at h; omega)))⟩
    · (repeat first | with_reducible exact heap_new _ _ | with_reducible exact heap_new _ _ | with_reducible exact heap_next _ _ _ | with_reducible exact heap_third _ _ _ _ | with_reducible refine hp_dr ?_ | (with_reducible refine hp_ne ?_ ?_; focus omega) | (with_reducible refine hp_al ?_ ?_; focus (first | omega | (simp <;> omega))) | with_reducible apply hp_set) <;> rfl
    · (repeat first | with_reducible exact heap_next _ _ _ | with_reducible exact heap_new _ _ | with_reducible exact heap_next _ _ _ | with_reducible exact heap_third _ _ _ _ | with_reducible refine hp_dr ?_ | (with_reducible refine hp_ne ?_ ?_; focus omega) | (with_reducible refine hp_al ?_ ?_; focus (first | omega | (simp <;> omega))) | with_reducible apply hp_set) <;> rfl
  case round =>
    obtain ⟨k, hk, rfl, hb0, hb1, hnw⟩ := hrel
    have B0 : Hid (wr.heap[w.heap.size]? = some (.cells #[.int .i64 0, .int .i64 0] 29)) := hb0
    have B1 : Hid (wr.heap[w.heap.size + 1]? = some (.cells (bc (lz X (32 * n) k)).toArray 96)) := hb1
    have N1 : Hid (Nw w wr) := hnw
    by_cases hlt : k < s.size
    · have hki : (k : Int) < (s.size : Int) := by omega
      have hck := HC.out k hlt
      have hkm : k < 32 * n := by have := HM.out; have := HMS.out; omega
      have e1 : (k : Int).tdiv 32 = ((k / 32 : Nat) : Int) := by rw [Int.tdiv_eq_ediv_of_nonneg (by omega)]; omega
      have e2 : (k : Int).tmod 32 = ((k % 32 : Nat) : Int) := by rw [Int.tmod_eq_emod_of_nonneg (by omega)]; omega
      have e3 : ((k / 32 : Nat) : Int) < (n : Int) := by omega
      have e4 : ((k % 32 : Nat) : Int) < 32 := by omega
      have ek : k / 32 * 32 + k % 32 = k := by omega
      have z1 : wr.frozen? ⟨w.heap.size + 1, k / 32 * 32 + k % 32, none⟩ = false := by rw [ek]; exact frozen_of hb1 k
      have c1 : wr.cell? ⟨w.heap.size + 1, k / 32 * 32 + k % 32, none⟩ = some (.int .u8 0) := by rw [ek, cell_of hb1]; exact lz_at X _ k HL.out hkm
      have l1 := heap_lt hb1
      have EK : Hid (k / 32 * 32 + k % 32 = k) := ek
      clear hb0 hb1 hnw ek
      go_wp2
      go_region
      all_goals
        go_wp2
        rw [show k / 32 * 32 + k % 32 = k from EK.out]
        refine ⟨⟨k + 1, by omega, by go_num, ?_, ?_, ?_⟩, by simp [intOf]; omega⟩
        · (repeat first | with_reducible exact B0.out | with_reducible exact heap_new _ _ | with_reducible exact heap_next _ _ _ | with_reducible exact heap_third _ _ _ _ | with_reducible refine hp_dr ?_ | (with_reducible refine hp_ne ?_ ?_; focus omega) | (with_reducible refine hp_al ?_ ?_; focus (first | omega | (simp <;> omega))) | with_reducible apply hp_set) <;> rfl
        · exact hp_dr (hp_set B1.out (lz_set X _ k HL.out hkm))
        · exact (by repeat first | with_reducible exact N1.out | with_reducible refine Fr.alloc ?_ _ | with_reducible refine Fr.drew ?_ | (with_reducible refine Fr.setCell ?_ _ _ (fun h => ?_); rotate_left; focus (simp only at h; omega)))
    · obtain rfl : k = s.size := by omega
      have hki : ¬ (s.size : Int) < (s.size : Int) := by omega
      have hf := B1.out
      rw [show s.size = 32 * n by rw [HMS.out, HM.out], lz_end X _ HL.out] at hf
      have HF : Hid (wr.heap[w.heap.size + 1]? = some (.cells (bc X).toArray 96)) := hf
      have b1 := B0.out
      have n1 := N1.out
      obtain ⟨z0, z1⟩ : _ ∧ _ := ⟨frozen_of b1 0, frozen_of b1 1⟩
      have y0 := (cell_of b1 0)
      have y1 := (cell_of b1 1)
      clear hf hb0 hb1 hnw
      go_wp2
      refine bodyPost_ret (res_slot_cell (V := #[.int .i64 0, .int .i64 0]) (ty := 29) (f := (0, 0)) Tryz.results22 Tryz.isAgg29 Tryz.sizeOf29 rfl _ rfl ?_ rfl) rfl ⟨w.heap.size + 1, rfl, ?_, (by repeat first | with_reducible exact n1 | with_reducible refine Fr.alloc ?_ _ | with_reducible refine Fr.drew ?_ | (with_reducible refine Fr.setCell ?_ _ _ (fun h => ?_); rotate_left; focus (simp only at h; omega)))⟩
      · (repeat first | with_reducible exact b1 | with_reducible exact heap_new _ _ | with_reducible exact heap_next _ _ _ | with_reducible exact heap_third _ _ _ _ | with_reducible refine hp_dr ?_ | (with_reducible refine hp_ne ?_ ?_; focus omega) | (with_reducible refine hp_al ?_ ?_; focus (first | omega | (simp <;> omega))) | with_reducible apply hp_set) <;> rfl
      · exact hss_bc HL.out (by (repeat first | with_reducible exact HF.out | with_reducible exact heap_new _ _ | with_reducible exact heap_next _ _ _ | with_reducible exact heap_third _ _ _ _ | with_reducible refine hp_dr ?_ | (with_reducible refine hp_ne ?_ ?_; focus omega) | (with_reducible refine hp_al ?_ ?_; focus (first | omega | (simp <;> omega))) | with_reducible apply hp_set) <;> rfl)
set_option maxHeartbeats 1000000 in
theorem rdec_low (s : ByteArray) (W : Int) (h : W < 1) (w : World) :
    Calls Tryz.prog 22 #[.string s, .int .i64 W] w fun e w' => e = .returned (.tuple #[.slice none 0 0, flt 2 (-1)]) ∧ Nw w w' := by
  have QP : Hid (∀ V, Calls Tryz.prog 27 #[.int .i64 2] V fun e w' => e = .returned (.agg #[.int .i64 2, .int .i64 (-1)]) ∧ Nw V w') := fun V => plain_any 2 V (by decide)
  go_enter Tryz.func22, Tryz.ntmps22
  go_wp2_with fail
  refine (QP.out _).mono ?_
  rintro e w1 ⟨rfl, n1⟩
  obtain ⟨l0, b1, n4⟩ := one_made n1
  obtain ⟨z0, z1⟩ : _ ∧ _ := ⟨frozen_of b1 0, frozen_of b1 1⟩
  have y0 := (cell_of b1 0)
  have y1 := (cell_of b1 1)
  clear n1
  go_wp2
  refine bodyPost_ret (res_slot_cell (V := #[.int .i64 2, .int .i64 (-1)]) (ty := 29) (f := (0, 0)) Tryz.results22 Tryz.isAgg29 Tryz.sizeOf29 rfl _ rfl ?_ rfl) rfl ⟨rfl, (by repeat first | with_reducible exact n4 | with_reducible refine Fr.alloc ?_ _ | with_reducible refine Fr.drew ?_ | (with_reducible refine Fr.setCell ?_ _ _ (fun h => ?_); rotate_left; focus (simp only at h; omega)))⟩
  (repeat first | with_reducible exact b1 | with_reducible exact heap_new _ _ | with_reducible exact heap_next _ _ _ | with_reducible exact heap_third _ _ _ _ | with_reducible refine hp_dr ?_ | (with_reducible refine hp_ne ?_ ?_; focus omega) | (with_reducible refine hp_al ?_ ?_; focus (first | omega | (simp <;> omega))) | with_reducible apply hp_set) <;> rfl
set_option maxHeartbeats 1000000 in
theorem rdec_wide (s : ByteArray) (W : Int) (h : 256 < W) (w : World) :
    Calls Tryz.prog 22 #[.string s, .int .i64 W] w fun e w' => e = .returned (.tuple #[.slice none 0 0, flt 2 (-1)]) ∧ Nw w w' := by
  have QP : Hid (∀ V, Calls Tryz.prog 27 #[.int .i64 2] V fun e w' => e = .returned (.agg #[.int .i64 2, .int .i64 (-1)]) ∧ Nw V w') := fun V => plain_any 2 V (by decide)
  have h1 : ¬ W < 1 := by omega
  go_enter Tryz.func22, Tryz.ntmps22
  go_wp2_with fail
  refine (QP.out _).mono ?_
  rintro e w1 ⟨rfl, n1⟩
  obtain ⟨l0, b1, n4⟩ := one_made n1
  obtain ⟨z0, z1⟩ : _ ∧ _ := ⟨frozen_of b1 0, frozen_of b1 1⟩
  have y0 := (cell_of b1 0)
  have y1 := (cell_of b1 1)
  clear n1
  go_wp2
  refine bodyPost_ret (res_slot_cell (V := #[.int .i64 2, .int .i64 (-1)]) (ty := 29) (f := (0, 0)) Tryz.results22 Tryz.isAgg29 Tryz.sizeOf29 rfl _ rfl ?_ rfl) rfl ⟨rfl, (by repeat first | with_reducible exact n4 | with_reducible refine Fr.alloc ?_ _ | with_reducible refine Fr.drew ?_ | (with_reducible refine Fr.setCell ?_ _ _ (fun h => ?_); rotate_left; focus (simp only at h; omega)))⟩
  (repeat first | with_reducible exact b1 | with_reducible exact heap_new _ _ | with_reducible exact heap_next _ _ _ | with_reducible exact heap_third _ _ _ _ | with_reducible refine hp_dr ?_ | (with_reducible refine hp_ne ?_ ?_; focus omega) | (with_reducible refine hp_al ?_ ?_; focus (first | omega | (simp <;> omega))) | with_reducible apply hp_set) <;> rfl
set_option maxHeartbeats 1000000 in
theorem rdec_in (s : ByteArray) (W : Int) (h1 : 1 ≤ W) (h2 : W ≤ 256) (h : (s.size : Int) ≠ 32 * W) (w : World) :
    Calls Tryz.prog 22 #[.string s, .int .i64 W] w fun e w' => e = .returned (.tuple #[.slice none 0 0, flt 3 (-1)]) ∧ Nw w w' := by
  have QP : Hid (∀ V, Calls Tryz.prog 27 #[.int .i64 3] V fun e w' => e = .returned (.agg #[.int .i64 3, .int .i64 (-1)]) ∧ Nw V w') := fun V => plain_any 3 V (by decide)
  have d1 : ¬ W < 1 := by omega
  have d2 : ¬ 256 < W := by omega
  have d3 : ((s.size : Int) != 32 * W) = true := by simpa using h
  have d4 : 32 * W ≤ 8192 := by omega
  clear h
  go_enter Tryz.func22, Tryz.ntmps22
  go_wp2_with fail
  refine (QP.out _).mono ?_
  rintro e w1 ⟨rfl, n1⟩
  obtain ⟨l0, b1, n4⟩ := one_made n1
  obtain ⟨z0, z1⟩ : _ ∧ _ := ⟨frozen_of b1 0, frozen_of b1 1⟩
  have y0 := (cell_of b1 0)
  have y1 := (cell_of b1 1)
  clear n1
  go_wp2
  refine bodyPost_ret (res_slot_cell (V := #[.int .i64 3, .int .i64 (-1)]) (ty := 29) (f := (0, 0)) Tryz.results22 Tryz.isAgg29 Tryz.sizeOf29 rfl _ rfl ?_ rfl) rfl ⟨rfl, (by repeat first | with_reducible exact n4 | with_reducible refine Fr.alloc ?_ _ | with_reducible refine Fr.drew ?_ | (with_reducible refine Fr.setCell ?_ _ _ (fun h => ?_); rotate_left; focus (simp only at h; omega)))⟩
  (repeat first | with_reducible exact b1 | with_reducible exact heap_new _ _ | with_reducible exact heap_next _ _ _ | with_reducible exact heap_third _ _ _ _ | with_reducible refine hp_dr ?_ | (with_reducible refine hp_ne ?_ ?_; focus omega) | (with_reducible refine hp_al ?_ ?_; focus (first | omega | (simp <;> omega))) | with_reducible apply hp_set) <;> rfl
end Go.Proofs.YtgobdjdaehlgdaaGreatDoor
