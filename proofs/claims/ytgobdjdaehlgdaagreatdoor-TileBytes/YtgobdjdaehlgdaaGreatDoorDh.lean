/- tile: the document's Encode. -/
import Derived.Test.YtgobdjdaehlgdaaGreatDoorDg
import Derived.Test.YtgobdjdaehlgdaaGreatDoorVg
namespace Go.Proofs.YtgobdjdaehlgdaaGreatDoor
open Go.RowKit
open Go.Lib (decDigits nDigits)
set_option linter.unusedVariables false
set_option linter.unusedSimpArgs false
set_option maxRecDepth 100000 in
set_option maxHeartbeats 1000000 in
theorem rbytes_any (A : List UInt8) (hA : A.length = 32) (w : World) :
    Calls Tryz.prog 88 #[.agg (hbs A)] w fun e w' => e = .returned (.string ⟨A.toArray⟩) ∧ Nw w w' := by
  have Q : Hid (∀ V, Calls Tryz.prog 133 #[.agg (hbs A)] V fun e w' => e = .returned (.string ⟨A.toArray⟩) ∧ Nw V w') := fun V => Rf.refbytes_any A hA V
  have HA : Hid (A.length = 32) := hA
  obtain ⟨s, hs⟩ : ∃ s, s = (⟨A.toArray⟩ : ByteArray) := ⟨_, rfl⟩
  rw [← hs] at Q ⊢
  clear hs hA
  go_enter Tryz.func88, Tryz.ntmps88
  go_wp2_with (refine wpl_load rfl (.tmp 1) rfl w.heap.size 0 rfl A HA.out (hash_cells (heap_new _ _)) ?_)
  refine (Q.out _).mono ?_
  rintro e w1 ⟨rfl, n1⟩
  go_wp2
  go_ret
  exact ⟨rfl, (nwa w _).tr n1⟩
set_option maxRecDepth 100000 in
set_option maxHeartbeats 1000000 in
theorem renc_yes (L : List (List UInt8)) (h32 : ∀ x ∈ L, x.length = 32) (h1 : 1 ≤ L.length) (h2 : L.length ≤ 256) (ad : Option Addr) (c : Nat) (w : World) (hs : Hss w (.slice ad L.length c) L) :
    Calls Tryz.prog 20 #[.slice ad L.length c] w fun e w' => e = .returned (.tuple #[.string ⟨(fltH L).toArray⟩, flt 0 0]) ∧ Nw w w' := by
  obtain ⟨n, hn⟩ : ∃ n, n = L.length := ⟨_, rfl⟩
  have Hn : Hid (L.length = n) := hn.symm
  have HS : Hid (Hss w (.slice ad n c) L) := by rw [hn]; exact hs
  have H32 : Hid (∀ x ∈ L, x.length = 32) := h32
  rw [← hn] at h1 h2 ⊢
  clear hn hs h32
  have d1 : ¬ (n : Int) < 1 := by omega
  have d2 : ¬ (256 : Int) < (n : Int) := by omega
  have QB : Hid (∀ (x : List UInt8) (V : World), x.length = 32 → Calls Tryz.prog 88 #[.agg (hbs x)] V fun e w' => e = .returned (.string ⟨x.toArray⟩) ∧ Nw V w') := fun x V hx => rbytes_any x hx V
  go_enter Tryz.func20, Tryz.ntmps20
  go_wp2
  go_loopw [4, 5] (fun u v wr => ∃ (k : Nat) (y : ByteArray), k ≤ n ∧ v = .int .i64 k ∧ u = .string y ∧ y.data.toList = fltH (L.take k) ∧ y.size = 32 * k ∧ wr.heap[w.heap.size]? = some (.cells #[.int .i64 0, .int .i64 0] 29) ∧ Nw w wr) (fun _ v _ => n - (intOf v).toNat)
  case atStart => exact ⟨0, ⟨#[]⟩, by omega, rfl, rfl, rfl, rfl, heap_new _ _, nwa w _⟩
  case round =>
    obtain ⟨k, y, hk, rfl, rfl, hy, hys, hb, hnw⟩ := hrel
    have HY : Hid (y.data.toList = fltH (L.take k)) := hy
    have HB : Hid (wr.heap[w.heap.size]? = some (.cells #[.int .i64 0, .int .i64 0] 29)) := hb
    have HN : Hid (Nw w wr) := hnw
    clear hy hb hnw
    by_cases hlt : k < n
    · obtain ⟨x, hx⟩ : ∃ x, L[k]? = some x := ⟨_, List.getElem?_eq_getElem (by rw [Hn.out]; exact hlt)⟩
      have X32 : Hid (x.length = 32) := H32.out x (List.mem_of_getElem? hx)
      obtain ⟨p, off, e, hc⟩ := (HS.out.nw H32.out HN.out).atT hx
      subst e
      have HC : Hid (∀ j, j < 32 → wr.cell? ⟨p, off + k * 32 + j, none⟩ = (hbs x)[j]?) := hc
      have HX : Hid (fltH (L.take (k + 1)) = fltH (L.take k) ++ x) := fltH_snoc L k x hx
      have hki : (k : Int) < (n : Int) := by omega
      have q := QB.out x wr X32.out
      obtain ⟨z, hz⟩ : ∃ z, z = (⟨x.toArray⟩ : ByteArray) := ⟨_, rfl⟩
      have HZ : Hid (z.data.toList = x) := by show _ = _; rw [hz]
      have hzs : z.size = 32 := by rw [hz, bxs, X32.out]
      have hkb : k ≤ 256 := by omega
      have hyb : y.size ≤ 8192 := by omega
      rw [← hz] at q
      clear hx hc hz
      go_wp2_with (refine wpl_load rfl (.tmp 24) rfl p (off + k * 32) rfl x X32.out HC.out ?_)
      refine q.mono ?_
      rintro e w4 ⟨rfl, n4⟩
      go_wp2
      refine ⟨⟨k + 1, y ++ z, by omega, by go_num, rfl, ?_, ?_, (n4.block _ (heap_lt HB.out) (fun f => f)).trans HB.out, HN.out.tr n4⟩, by simp [intOf]; omega⟩
      · rw [app_list, HY.out, HZ.out, HX.out]
      · rw [ByteArray.size_append, hys, hzs]; omega
    · obtain rfl : k = n := by omega
      have hki : ¬ (k : Int) < (k : Int) := by omega
      have HF : Hid (y = ⟨(fltH L).toArray⟩) := bx_of (by rw [HY.out, show L.take k = L by rw [← Hn.out]; exact List.take_length])
      have b1 := HB.out
      have n1 := HN.out
      obtain ⟨z0, z1⟩ : _ ∧ _ := ⟨frozen_of b1 0, frozen_of b1 1⟩
      have y0 := (cell_of b1 0)
      have y1 := (cell_of b1 1)
      go_wp2
      refine bodyPost_ret (res_slot_cell (V := #[.int .i64 0, .int .i64 0]) (ty := 29) (f := (0, 0)) Tryz.results20 Tryz.isAgg29 Tryz.sizeOf29 rfl _ rfl ?_ rfl) rfl ⟨by rw [← HF.out]; rfl, (by repeat first | with_reducible exact n1 | with_reducible refine Fr.alloc ?_ _ | with_reducible refine Fr.drew ?_ | (with_reducible refine Fr.setCell ?_ _ _ (fun h => ?_); rotate_left; focus (simp only at h; omega)))⟩
      (repeat first | with_reducible exact b1 | with_reducible exact heap_new _ _ | with_reducible exact heap_next _ _ _ | with_reducible exact heap_third _ _ _ _ | with_reducible refine hp_dr ?_ | (with_reducible refine hp_ne ?_ ?_; focus omega) | (with_reducible refine hp_al ?_ ?_; focus (first | omega | (simp <;> omega))) | with_reducible apply hp_set) <;> rfl
set_option maxHeartbeats 1000000 in
theorem renc_arg (p : Option Addr) (n c : Nat) (h : n < 1 ∨ 256 < n) (w : World) :
    Calls Tryz.prog 20 #[.slice p n c] w fun e w' => e = .returned (.tuple #[.string ⟨#[]⟩, flt 2 (-1)]) ∧ Nw w w' := by
  have QP : Hid (∀ V, Calls Tryz.prog 27 #[.int .i64 2] V fun e w' => e = .returned (.agg #[.int .i64 2, .int .i64 (-1)]) ∧ Nw V w') := fun V => plain_any 2 V (by decide)
  rcases h with h | h
  · have h1 : (n : Int) < 1 := by omega
    go_enter Tryz.func20, Tryz.ntmps20
    go_wp2_with fail
    refine (QP.out _).mono ?_
    rintro e w1 ⟨rfl, n1⟩
    obtain ⟨l0, b1, n4⟩ := one_made n1
    obtain ⟨z0, z1⟩ : _ ∧ _ := ⟨frozen_of b1 0, frozen_of b1 1⟩
    have y0 := (cell_of b1 0)
    have y1 := (cell_of b1 1)
    clear n1
    go_wp2
    refine bodyPost_ret (res_slot_cell (V := #[.int .i64 2, .int .i64 (-1)]) (ty := 29) (f := (0, 0)) Tryz.results20 Tryz.isAgg29 Tryz.sizeOf29 rfl _ rfl ?_ rfl) rfl ⟨rfl, (by repeat first | with_reducible exact n4 | with_reducible refine Fr.alloc ?_ _ | with_reducible refine Fr.drew ?_ | (with_reducible refine Fr.setCell ?_ _ _ (fun h => ?_); rotate_left; focus (simp only at h; omega)))⟩
    (repeat first | with_reducible exact b1 | with_reducible exact heap_new _ _ | with_reducible exact heap_next _ _ _ | with_reducible exact heap_third _ _ _ _ | with_reducible refine hp_dr ?_ | (with_reducible refine hp_ne ?_ ?_; focus omega) | (with_reducible refine hp_al ?_ ?_; focus (first | omega | (simp <;> omega))) | with_reducible apply hp_set) <;> rfl
  · have h1 : ¬ (n : Int) < 1 := by omega
    have h2 : (256 : Int) < (n : Int) := by omega
    go_enter Tryz.func20, Tryz.ntmps20
    go_wp2_with fail
    refine (QP.out _).mono ?_
    rintro e w1 ⟨rfl, n1⟩
    obtain ⟨l0, b1, n4⟩ := one_made n1
    obtain ⟨z0, z1⟩ : _ ∧ _ := ⟨frozen_of b1 0, frozen_of b1 1⟩
    have y0 := (cell_of b1 0)
    have y1 := (cell_of b1 1)
    clear n1
    go_wp2
    refine bodyPost_ret (res_slot_cell (V := #[.int .i64 2, .int .i64 (-1)]) (ty := 29) (f := (0, 0)) Tryz.results20 Tryz.isAgg29 Tryz.sizeOf29 rfl _ rfl ?_ rfl) rfl ⟨rfl, (by repeat first | with_reducible exact n4 | with_reducible refine Fr.alloc ?_ _ | with_reducible refine Fr.drew ?_ | (with_reducible refine Fr.setCell ?_ _ _ (fun h => ?_); rotate_left; focus (simp only at h; omega)))⟩
    (repeat first | with_reducible exact b1 | with_reducible exact heap_new _ _ | with_reducible exact heap_next _ _ _ | with_reducible exact heap_third _ _ _ _ | with_reducible refine hp_dr ?_ | (with_reducible refine hp_ne ?_ ?_; focus omega) | (with_reducible refine hp_al ?_ ?_; focus (first | omega | (simp <;> omega))) | with_reducible apply hp_set) <;> rfl
end Go.Proofs.YtgobdjdaehlgdaaGreatDoor
