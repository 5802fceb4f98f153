/- emit: find. -/
import Derived.Test.YtkjonddlmiedcaaDoorZ6
import Derived.Test.YtkjonddlmiedcaaDoorY10
import Derived.Test.YtkjonddlmiedcaaDoorTh
namespace Go.Proofs.YtkjonddlmiedcaaDoor
open Go.RowKit
set_option linter.unusedVariables false
set_option linter.unusedSimpArgs false
theorem first_at : ∀ (l : List Tre) (L I : Nat), (∃ t ∈ l, t.L = L ∧ t.I = I) → ∃ (k : Nat) (t : Tre), l[k]? = some t ∧ t.L = L ∧ t.I = I ∧ ∀ j, j < k → ∀ u : Tre, l[j]? = some u → ¬ (u.L = L ∧ u.I = I)
  | [], L, I, h => by obtain ⟨t, ht, _⟩ := h; simp at ht
  | x :: r, L, I, h => by
    by_cases hx : x.L = L ∧ x.I = I
    · exact ⟨0, x, rfl, hx.1, hx.2, fun j hj => by omega⟩
    · obtain ⟨t, ht, h1⟩ := h
      have ht' : t ∈ r := by
        rcases List.mem_cons.1 ht with e | e
        · exact absurd (e ▸ h1) hx
        · exact e
      obtain ⟨k, u, hk, h2, h3, h4⟩ := first_at r L I ⟨t, ht', h1⟩
      refine ⟨k + 1, u, by simpa using hk, h2, h3, fun j hj v hv => ?_⟩
      cases j with
      | zero => simp at hv; rw [← hv]; exact hx
      | succ j => exact h4 j (by omega) v (by simpa using hv)
theorem Nds.at {w : World} {ad : Option Addr} {n c : Nat} {l : List Tre} (h : Nds w (.slice ad n c) l) {k : Nat} {t : Tre} (hk : l[k]? = some t) : ∃ g off, ad = some ⟨g, off, none⟩ ∧ ∀ j, j < 34 → w.cell? ⟨g, off + k * 34 + j, none⟩ = t.c[j]? := by
  obtain ⟨ad', c', e, h⟩ := h
  cases e
  exact h k t hk
theorem tre_cells {w : World} {g o : Nat} {t : Tre} (h : ∀ j, j < 34 → w.cell? ⟨g, o + j, none⟩ = t.c[j]?) : w.cell? ⟨g, o, none⟩ = some (.int .u8 (t.L : Int)) ∧ w.cell? ⟨g, o + 1, none⟩ = some (.int .u64 (t.I : Int)) ∧ ∀ j, j < 32 → w.cell? ⟨g, o + 2 + j, none⟩ = (hbs t.H)[j]? := by
  refine ⟨?_, ?_, fun j hj => ?_⟩
  · have := h 0 (by omega); rw [Nat.add_zero, t.c0] at this; exact this
  · have := h 1 (by omega); rw [t.c1] at this; exact this
  · have := h (2 + j) (by omega); rw [t.ch, ← Nat.add_assoc] at this; exact this
set_option maxRecDepth 100000 in
set_option maxHeartbeats 2000000 in
theorem find_any (f : Nat → List UInt8) (l : List Tre) (hl : ∀ t ∈ l, t.H = mhE f t.L t.I ∧ t.H.length = 32) (L I : Nat) (hin : (⟨L, I, mhE f L I⟩ : Tre) ∈ l) (hn : l.length ≤ 1000000) (ad : Option Addr) (c n : Nat) (hnl : n = l.length) (w : World) (hN : Nds w (.slice ad n c) l) :
    Calls Tryd.prog 11 #[.slice ad n c, .agg #[.int .u8 (L : Int), .int .u64 (I : Int)]] w fun e w' => e = .returned (.tuple #[.agg (hbs (mhE f L I)), .bool true]) ∧ Nw w w' := by
  obtain ⟨kk, t, hk, hL, hI, hfirst⟩ := first_at l L I ⟨_, hin, rfl, rfl⟩
  have hkl : kk < n := by rw [hnl]; exact (List.getElem?_eq_some_iff.1 hk).1
  have ht := hl t (List.mem_of_getElem? hk)
  have HH : Hid (t.H = mhE f L I) := by show _ = _; rw [ht.1, hL, hI]
  rw [← HH.out]
  have T32 : Hid (t.H.length = 32) := ht.2
  have hTs : (hbs t.H).size = 32 := by rw [hbs_size, T32.out]
  have HN : Hid (Nds w (.slice ad n c) l) := hN
  have HK : Hid (l[kk]? = some t ∧ t.L = L ∧ t.I = I) := ⟨hk, hL, hI⟩
  have HF : Hid (∀ j, j < kk → ∀ u, l[j]? = some u → ¬ (u.L = L ∧ u.I = I)) := hfirst
  have HNL : Hid (n = l.length) := hnl
  have H32 : Hid (∀ x ∈ l, x.H.length = 32) := fun x hx => (hl x hx).2
  rw [← hnl] at hn
  have hOne := hbs_one t.H
  clear hl hin hN hk hL hI hfirst ht hnl HH
  go_enter Tryd.func11, Tryd.ntmps11
  go_upto_region 1 with fail
  rw [z32_h]
  obtain ⟨w1, hw1⟩ : ∃ q, (w.alloc (.cells #[.int .u8 (L : Int), .int .u64 (I : Int)] 36)).alloc (.cells z32 32) = q := ⟨_, rfl⟩
  have n1 : Hid (Nw w w1) := by show Nw w w1; rw [← hw1]; exact (nwa w _).alloc _
  have k0 : Hid (w1.cell? ⟨w.heap.size, 0, none⟩ = some (.int .u8 (L : Int))) := by show _ = _; rw [← hw1]; exact (nwa _ _).cellOf ((cell_of (heap_new _ _) 0).trans rfl)
  have k1 : Hid (w1.cell? ⟨w.heap.size, 1, none⟩ = some (.int .u64 (I : Int))) := by show _ = _; rw [← hw1]; exact (nwa _ _).cellOf ((cell_of (heap_new _ _) 1).trans rfl)
  have kz : Hid (w1.heap[w.heap.size + 1]? = some (.cells z32 32)) := by show _ = _; rw [← hw1]; exact heap_next _ _ _
  rw [hw1]
  clear hw1
  obtain ⟨cb, hcb⟩ : ∃ q, q = w.heap.size := ⟨_, rfl⟩
  rw [← hcb] at k0 k1 kz ⊢
  have HCB : Hid (cb = w.heap.size) := hcb
  clear hcb
  go_wp2
  go_loopw [6] (fun i wr => ∃ k : Nat, k ≤ kk ∧ i = .int .i64 k ∧ Nw w1 wr) (fun i _ => kk + 1 - (intOf i).toNat)
  case atStart => exact ⟨0, by omega, rfl, Fr.refl _ _⟩
  case round =>
    obtain ⟨k, hk, rfl, hnw⟩ := hrel
    have NR : Hid (Nw w1 wr) := hnw
    have hkn : (k : Int) < (n : Int) := by omega
    obtain ⟨u, hu⟩ : ∃ u, l[k]? = some u := ⟨_, List.getElem?_eq_getElem (by rw [← HNL.out]; omega)⟩
    obtain ⟨g, off, e, hc⟩ := ((HN.out.nw H32.out n1.out).nw H32.out hnw).at hu
    subst e
    obtain ⟨d0, d1, dh⟩ := tre_cells hc
    have DH : Hid (∀ j, j < 32 → wr.cell? ⟨g, off + k * 34 + 2 + j, none⟩ = (hbs u.H)[j]?) := dh
    have z0 := hnw.cellOf k0.out
    have z1 := hnw.cellOf k1.out
    clear hc dh
    by_cases hkk : k = kk
    · obtain ⟨q1, q2, q3⟩ := HK.out
      rw [hkk, q1] at hu
      cases hu
      rw [q2] at d0
      rw [q3] at d1
      have HKE : Hid (k = kk) := hkk
      clear q1 q2 q3 hkk
      go_wp2_with fail
      go_quiet (fail)
      obtain ⟨wd, hwd⟩ : ∃ q, q = wr.drewN nq := ⟨_, rfl⟩
      have nd : Nw wr wd := by rw [hwd]; exact (Fr.refl _ _).drewN _
      rw [← hwd]
      have b2 : wd.heap[cb + 1]? = some (.cells z32 32) := (nd.block _ (heap_lt ((NR.out.block _ (heap_lt kz.out) (fun f => f)).trans kz.out)) (fun f => f)).trans ((NR.out.block _ (heap_lt kz.out) (fun f => f)).trans kz.out)
      have DH2 : Hid (∀ j, j < 32 → wd.cell? ⟨g, off + k * 34 + 2 + j, none⟩ = (hbs t.H)[j]?) := fun j hj => by
        have h1 := DH.out j hj
        obtain ⟨x, hx⟩ : ∃ x, (hbs t.H)[j]? = some x := ⟨_, Array.getElem?_eq_getElem (by rw [hTs]; exact hj)⟩
        rw [hx] at h1 ⊢
        exact nd.cellOf h1
      have NN : Hid (Nw w wd) := (n1.out.tr NR.out).tr nd
      clear hwd nd DH NR hnw d0 d1 z0 z1
      go_wp2_with (first
        | (refine wpl_load rfl (.tmp 23) rfl g (off + k * 34 + 2) rfl t.H T32.out DH2.out ?_)
        | (refine wp_store_agg rfl (.tmp 4) (.tmp 24) 32 32 rfl Tryd.sizeOf32 (cb + 1) 0 rfl z32 32 b2 (hbs t.H) rfl hTs hOne (by decide) (hbs t.H) (by rw [z32_drop]; simp) ?_; intro w3 j3 f3 z3)
        | fail)
      exact bodyPost_ret (results_cell_slot Tryd.results11 Tryd.isAgg32 Tryd.sizeOf32 rfl _ rfl j3 hTs) rfl ⟨rfl, NN.out.trans f3 (fun k hk q => by have := HCB.out; omega)⟩
    · have hkl : k < kk := by omega
      have hne := HF.out k hkl u hu
      have HU : Hid (l[k]? = some u) := hu
      obtain ⟨a1, ha1⟩ : ∃ x, x = u.L := ⟨_, rfl⟩
      obtain ⟨a2, ha2⟩ : ∃ x, x = u.I := ⟨_, rfl⟩
      rw [← ha1, ← ha2] at hne
      rw [← ha1] at d0
      rw [← ha2] at d1
      clear hu DH ha1 ha2 hkk
      by_cases hL : a1 = L
      · have hI : a2 ≠ I := fun e => hne ⟨hL, e⟩
        subst hL
        have q1 : ((a2 : Int) == (I : Int)) = false := by simp only [beq_eq_false_iff_ne]; omega
        have q2 : decide ((a2 : Int) = (I : Int)) = false := decide_eq_false (by omega)
        have q3 : ¬ (a2 : Int) = (I : Int) := by omega
        have q4 : (a2 == I) = false := by simp only [beq_eq_false_iff_ne]; omega
        clear hne hI
        go_wp2_with fail
        go_quiet (fail)
        go_wp2
        exact ⟨⟨k + 1, by omega, by go_num, NR.out.drewN _⟩, by simp [intOf]; omega⟩
      · have q1 : ((a1 : Int) == (L : Int)) = false := by simp only [beq_eq_false_iff_ne]; omega
        have q2 : decide ((a1 : Int) = (L : Int)) = false := decide_eq_false (by omega)
        have q3 : ¬ (a1 : Int) = (L : Int) := by omega
        have q4 : (a1 == L) = false := by simp only [beq_eq_false_iff_ne]; omega
        clear hne hL
        go_wp2_with fail
        go_quiet (fail)
        go_wp2
        exact ⟨⟨k + 1, by omega, by go_num, NR.out.drewN _⟩, by simp [intOf]; omega⟩
end Go.Proofs.YtkjonddlmiedcaaDoor
