/- A Book looks whether all its rows are as it filled and grew them. -/
import Derived.Test.YtgdjoaiahigjpaaGreatDoorIx5
import Derived.Test.YtgdjoaiahigjpaaGreatDoorGq
namespace Go.Proofs.YtgdjoaiahigjpaaGreatDoor
namespace IB
open Go.RowKit
set_option linter.unusedVariables false
set_option linter.unusedSimpArgs false

theorem mks_at {w : World} {base n m : Nat} {g cap : Nat} (h : w.ownsRow base 3 1 (.slice (some ⟨g, 0, none⟩) n cap) n (mks n m)) (j : Nat) (hj : j < n) : w.cell? ⟨g, j, none⟩ = some (mkt m) := by
  obtain ⟨cur, hh, hat⟩ := own_block h
  exact (cell_of hh _).trans (hat j (mkt m) (by rw [List.getElem?_replicate, if_pos hj]))
theorem own_there {w : World} {base n m : Nat} {a : Option Addr} {cap : Nat} (h : w.ownsRow base 3 1 (.slice a n cap) n (mks n m)) (hn : 0 < n) : ∃ g, a = some ⟨g, 0, none⟩ := by
  rcases h.2 with ⟨e, h0⟩ | ⟨g, c, cur, e, _⟩
  · omega
  · cases e; exact ⟨g, rfl⟩

set_option maxRecDepth 100000 in
set_option maxHeartbeats 4000000 in
theorem look_any (B0 bk N gl vc : Nat) (H : List Held) (L : Nat → Nat) (w : World) (hB : Bk w bk N (.slice (some ⟨gl, 0, none⟩) H.length vc) H) (hR : Rws w B0 bk H (fun i => List.replicate (L i) (mkt (num H i)))) (hLg : Lg w B0 bk gl H L H.length) (hH : H.length ≤ 100) (hX : ∀ i, L i ≤ 2000000) (hn : ∀ i, num H i ≤ 100) (hP : ∀ W, Nw w W → Pow W) :
    Calls Tryz.prog 64 #[.pointer (some ⟨bk, 0, none⟩)] w fun e w' => e = .returned (.bool true) ∧ Nw w w' := by
  have HB : Hid (Bk w bk N (.slice (some ⟨gl, 0, none⟩) H.length vc) H) := hB
  have HR : Hid (Rws w B0 bk H (fun i => List.replicate (L i) (mkt (num H i)))) := hR
  have HLg : Hid (Lg w B0 bk gl H L H.length) := hLg
  have HX : Hid (∀ i, L i ≤ 2000000) := hX
  have HN : Hid (∀ i, num H i ≤ 100) := hn
  have HPW : Hid (∀ W, Nw w W → Pow W) := hP
  clear hB hR hX hn hLg hP
  go_enter Tryz.func64, Tryz.ntmps64
  go_wp2
  go_loopw [3] (fun i wr => ∃ k : Nat, k ≤ H.length ∧ i = .int .i64 k ∧ Nw w wr) (fun i _ => H.length - (intOf i).toNat)
  case atStart => exact ⟨0, by omega, rfl, nwr w⟩
  case round =>
    obtain ⟨k, hk, rfl, hnw⟩ := hrel
    have c6 : wr.cell? ⟨bk, 1, none⟩ = some (.slice (some ⟨gl, 0, none⟩) H.length vc) := hnw.cellOf ((cell_of HB.out.blk 1).trans rfl)
    have HNW : Hid (Nw w wr) := hnw
    clear hnw
    by_cases hlt : k < H.length
    · obtain ⟨t, ht⟩ : ∃ t, H[k]? = some t := ⟨_, List.getElem?_eq_getElem hlt⟩
      obtain ⟨g, cap, hv, hg1, hg2, d0, d1, d2⟩ := HB.out.cells k t ht
      cases hv
      obtain ⟨h1, h2, m⟩ := t
      simp only at d0 d1 d2
      have hki : (k : Int) < (H.length : Int) := by omega
      have own0 := HR.out.own k _ ht
      obtain ⟨own1, _⟩ := HLg.out k _ hlt ht
      simp only [List.length_replicate, num_at ht] at own0 own1
      have hm : m ≤ 100 := by have := HN.out k; rw [num_at ht] at this; exact this
      obtain ⟨lx, hlx⟩ : ∃ l, l = L k := ⟨_, rfl⟩
      have hl1 : lx ≤ 2000000 := by rw [hlx]; exact HX.out k
      obtain ⟨ra, rc, rfl⟩ := ownsRow_form own0
      obtain ⟨la, lc, rfl⟩ := ownsRow_form own1
      obtain ⟨p, rfl⟩ := own_there own1 (by omega)
      rw [← hlx] at own0 own1 d0 d1
      have HO0 : Hid (w.ownsRow B0 3 1 (.slice ra lx rc) lx (mks lx m)) := own0
      have HO1 : Hid (w.ownsRow B0 3 1 (.slice (some ⟨p, 0, none⟩) (lx + 70) lc) (lx + 70) (mks (lx + 70) m)) := own1
      clear own0 own1 ht hlx
      replace d0 := HNW.out.cellOf d0
      replace d1 := HNW.out.cellOf d1
      replace d2 := HNW.out.cellOf d2
      go_wp2
      obtain ⟨w1, hw1⟩ : ∃ w1, wr.alloc (.cells #[.slice ra lx rc, .slice (some ⟨p, 0, none⟩) (lx + 70) lc, .int .i64 (m : Int)] 94) = w1 := ⟨_, rfl⟩
      have n1 : Nw w w1 := by rw [← hw1]; exact HNW.out.alloc _
      have k1 : w1.heap[wr.heap.size]? = some (.cells #[.slice ra lx rc, .slice (some ⟨p, 0, none⟩) (lx + 70) lc, .int .i64 (m : Int)] 94) := by rw [← hw1]; exact heap_new _ _
      rw [hw1]
      obtain ⟨hb, hhb⟩ : ∃ b, b = wr.heap.size := ⟨_, rfl⟩
      rw [← hhb] at k1 ⊢
      have HN1 : Hid (Nw w w1) := n1
      have HK1 := show Hid _ from k1
      clear hw1 hhb d0 d1 d2 c6 n1 k1
      go_loopw [5] (fun i w2 => ∃ j : Nat, j ≤ lx + 70 ∧ i = .int .i64 j ∧ Nw w1 w2) (fun i _ => lx + 70 - (intOf i).toNat)
      case atStart => exact ⟨0, by omega, rfl, nwr w1⟩
      case round =>
        obtain ⟨j, hj, rfl, hn2⟩ := hrel
        have k2 := (hn2.block hb (heap_lt HK1.out) (fun f => f)).trans HK1.out
        have e1 : wr.cell? ⟨hb, 1, none⟩ = some (.slice (some ⟨p, 0, none⟩) (lx + 70) lc) := (cell_of k2 1).trans rfl
        have HE0 : Hid (wr.cell? ⟨hb, 0, none⟩ = some (.slice ra lx rc)) := (cell_of k2 0).trans rfl
        have HE1 : Hid (wr.cell? ⟨hb, 1, none⟩ = some (.slice (some ⟨p, 0, none⟩) (lx + 70) lc)) := e1
        have HE2 : Hid (wr.cell? ⟨hb, 2, none⟩ = some (.int .i64 (m : Int))) := (cell_of k2 2).trans rfl
        have HN2 : Hid (Nw w1 wr) := hn2
        clear k2 hn2
        by_cases hjl : j < lx + 70
        · have hji : (j : Int) < (lx : Int) + 70 := by omega
          have qc : ∀ W, Nw wr W → Calls Tryz.prog 100 #[mkt m, .int .i64 (m : Int)] W fun e w' => e = .returned (.bool true) ∧ Nw W w' := fun W nW => is_mark m hm W (HPW.out W (HN1.out.tr (HN2.out.tr nW)))
          have HA := show Hid _ from mks_at HO1.out j hjl
          go_wp2
          clear e1
          haveI : Nonempty (Grw wr) := ⟨⟨wr, nwr wr⟩⟩
          have hex := fun x : Grw wr => (⟨x, rfl⟩ : ∃ y : Grw wr, x.val = y.val)
          have z0 := fun x : Grw wr => x.nw.cellOf HE0.out
          have z1 := fun x : Grw wr => x.nw.cellOf HE1.out
          have z2 := fun x : Grw wr => x.nw.cellOf HE2.out
          have z3 := fun x : Grw wr => x.nw.cellOf (HN2.out.cellOf (HN1.out.cellOf HA.out))
          by_cases hjx : j < lx
          · obtain ⟨p0, rfl⟩ := own_there HO0.out (by omega)
            have HA0 := show Hid _ from mks_at HO0.out j hjx
            have z5 := fun x : Grw wr => x.nw.cellOf (HN2.out.cellOf (HN1.out.cellOf HA0.out))
            have hji0 : (j : Int) < (lx : Int) := by omega
            refine wp_region_grown (by kernel_rfl) (by kernel_rfl) ?_
            repeat (go_big_quiet_step (exact grown_call (qc _ (Grw.nw _))))
            refine wpQuiet_nil ?_
            rintro wx ⟨⟨wx, nx⟩, rfl⟩
            go_wp2_with fail
            exact ⟨⟨j + 1, by omega, by go_num, HN2.out.tr nx⟩, by simp [intOf]; omega⟩
          · have hji0 : ¬ (j : Int) < (lx : Int) := by omega
            have hji1 : decide ((j : Int) < (lx : Int)) = false := by simp; omega
            refine wp_region_grown (by kernel_rfl) (by kernel_rfl) ?_
            repeat (go_big_quiet_step (exact grown_call (qc _ (Grw.nw _))))
            refine wpQuiet_nil ?_
            rintro wx ⟨⟨wx, nx⟩, rfl⟩
            go_wp2_with fail
            exact ⟨⟨j + 1, by omega, by go_num, HN2.out.tr nx⟩, by simp [intOf]; omega⟩
        · obtain rfl : j = lx + 70 := by omega
          go_wp2
          exact ⟨⟨k + 1, by omega, by go_num, HN1.out.tr HN2.out⟩, by simp [intOf]; omega⟩
    · obtain rfl : k = H.length := by omega
      go_wp2
      go_ret
      exact ⟨rfl, HNW.out⟩
end IB
end Go.Proofs.YtgdjoaiahigjpaaGreatDoor
