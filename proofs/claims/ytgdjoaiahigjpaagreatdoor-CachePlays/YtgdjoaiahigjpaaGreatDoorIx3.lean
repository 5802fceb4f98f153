/- A Book fills the rows that it keeps. -/
import Derived.Test.YtgdjoaiahigjpaaGreatDoorIx2
namespace Go.Proofs.YtgdjoaiahigjpaaGreatDoor
namespace IB
open Go.RowKit
set_option linter.unusedVariables false
set_option linter.unusedSimpArgs false

theorem own_set1 {w : World} {base : Nat} {e : TypeId} {size g n cap : Nat} {xs : List Value} (h : w.ownsRow base e size (.slice (some ⟨g, 0, none⟩) n cap) n xs) (o : Nat) (u : Value) :
    (w.setCell ⟨g, o, none⟩ u).ownsRow base e size (.slice (some ⟨g, 0, none⟩) n cap) n (xs.set o u) := by
  obtain ⟨h1, h2⟩ := h
  rcases h2 with ⟨h2, _⟩ | ⟨g', cap', cur, hv, hb, hh, h3, h4, h5, h6⟩
  · cases h2
  · cases hv
    refine ⟨by simpa using h1, .inr ⟨g, cap, _, rfl, hb, heap_set hh _, h3, h4, by simpa using h5, ?_⟩⟩
    rw [← h6]
    simp [Array.toList_setIfInBounds, List.take_set]
theorem own_block {w : World} {base : Nat} {e : TypeId} {size g n cap : Nat} {xs : List Value} (h : w.ownsRow base e size (.slice (some ⟨g, 0, none⟩) n cap) n xs) : ∃ cur : Array Value, w.heap[g]? = some (.cells cur e (0, 0)) ∧ ∀ (k : Nat) (t : Value), xs[k]? = some t → cur[k]? = some t := by
  obtain ⟨h1, h2⟩ := h
  rcases h2 with ⟨h2, _⟩ | ⟨g', cap', cur, hv, hb, hh, h3, h4, h5, h6⟩
  · cases h2
  · cases hv
    refine ⟨cur, hh, fun k t ht => ?_⟩
    rw [← h6, List.getElem?_take] at ht
    split at ht
    · simpa using ht
    · cases ht
/-- The rows that a Book keeps: each in a block of its own, from B0 on and ahead of the Book. -/
structure Rws (w : World) (B0 bk : Nat) (H : List Held) (X : Nat → List Value) : Prop where
  own : ∀ (i : Nat) (h : Held), H[i]? = some h → w.ownsRow B0 3 1 h.1 (X i).length ((X i))
  lt : ∀ (i : Nat) (h : Held), H[i]? = some h → ∀ g, h.1.ownBlock = some g → g < bk
  apart : ∀ (i j : Nat) (h h' : Held) (g : Nat), i ≠ j → H[i]? = some h → H[j]? = some h' → h.1.ownBlock = some g → h'.1.ownBlock ≠ some g
  lng : ∀ (i : Nat) (h : Held), H[i]? = some h → ∃ a n c, h.2.1 = .slice a n c
/-- A row's number. -/
def num (H : List Held) (i : Nat) : Nat := (H[i]?.map (fun h => h.2.2)).getD 0
theorem num_at {H : List Held} {i : Nat} {h : Held} (e : H[i]? = some h) : num H i = h.2.2 := by simp [num, e]
/-- Row i is another now, its length as it was. -/
theorem Rws.upd {w w' : World} {B0 bk : Nat} {H : List Held} {X : Nat → List Value} (h : Rws w B0 bk H X) (i : Nat) (t : Held) (ht : H[i]? = some t) (y : List Value) (hy : w'.ownsRow B0 3 1 t.1 y.length (y)) (hf : Fr (fun k => t.1.ownBlock = some k) w w') :
    Rws w' B0 bk H (fun j => if j = i then y else X j) := by
  refine ⟨fun j u hu => ?_, h.lt, h.apart, h.lng⟩
  by_cases hj : j = i
  · subst hj
    rw [ht] at hu
    cases hu
    simpa using hy
  · simp only [hj, if_false]
    refine ownsRow_keep (h.own j u hu) (fun g hg => hf.block g ((h.own j u hu).lt g hg).2 (h.apart j i u t g hj hu ht hg))
theorem Bk.cells {w : World} {bk N : Nat} {v : Value} {H : List Held} (h : Bk w bk N v H) (i : Nat) (t : Held) (ht : H[i]? = some t) : ∃ g cap, v = .slice (some ⟨g, 0, none⟩) H.length cap ∧ bk < g ∧ g < w.heap.size ∧ w.cell? ⟨g, i * 3, none⟩ = some t.1 ∧ w.cell? ⟨g, i * 3 + 1, none⟩ = some t.2.1 ∧ w.cell? ⟨g, i * 3 + 2, none⟩ = some (.int .i64 (t.2.2 : Int)) := by
  have hlt := h.own.lt
  rcases h.own.2 with ⟨rfl, hn⟩ | ⟨g, cap, cur, rfl, hb, _⟩
  · have : H = [] := List.length_eq_zero_iff.1 hn
    subst this
    simp at ht
  · have q := hc_get H i t ht
    have a := h.own.cells (g := g) rfl _ _ q.1
    have b := h.own.cells (g := g) rfl _ _ q.2.1
    have c := h.own.cells (g := g) rfl _ _ q.2.2
    rw [addZ] at a b c
    exact ⟨g, cap, rfl, hb, (hlt g rfl).2, a, b, c⟩
theorem cell_far {w : World} {p b o q : Nat} {u v : Value} (hne : b ≠ p) (h : w.cell? ⟨b, q, none⟩ = some v) : (w.setCell ⟨p, o, none⟩ u).cell? ⟨b, q, none⟩ = some v :=
  (World.cell?_of_block (w := w) (a := ⟨b, q, none⟩) (heap_set_ne (w := w) (o := o) hne u)).trans h
set_option maxRecDepth 100000 in
set_option maxHeartbeats 2000000 in
theorem fill_any (B0 bk N : Nat) (v : Value) (H : List Held) (X : Nat → List Value) (w : World) (hB : Bk w bk N v H) (hR : Rws w B0 bk H X) (hB0 : B0 ≤ bk) (hH : H.length ≤ 100) (hX : ∀ i, (X i).length ≤ 2000000) (hn : ∀ i, num H i ≤ 100) (hP : ∀ W, Fr (fun k => B0 ≤ k) w W → Pow W) :
    Calls Tryz.prog 32 #[.pointer (some ⟨bk, 0, none⟩)] w fun e w' => e = .returned (.tuple #[]) ∧ Bk w' bk N v H ∧ Rws w' B0 bk H (fun i => List.replicate (X i).length (mkt (num H i))) ∧ Fr (fun k => B0 ≤ k) w w' := by
  have HB : Hid (Bk w bk N v H) := hB
  have HR : Hid (Rws w B0 bk H X) := hR
  have HX : Hid (∀ i, (X i).length ≤ 2000000) := hX
  have HN : Hid (∀ i, num H i ≤ 100) := hn
  have HPW : Hid (∀ W, Fr (fun k => B0 ≤ k) w W → Pow W) := hP
  obtain ⟨va, vc, rfl⟩ := ownsRow_form hB.own
  clear hB hR hX hn hP
  go_enter Tryz.func32, Tryz.ntmps32
  go_wp2
  go_loopw [2] (fun i wr => ∃ (k : Nat) (Y : Nat → List Value), k ≤ H.length ∧ i = .int .i64 k ∧ Rws wr B0 bk H Y ∧ (∀ j, (Y j).length = (X j).length) ∧ (∀ j, j < k → Y j = List.replicate (X j).length (mkt (num H j))) ∧ Bk wr bk N (.slice va H.length vc) H ∧ Fr (fun k => B0 ≤ k) w wr) (fun i _ => H.length - (intOf i).toNat)
  case atStart => exact ⟨0, X, by omega, rfl, HR.out, fun _ => rfl, fun j h => by omega, HB.out, Fr.refl _ _⟩
  case round =>
    obtain ⟨k, Y, hk, rfl, hRw, hYl, hYk, hBk, hfr⟩ := hrel
    have b0 := hBk.blk
    have c6 : wr.cell? ⟨bk, 1, none⟩ = some (.slice va H.length vc) := (cell_of b0 1).trans rfl
    have HBk : Hid (Bk wr bk N (.slice va H.length vc) H) := hBk
    have HRw : Hid (Rws wr B0 bk H Y) := hRw
    have HYl : Hid (∀ j, (Y j).length = (X j).length) := hYl
    have HYk : Hid (∀ j, j < k → Y j = List.replicate (X j).length (mkt (num H j))) := hYk
    have HFr : Hid (Fr (fun k => B0 ≤ k) w wr) := hfr
    clear hBk hRw hYl hYk hfr b0
    by_cases hlt : k < H.length
    · obtain ⟨t, ht⟩ : ∃ t, H[k]? = some t := ⟨_, List.getElem?_eq_getElem hlt⟩
      obtain ⟨g, cap, hv, hg1, hg2, d0, d1, d2⟩ := HBk.out.cells k t ht
      cases hv
      obtain ⟨h1, h2, m⟩ := t
      simp only at d0 d1 d2
      have hki : (k : Int) < (H.length : Int) := by omega
      obtain ⟨ra, rc, rfl⟩ := ownsRow_form (HRw.out.own k _ ht)
      obtain ⟨la, ln, lc, hlg⟩ := HRw.out.lng k _ ht
      simp only at hlg
      subst hlg
      obtain ⟨l, hl⟩ : ∃ l, l = (Y k).length := ⟨_, rfl⟩
      have hl1 : l ≤ 2000000 := by rw [hl, HYl.out]; exact HX.out k
      have hm : m ≤ 100 := by have := HN.out k; rw [num_at ht] at this; exact this
      have HO : Hid (wr.ownsRow B0 3 1 (.slice ra l rc) l ((Y k))) := by have := HRw.out.own k _ ht; simp only [← hl] at this; exact this
      have HLB : Hid (∀ p, (Value.slice ra l rc).ownBlock = some p → p < bk) := by have := HRw.out.lt k _ ht; simp only [← hl] at this; exact this
      have HL : Hid (l = (Y k).length) := hl
      have HT : Hid (H[k]? = some (.slice ra l rc, .slice la ln lc, m)) := by have := ht; rw [← hl] at this; exact this
      rw [← hl] at d0
      clear hl ht
      go_wp2
      obtain ⟨w1, hw1⟩ : ∃ w1, wr.alloc (.cells #[.slice ra l rc, .slice la ln lc, .int .i64 (m : Int)] 94) = w1 := ⟨_, rfl⟩
      have n1 : Nw wr w1 := by rw [← hw1]; exact (Fr.refl _ _).alloc _
      have k1 : w1.heap[wr.heap.size]? = some (.cells #[.slice ra l rc, .slice la ln lc, .int .i64 (m : Int)] 94) := by rw [← hw1]; exact heap_new _ _
      rw [hw1]
      obtain ⟨hb, hhb⟩ : ∃ b, b = wr.heap.size := ⟨_, rfl⟩
      rw [← hhb] at k1 ⊢
      have HHB : Hid (hb = wr.heap.size) := hhb
      have hbk : bk < hb := by rw [hhb]; exact heap_lt HBk.out.blk
      clear hw1 hhb d0 d1 d2 c6
      go_loopw [4] (fun i w2 => ∃ (j : Nat) (xs : List Value), j ≤ l ∧ i = .int .i64 j ∧ xs.length = l ∧ (∀ q, q < j → xs[q]? = some (mkt m)) ∧ w2.ownsRow B0 3 1 (.slice ra l rc) l (xs) ∧ Fr (fun q => (Value.slice ra l rc).ownBlock = some q) w1 w2) (fun i _ => l - (intOf i).toNat)
      case atStart => exact ⟨0, Y k, by omega, rfl, HL.out.symm, fun q h => by omega, ownsRow_keep HO.out (fun p hp => n1.block p (HO.out.lt p hp).2 (fun f => f)), Fr.refl _ _⟩
      case round =>
        obtain ⟨j, xs, hj, rfl, hxl, hxq, hown, hfr2⟩ := hrel
        have k2 := (hfr2.block hb (heap_lt k1) (fun e => by have := HLB.out hb e; omega)).trans k1
        have e0 : wr.cell? ⟨hb, 0, none⟩ = some (.slice ra l rc) := (cell_of k2 0).trans rfl
        have e2 : wr.cell? ⟨hb, 2, none⟩ = some (.int .i64 (m : Int)) := (cell_of k2 2).trans rfl
        have HXL : Hid (xs.length = l) := hxl
        have HXQ : Hid (∀ q, q < j → xs[q]? = some (mkt m)) := hxq
        have HOW : Hid (wr.ownsRow B0 3 1 (.slice ra l rc) l (xs)) := hown
        have HF2 : Hid (Fr (fun q => (Value.slice ra l rc).ownBlock = some q) w1 wr) := hfr2
        clear k2 hxl hxq hown hfr2
        by_cases hjl : j < l
        · obtain ⟨p, rfl⟩ : ∃ p, ra = some ⟨p, 0, none⟩ := by
            rcases HOW.out.2 with ⟨hv, hn⟩ | ⟨p, cap, cur, hv, _⟩
            · omega
            · cases hv; exact ⟨p, rfl⟩
          obtain ⟨cur, hcur, hat⟩ := own_block HOW.out
          obtain ⟨t, ht⟩ : ∃ t, xs[j]? = some t := ⟨_, List.getElem?_eq_getElem (by rw [HXL.out]; exact hjl)⟩
          have a1 := (cell_of hcur j).trans (hat j t ht)
          have HCU : Hid (wr.heap[p]? = some (.cells cur 3 (0, 0))) := hcur
          have hpb : p < bk := HLB.out p rfl
          have hne : hb ≠ p := by omega
          have QM : Hid (∀ W, Nw wr W → Calls Tryz.prog 84 #[.int .i64 (m : Int)] W fun e w' => e = .returned (mkt m) ∧ Nw W w') := fun W nW => mark_m m hm W (HPW.out W ((HFr.out.trans ((n1.mono (fun _ _ f => f.elim)).trans HF2.out (fun _ _ h => h)) (fun q _ h => (HOW.out.lt q h).1)).trans nW (fun _ _ f => f.elim)))
          have A1 := show Hid _ from a1
          have nd : Nw wr wr.drew := (Fr.refl _ _).drew
          have hji : (j : Int) < (l : Int) := by omega
          clear hcur hat ht a1
          go_wp2
          go_region_held3 (fun w' => w'.cell? ⟨hb, 0, none⟩ = some (.slice (some ⟨p, 0, none⟩) l rc) ∧ w'.cell? ⟨hb, 2, none⟩ = some (.int .i64 (m : Int))) (first | exact ⟨nd.cellOf e0, nd.cellOf e2⟩ | exact ⟨m2.cellOf e0, m2.cellOf e2⟩ | exact ⟨cell_far hne (m2.cellOf e0), cell_far hne (m2.cellOf e2)⟩) ((go_at_call 84; refine (QM.out _ nd).mono ?_; rintro e3 w2 ⟨rfl, n2⟩; have m2 := nd.tr n2; have p2 := (m2.block p (heap_lt HCU.out) (fun f => f)).trans HCU.out; have a1 := m2.cellOf A1.out; have f1 := frozen_of p2 j))
          all_goals
            go_wp2
            refine ⟨⟨j + 1, xs.set j (mkt m), by omega, by go_num, by rw [List.length_set]; exact HXL.out, fun q hq => ?_, own_set1 (ownsRow_keep HOW.out (fun p' hp => m2.block p' (HOW.out.lt p' hp).2 (fun f => f))) j (mkt m), (HF2.out.trans m2 (fun _ _ f => f.elim)).setCell ⟨p, j, none⟩ _ (fun _ => rfl)⟩, by simp [intOf]; omega⟩
            rw [List.getElem?_set]
            by_cases hqj : j = q
            · subst hqj
              rw [if_pos rfl, if_pos (by rw [HXL.out]; exact hjl)]
            · rw [if_neg hqj]
              exact HXQ.out q (by omega)
        · have hjl2 : (j : Int) = (l : Int) := by omega
          have fr : Hid (Fr (fun q => (Value.slice ra l rc).ownBlock = some q) _ wr) := (n1.mono (fun _ _ f => f.elim)).trans HF2.out (fun _ _ h => h)
          have hnl : ¬ (j : Int) < (l : Int) := by omega
          go_wp2
          refine ⟨⟨k + 1, _, by omega, by go_num, HRw.out.upd k _ HT.out xs (by rw [HXL.out]; exact HOW.out) fr.out, fun i => ?_, fun i hi => ?_, HBk.out.fr fr.out (fun q hq e => by have := HLB.out q e; omega), HFr.out.trans fr.out (fun q _ h => (HOW.out.lt q h).1)⟩, by simp [intOf]; omega⟩
          · by_cases hik : i = k
            · subst hik
              simp only [if_true]
              rw [HXL.out, HL.out]
              exact HYl.out i
            · simp only [hik, if_false]
              exact HYl.out i
          · by_cases hik : i = k
            · subst hik
              simp only [if_true]
              rw [num_at HT.out, ← HYl.out i, ← HL.out]
              apply List.ext_getElem?
              intro q
              by_cases hq : q < l
              · rw [HXQ.out q (by omega), List.getElem?_replicate, if_pos hq]
              · rw [List.getElem?_eq_none (by rw [HXL.out]; omega), List.getElem?_eq_none (by rw [List.length_replicate]; omega)]
            · simp only [hik, if_false]
              exact HYk.out i (by omega)
    · obtain rfl : k = H.length := by omega
      go_wp2
      go_end0
      refine ⟨rfl, HBk.out, ⟨fun i h hi => ?_, HRw.out.lt, HRw.out.apart, HRw.out.lng⟩, HFr.out⟩
      have := HRw.out.own i h hi
      rw [HYk.out i (List.getElem?_eq_some_iff.1 hi).1] at this
      exact this
end IB
end Go.Proofs.YtgdjoaiahigjpaaGreatDoor
