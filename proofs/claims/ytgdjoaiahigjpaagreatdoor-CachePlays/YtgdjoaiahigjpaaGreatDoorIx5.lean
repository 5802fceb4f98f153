/- A Book grows the rows that it keeps. -/
import Derived.Test.YtgdjoaiahigjpaaGreatDoorIx4
namespace Go.Proofs.YtgdjoaiahigjpaaGreatDoor
namespace IB
open Go.RowKit
set_option linter.unusedVariables false
set_option linter.unusedSimpArgs false

theorem hc_set : ∀ (H : List Held) (k : Nat) (h : Held) (u : Value), H[k]? = some h → hc (H.set k (h.1, u, h.2.2)) = (hc H).set (k * 3 + 1) u
  | [], k, h, u, e => by simp at e
  | x :: r, 0, h, u, e => by simp at e; subst e; rfl
  | x :: r, k + 1, h, u, e => by
    have i := hc_set r k h u (by simpa using e)
    have q : (k + 1) * 3 + 1 = k * 3 + 1 + 1 + 1 + 1 := by omega
    rw [q]
    simp only [List.set_cons_succ, hc, i]
theorem Bk.set {w : World} {bk N g n cap : Nat} {H : List Held} (h : Bk w bk N (.slice (some ⟨g, 0, none⟩) n cap) H) (hg : bk < g) (k : Nat) (t : Held) (ht : H[k]? = some t) (u : Value) :
    Bk (w.setCell ⟨g, k * 3 + 1, none⟩ u) bk N (.slice (some ⟨g, 0, none⟩) n cap) (H.set k (t.1, u, t.2.2)) := by
  refine ⟨(heap_set_ne (by omega) _).trans h.blk, ?_⟩
  obtain ⟨ad, c, e⟩ := ownsRow_form h.own
  cases e
  rw [hc_set H k t u ht]
  simp only [List.length_set]
  exact own_set1 h.own _ _
/-- The same rows with the same numbers. -/
def Sm (H H' : List Held) : Prop := H'.length = H.length ∧ ∀ (i : Nat) (h : Held), H[i]? = some h → ∃ v, H'[i]? = some (h.1, v, h.2.2)
theorem Sm.refl (H : List Held) : Sm H H := ⟨rfl, fun i h e => ⟨h.2.1, e⟩⟩
theorem Sm.back {H H' : List Held} (s : Sm H H') {i : Nat} {h : Held} (e : H'[i]? = some h) : ∃ v, H[i]? = some (h.1, v, h.2.2) := by
  have hi : i < H.length := by rw [← s.1]; exact (List.getElem?_eq_some_iff.1 e).1
  obtain ⟨v, q⟩ := s.2 i _ (List.getElem?_eq_getElem hi)
  rw [e] at q
  cases q
  exact ⟨_, List.getElem?_eq_getElem hi⟩
theorem Sm.set {H H' : List Held} (s : Sm H H') (k : Nat) (t : Held) (ht : H'[k]? = some t) (u : Value) : Sm H (H'.set k (t.1, u, t.2.2)) := by
  refine ⟨by rw [List.length_set]; exact s.1, fun i h e => ?_⟩
  obtain ⟨v, q⟩ := s.2 i h e
  by_cases hik : k = i
  · subst hik
    rw [ht] at q
    cases q
    exact ⟨u, by rw [List.getElem?_set_self (List.getElem?_eq_some_iff.1 ht).1]⟩
  · exact ⟨v, by rw [List.getElem?_set_ne hik]; exact q⟩
theorem Rws.set {w : World} {B0 bk : Nat} {H : List Held} {X : Nat → List Value} (h : Rws w B0 bk H X) (k : Nat) (t : Held) (ht : H[k]? = some t) (a : Option Addr) (n c : Nat) : Rws w B0 bk (H.set k (t.1, .slice a n c, t.2.2)) X := by
  have hs := (Sm.refl H).set k t ht (.slice a n c)
  refine ⟨fun i u hu => ?_, fun i u hu => ?_, fun i j u u' g hij hu hu' => ?_, fun i u hu => ?_⟩
  · obtain ⟨v, q⟩ := hs.back hu
    exact h.own i (u.1, v, u.2.2) q
  · obtain ⟨v, q⟩ := hs.back hu
    exact h.lt i (u.1, v, u.2.2) q
  · obtain ⟨v, q⟩ := hs.back hu
    obtain ⟨v', q'⟩ := hs.back hu'
    exact h.apart i j (u.1, v, u.2.2) (u'.1, v', u'.2.2) g hij q q'
  · by_cases hik : k = i
    · subst hik
      rw [List.getElem?_set_self (List.getElem?_eq_some_iff.1 ht).1] at hu
      cases hu
      exact ⟨a, n, c, rfl⟩
    · rw [List.getElem?_set_ne hik] at hu
      exact h.lng i u hu
theorem Rws.keep {w w' : World} {B0 bk : Nat} {H : List Held} {X : Nat → List Value} (h : Rws w B0 bk H X) (i : Nat) (t : Held) (ht : H[i]? = some t) (hy : w'.ownsRow B0 3 1 t.1 (X i).length ((X i))) (hf : Fr (fun k => t.1.ownBlock = some k) w w') : Rws w' B0 bk H X := by
  have := h.upd i t ht (X i) hy hf
  have e : (fun j => if j = i then X i else X j) = X := by
    funext j
    by_cases hj : j = i
    · subst hj; simp
    · simp [hj]
  rw [e] at this
  exact this
theorem Rws.fr {S : Nat → Prop} {w w' : World} {B0 bk : Nat} {H : List Held} {X : Nat → List Value} (h : Rws w B0 bk H X) (hf : Fr S w w') (hS : ∀ k, k < bk → ¬ S k) : Rws w' B0 bk H X :=
  ⟨fun i t ht => ownsRow_keep (h.own i t ht) (fun g hg => hf.block g ((h.own i t ht).lt g hg).2 (hS g (h.lt i t ht g hg))), h.lt, h.apart, h.lng⟩
theorem Bk.list {w : World} {bk N g n cap : Nat} {H : List Held} (h : Bk w bk N (.slice (some ⟨g, 0, none⟩) n cap) H) : ∃ cur, w.heap[g]? = some (.cells cur 94 (0, 0)) := by
  rcases h.own.2 with ⟨h2, _⟩ | ⟨g', cap', cur, hv, hb, hh, _⟩
  · cases h2
  · cases hv
    exact ⟨cur, hh⟩
/-- The first k rows are grown: in their own blocks, or in new ones behind the Book. -/
def Lg (w : World) (B0 bk gl : Nat) (H : List Held) (L : Nat → Nat) (k : Nat) : Prop :=
  ∀ (i : Nat) (h : Held), i < k → H[i]? = some h → w.ownsRow B0 3 1 h.2.1 (L i + 70) (mks (L i + 70) h.2.2) ∧ (h.2.1.ownBlock = h.1.ownBlock ∨ ∃ q, h.2.1.ownBlock = some q ∧ bk < q ∧ q ≠ gl)

set_option maxRecDepth 100000 in
set_option maxHeartbeats 2000000 in
theorem grow_any (B0 bk N gl vc : Nat) (H : List Held) (L : Nat → Nat) (w : World) (hB : Bk w bk N (.slice (some ⟨gl, 0, none⟩) H.length vc) H) (hgl : bk < gl) (hR : Rws w B0 bk H (fun i => List.replicate (L i) (mkt (num H i)))) (hB0 : B0 ≤ bk) (hH : H.length ≤ 100) (hX : ∀ i, L i ≤ 2000000) (hn : ∀ i, num H i ≤ 100) (hP : ∀ W, Fr (fun k => B0 ≤ k) w W → Pow W) :
    Calls Tryz.prog 48 #[.pointer (some ⟨bk, 0, none⟩)] w fun e w' => e = .returned (.tuple #[]) ∧ ∃ H', Sm H H' ∧ Bk w' bk N (.slice (some ⟨gl, 0, none⟩) H.length vc) H' ∧ Rws w' B0 bk H' (fun i => List.replicate (L i) (mkt (num H i))) ∧ Lg w' B0 bk gl H' L H.length ∧ Fr (fun k => B0 ≤ k) w w' := by
  obtain ⟨i0, hi, hz0, hz1, hz2⟩ := info_parts infoS
  have HB : Hid (Bk w bk N (.slice (some ⟨gl, 0, none⟩) H.length vc) H) := hB
  have HR : Hid (Rws w B0 bk H (fun i => List.replicate (L i) (mkt (num H i)))) := hR
  have HX : Hid (∀ i, L i ≤ 2000000) := hX
  have HN : Hid (∀ i, num H i ≤ 100) := hn
  have HPW : Hid (∀ W, Fr (fun k => B0 ≤ k) w W → Pow W) := hP
  clear hB hR hX hn hP
  go_enter Tryz.func48, Tryz.ntmps48
  go_wp2
  go_loopw [2] (fun i wr => ∃ (k : Nat) (H' : List Held), k ≤ H.length ∧ i = .int .i64 k ∧ Sm H H' ∧ Bk wr bk N (.slice (some ⟨gl, 0, none⟩) H.length vc) H' ∧ Rws wr B0 bk H' (fun i => List.replicate (L i) (mkt (num H i))) ∧ Lg wr B0 bk gl H' L k ∧ Fr (fun k => B0 ≤ k) w wr) (fun i _ => H.length - (intOf i).toNat)
  case atStart => exact ⟨0, H, by omega, rfl, Sm.refl H, HB.out, HR.out, fun i h hi => by omega, Fr.refl _ _⟩
  case round =>
    obtain ⟨k, H', hk, rfl, hS, hBk, hRw, hLg, hfr⟩ := hrel
    have b0 := hBk.blk
    have c6 : wr.cell? ⟨bk, 1, none⟩ = some (.slice (some ⟨gl, 0, none⟩) H.length vc) := (cell_of b0 1).trans rfl
    have HS : Hid (Sm H H') := hS
    have HBk : Hid (Bk wr bk N (.slice (some ⟨gl, 0, none⟩) H.length vc) H') := hBk
    have HRw : Hid (Rws wr B0 bk H' (fun i => List.replicate (L i) (mkt (num H i)))) := hRw
    have HLg : Hid (Lg wr B0 bk gl H' L k) := hLg
    have HFr : Hid (Fr (fun k => B0 ≤ k) w wr) := hfr
    clear hS hBk hRw hLg hfr b0
    by_cases hlt : k < H.length
    · obtain ⟨t, ht⟩ : ∃ t, H'[k]? = some t := ⟨_, List.getElem?_eq_getElem (by rw [HS.out.1]; exact hlt)⟩
      obtain ⟨g, cap, hv, hg1, hg2, d0, d1, d2⟩ := HBk.out.cells k t ht
      injection hv with e1 e2 e3
      injection e1 with e1
      injection e1 with e1
      subst e1
      subst e3
      clear e2
      obtain ⟨h1, h2, m⟩ := t
      simp only at d0 d1 d2
      have hki : (k : Int) < (H.length : Int) := by omega
      have own0 := HRw.out.own k _ ht
      simp only [List.length_replicate] at own0
      have lt0 := HRw.out.lt k _ ht
      obtain ⟨v0, hv0⟩ := HS.out.back ht
      have hnum : num H k = m := num_at hv0
      have hm : m ≤ 100 := by rw [← hnum]; exact HN.out k
      rw [hnum] at own0
      clear hv0
      have HNum : Hid (num H k = m) := hnum
      obtain ⟨lx, hlx⟩ : ∃ l, l = L k := ⟨_, rfl⟩
      have hl1 : lx ≤ 2000000 := by rw [hlx]; exact HX.out k
      obtain ⟨ra, rc, rfl⟩ := ownsRow_form own0
      obtain ⟨la, ln, lc, hlg⟩ := HRw.out.lng k _ ht
      simp only at hlg
      subst hlg
      rw [← hlx] at own0 lt0 ht d0
      have HLX : Hid (lx = L k) := hlx
      have HO : Hid (wr.ownsRow B0 3 1 (.slice ra lx rc) lx (mks lx m)) := own0
      have HLB : Hid (∀ p, (Value.slice ra lx rc).ownBlock = some p → p < bk) := lt0
      have HT : Hid (H'[k]? = some (.slice ra lx rc, .slice la ln lc, m)) := ht
      clear own0 lt0 ht hnum hlx
      go_wp2
      obtain ⟨w1, hw1⟩ : ∃ w1, wr.alloc (.cells #[.slice ra lx rc, .slice la ln lc, .int .i64 (m : Int)] 94) = w1 := ⟨_, rfl⟩
      have n1 : Nw wr w1 := by rw [← hw1]; exact (Fr.refl _ _).alloc _
      have k1 : w1.heap[wr.heap.size]? = some (.cells #[.slice ra lx rc, .slice la ln lc, .int .i64 (m : Int)] 94) := by rw [← hw1]; exact heap_new _ _
      have HS1 : Hid (wr.heap.size ≤ w1.heap.size) := n1.size
      rw [hw1]
      obtain ⟨hb, hhb⟩ : ∃ b, b = wr.heap.size := ⟨_, rfl⟩
      rw [← hhb] at k1 ⊢
      have hbk : bk < hb := by rw [hhb]; exact heap_lt HBk.out.blk
      have HB0 : Hid (B0 ≤ w1.heap.size) := by have := HS1.out; show B0 ≤ w1.heap.size; omega
      have HG2 : Hid (gl < w1.heap.size) := by have := HS1.out; show gl < w1.heap.size; omega
      have HBF : Hid (Bk w1 bk N (.slice (some ⟨gl, 0, none⟩) H.length vc) H') := HBk.out.fr n1 (fun _ _ f => f)
      have HN1 := show Hid _ from n1
      clear hw1 hhb d0 d1 d2 c6 hg2
      go_loopw [4, 5] (fun lv i w2 => ∃ j : Nat, j ≤ 70 ∧ i = .int .i64 j ∧ Gl w1 w2 B0 ra lx rc m j lv) (fun _ i _ => 70 - (intOf i).toNat)
      case atStart => exact ⟨0, by omega, rfl, Gl.start (ownsRow_keep HO.out (fun p hp => n1.block p (HO.out.lt p hp).2 (fun f => f)))⟩
      case round =>
        obtain ⟨j, hj, rfl, hgl2⟩ := hrel
        obtain ⟨xa, xc, hx⟩ := ownsRow_form hgl2.lng
        subst hx
        have k2 := (hgl2.fr.block hb (heap_lt k1) (fun e => by have := HLB.out hb e; omega)).trans k1
        have e2 : wr.cell? ⟨hb, 2, none⟩ = some (.int .i64 (m : Int)) := (cell_of k2 2).trans rfl
        have HGL : Hid (Gl w1 wr B0 ra lx rc m j (.slice xa (lx + j) xc)) := hgl2
        clear k2 hgl2
        by_cases hj70 : j < 70
        · have hji : (j : Int) < 70 := by omega
          go_wp2_with fail
          refine (mark_m m hm _ (HPW.out _ ((HFr.out.trans (HN1.out.mono (S' := fun k => B0 ≤ k) (fun _ _ f => f.elim)) (fun _ _ h => h)).trans HGL.out.fr (fun q _ h => (HO.out.lt q h).1)))).mono ?_
          rintro e3 w3 ⟨rfl, n3⟩
          have own5 : Hid ((w3.alloc (.cells #[mkt m] 3)).ownsRow B0 3 1 (.slice xa (lx + j) xc) (lx + j) (mks (lx + j) m)) := (HGL.out.nw n3).lng.alloc _
          have HNew : Hid (∀ q u, [mkt m][q]? = some u → (w3.alloc (.cells #[mkt m] 3)).cell? ((⟨w3.heap.size, 0, none⟩ : Addr).add q) = some u) := one_new w3 (mkt m) 3
          have HG3 : Hid (Gl w1 (w3.alloc (.cells #[mkt m] 3)) B0 ra lx rc m j (.slice xa (lx + j) xc)) := (HGL.out.nw n3).nw ((Fr.refl _ _).alloc _)
          have HB3 : Hid (B0 ≤ (w3.alloc (.cells #[mkt m] 3)).heap.size) := Nat.le_trans HB0.out HG3.out.fr.size
          clear n3 e2
          go_wp2_with (at_builtin; refine wpList_two _ rfl (.tmp 28) (.tmp 32) 55 rfl B0 3 i0 (.int .i64 0) 1 8 Tryz.underlying55 hi hz0 hz1 hz2 rfl (by decide) (.slice xa (lx + j) xc) (lx + j) (mks (lx + j) m) rfl own5.out ⟨w3.heap.size, 0, none⟩ 1 1 [mkt m] rfl rfl HNew.out (by simp [Value.oneCell']) (by unfold maxLen; omega) (by omega) HB3.out ?_; intro v' w5 o5 t5; have HG5 := show Hid _ from HG3.out.step o5 t5; obtain ⟨va', vc', rfl⟩ := ownsRow_form o5; clear o5 t5)
          exact ⟨⟨j + 1, by omega, by go_num, HG5.out⟩, by simp [intOf]; omega⟩
        · obtain rfl : j = 70 := by omega
          have frT : Hid (Fr (fun q => (Value.slice ra lx rc).ownBlock = some q) w1 wr) := HGL.out.fr
          have HBx : Hid (Bk wr bk N (.slice (some ⟨gl, 0, none⟩) H.length vc) H') := HBF.out.fr frT.out (fun q hq e => by have := HLB.out q e; omega)
          have c6 : wr.cell? ⟨bk, 1, none⟩ = some (.slice (some ⟨gl, 0, none⟩) H.length vc) := (cell_of HBx.out.blk 1).trans rfl
          obtain ⟨cur, hcur⟩ := HBx.out.list
          have f1 := frozen_of hcur (k * 3 + 1)
          obtain ⟨gx, capx, hvx, _, _, _, d1, _⟩ := HBx.out.cells k _ HT.out
          injection hvx with e1 _ _
          injection e1 with e1
          injection e1 with e1
          subst e1
          clear hcur
          go_wp2
          have frA := (HN1.out.mono (S' := fun q => (Value.slice ra lx rc).ownBlock = some q) (fun _ _ f => f.elim)).trans frT.out (fun _ _ h => h)
          refine ⟨⟨k + 1, H'.set k (.slice ra lx rc, .slice xa (lx + 70) xc, m), by omega, by go_num, HS.out.set k _ HT.out _, HBx.out.set hgl k _ HT.out _, ?_, ?_, ?_⟩, by simp [intOf]; omega⟩
          · have r1 := HRw.out.keep k _ HT.out (by simp only [List.length_replicate, ← HLX.out, HNum.out]; exact HGL.out.row) frA
            exact ((r1.fr (S := fun q => q = gl) ((Fr.refl _ wr).setCell _ _ (fun _ => rfl)) (fun q hq e => by omega)).set k _ HT.out _ _ _)
          · intro i h hik hi
            by_cases hke : k = i
            · subst hke
              rw [List.getElem?_set_self (List.getElem?_eq_some_iff.1 HT.out).1] at hi
              cases hi
              rw [← HLX.out]
              rcases HGL.out.at_ with e | ⟨q, hq, hq1⟩
              · have eb : (Value.slice xa (lx + 70) xc).ownBlock = (Value.slice ra lx rc).ownBlock := by rw [e]; cases ra <;> rfl
                refine ⟨ownsRow_keep HGL.out.lng (fun p hp => heap_set_ne ?_ _), .inl eb⟩
                have := HLB.out p (by rw [← eb]; exact hp)
                omega
              · have := HG2.out
                refine ⟨ownsRow_keep HGL.out.lng (fun p hp => heap_set_ne ?_ _), .inr ⟨q, hq, by omega, by omega⟩⟩
                have hpq : p = q := by rw [hq] at hp; exact (Option.some.inj hp).symm
                omega
            · rw [List.getElem?_set_ne hke] at hi
              obtain ⟨o, lcn⟩ := HLg.out i h (by omega) hi
              have hblk : ∀ p, h.2.1.ownBlock = some p → (Value.slice ra lx rc).ownBlock ≠ some p ∧ p ≠ gl := by
                intro p hp
                rcases lcn with e | ⟨q, hq, hq1, hq2⟩
                · rw [e] at hp
                  have := HRw.out.lt i h hi p hp
                  exact ⟨HRw.out.apart i k h _ p (fun q => hke q.symm) hi HT.out hp, by omega⟩
                · have hpq : p = q := by rw [hq] at hp; exact (Option.some.inj hp).symm
                  subst hpq
                  exact ⟨fun e => by have := HLB.out p e; omega, hq2⟩
              exact ⟨ownsRow_keep o (fun p hp => (heap_set_ne (hblk p hp).2 _).trans (frA.block p (o.lt p hp).2 (hblk p hp).1)), lcn⟩
          · exact (HFr.out.trans frA (fun q _ h => (HO.out.lt q h).1)).setCell _ _ (fun _ => by show B0 ≤ gl; omega)
    · obtain rfl : k = H.length := by omega
      go_wp2
      go_end0
      exact ⟨rfl, H', HS.out, HBk.out, HRw.out, HLg.out, HFr.out⟩
end IB
end Go.Proofs.YtgdjoaiahigjpaaGreatDoor
