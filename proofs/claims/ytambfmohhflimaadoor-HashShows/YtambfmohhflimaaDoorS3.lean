/- The document's Cmp and Show. -/
import Derived.Test.YtambfmohhflimaaDoorS2
import Derived.Test.YtambfmohhflimaaDoorH5
import Derived.Deep.RegionHeld3
import Derived.Deep.AppendLies
import Derived.Deep.DrawnRows
namespace Go.Proofs.YtambfmohhflimaaDoor
open Go.RowKit
set_option linter.unusedVariables false
set_option linter.unusedSimpArgs false
attribute [local go_sem ↓] Go.wp_at_zero Go.wp_at_succ

set_option maxRecDepth 100000 in
set_option maxHeartbeats 1000000 in
theorem refcmp_any (A B : List UInt8) (hA : A.length = 32) (hB : B.length = 32) (w : World) :
    Calls Tryd.prog 21 #[.agg (hbs A), .agg (hbs B)] w fun e w' => e = .returned (.int .i64 (cmpH A B)) ∧ Nw w w' := by
  have HA : Hid (A.length = 32) := hA
  have HB : Hid (B.length = 32) := hB
  have has : (hbs A).size = 32 := by rw [hbs_size, hA]
  have hbs' : (hbs B).size = 32 := by rw [hbs_size, hB]
  obtain ⟨w0, hw0⟩ : ∃ w0, w0 = (w.alloc (.cells (hbs A) 24)).alloc (.cells (hbs B) 24) := ⟨_, rfl⟩
  have n0 : Nw w w0 := by rw [hw0]; exact ((Fr.refl _ _).alloc _).alloc _
  have ja : w0.heap[w.heap.size]? = some (.cells (hbs A) 24) := by rw [hw0]; exact (Below.heap_alloc _ _ _ (by simp)).trans (heap_new w _)
  have jb : w0.heap[w.heap.size + 1]? = some (.cells (hbs B) 24) := by rw [hw0]; exact heap_next w _ _
  obtain ⟨R, hR⟩ : ∃ R, R = cmpH A B := ⟨_, rfl⟩
  rw [← hR]
  have HR : Hid (R = cmpH A B) := hR
  clear hR hA hB
  go_enter Tryd.func21, Tryd.ntmps21
  go_wp2
  rw [← hw0]
  clear hw0
  go_loopw [5] (fun i wr => ∃ k : Nat, k ≤ 32 ∧ i = .int .i64 k ∧ Nw w0 wr ∧ (∀ i, i < k → A.getD i 0 = B.getD i 0)) (fun i _ => 32 - (intOf i).toNat)
  case atStart => exact ⟨0, by omega, rfl, Fr.refl _ _, fun i hi => by omega⟩
  case round =>
    obtain ⟨k, hk, rfl, hnw, hpre⟩ := hrel
    have HP : Hid (∀ i, i < k → A.getD i 0 = B.getD i 0) := hpre
    clear hpre
    by_cases hlt : k < 32
    · have hki : (k : Int) < 32 := by omega
      have hk0 : (0 : Int) ≤ (k : Int) := by omega
      have ca := (cell_of ((hnw.block _ (heap_lt ja) (fun f => f)).trans ja) k).trans (hbs_get A k (by have := HA.out; omega))
      have cb := (cell_of ((hnw.block _ (heap_lt jb) (fun f => f)).trans jb) k).trans (hbs_get B k (by have := HB.out; omega))
      by_cases he : A.getD k 0 = B.getD k 0
      · have HE : Hid (A.getD k 0 = B.getD k 0) := he
        rw [← he] at cb
        clear he
        generalize hc : A.getD k 0 = c at ca cb
        clear hc
        have hx1 : ¬ (c.toNat : Int) < (c.toNat : Int) := by omega
        have hx2 : ¬ (c.toNat : Int) > (c.toNat : Int) := by omega
        go_wp2
        go_quiet (fail)
        have HQ : Hid (∀ n, Nw wr (wr.drewN n)) := fun n => (Fr.refl _ wr).drewN n
        generalize hwq : wr.drewN _ = wq
        have nq : Nw wr wq := by rw [← hwq]; exact HQ.out _
        clear hwq HQ
        have ca := nq.cellOf ca
        have cb := nq.cellOf cb
        have hnw := hnw.tr nq
        clear nq
        go_wp2
        go_quiet (fail)
        go_wp2
        refine ⟨⟨k + 1, by omega, by go_num, hnw.drewN _, fun i hi => ?_⟩, by simp [intOf]; omega⟩
        rcases Nat.lt_or_ge i k with h | h
        · exact HP.out i h
        · rw [show i = k by omega]; exact HE.out
      · have HV : Hid (R = if (A.getD k 0).toNat < (B.getD k 0).toNat then -1 else 1) := by unfold Hid; rw [HR.out]; exact cmp_at A B k hlt HP.out he
        have hxy : (A.getD k 0).toNat ≠ (B.getD k 0).toNat := fun e => he (UInt8.toNat_inj.1 e)
        clear he
        generalize (A.getD k 0).toNat = x at ca hxy HV
        generalize (B.getD k 0).toNat = y at cb hxy HV
        by_cases hl : x < y
        · have hx1 : (x : Int) < (y : Int) := by omega
          clear hxy
          go_wp2
          go_quiet (fail)
          go_wp2
          go_ret
          exact ⟨by rw [HV.out, if_pos hl]; rfl, n0.tr (hnw.drewN _)⟩
        · have hx1 : ¬ (x : Int) < (y : Int) := by omega
          have hx2 : (x : Int) > (y : Int) := by omega
          clear hxy
          go_wp2
          go_quiet (fail)
          have HQ : Hid (∀ n, Nw wr (wr.drewN n)) := fun n => (Fr.refl _ wr).drewN n
          generalize hwq : wr.drewN _ = wq
          have nq : Nw wr wq := by rw [← hwq]; exact HQ.out _
          clear hwq HQ
          have ca := nq.cellOf ca
          have cb := nq.cellOf cb
          have hnw := hnw.tr nq
          clear nq
          go_wp2
          go_quiet (fail)
          go_wp2
          go_ret
          exact ⟨by rw [HV.out, if_neg hl]; rfl, n0.tr (hnw.drewN _)⟩
    · obtain rfl : k = 32 := by omega
      have HV : Hid (R = 0) := by unfold Hid; rw [HR.out]; exact cmp_all A B HP.out
      go_wp2
      go_ret
      exact ⟨by rw [HV.out]; rfl, n0.tr hnw⟩
theorem own_grown {B : Nat} {W w w1 : World} {v : Value} {n : Nat} {xs : List Value} (hw : Below B W w) (h : w.ownsRow B 5 1 v n xs) (hg : w.grownBy w1 v.ownBlock) (hB : B ≤ W.heap.size) : Below B W w1 := by
  refine ⟨hg.os.trans hw.os, hg.tape.trans hw.tape, hg.output.trans hw.output, ?_, fun k hk => ?_⟩
  · have := hg.size; have := hw.size; omega
  · rw [hg.block k (by have := hw.size; omega) (fun e => by have := h.lt k e.symm; omega)]
    exact hw.block k hk
theorem own_more {B : Nat} {w1 : World} {v' : Value} {l l' : List UInt8} {vs : List Value} {n : Nat} (hx : vs = bc l') (ho : w1.ownsRow B 5 1 v' n (bc l ++ vs)) (hn : n = l.length + l'.length) : Own B w1 v' (l ++ l') := by
  subst hn hx
  unfold Own
  rw [List.length_append, bc_app]
  exact ho
theorem hexs_val (x : Int) (n : Nat) (hxn : x = n) (hn : n < 16) (h : x.toNat < hexsB.size) : (Value.int .u8 ((hexsB[x.toNat]'h).toNat : Int)) = .int .u8 ((hx n).toNat : Int) := by
  subst hxn
  rw [hexsB_get]
  rfl
theorem wraps_u8 (x : Int) (h0 : 0 ≤ x) (h1 : x < 256) : IntKind.u8.wrap x = x := by rw [IntKind.wrap_u8']; omega
set_option maxRecDepth 100000 in
set_option maxHeartbeats 4000000 in
theorem refshow_any (A : List UInt8) (hA : A.length = 32) (w : World) :
    Calls Tryd.prog 23 #[.agg (hbs A)] w fun e w' => e = .returned (.string ⟨(hex A).toArray⟩) ∧ Nw w w' := by
  obtain ⟨a, ha⟩ : ∃ a, a = hbs A := ⟨_, rfl⟩
  rw [← ha]
  have HG : Hid (∀ k, k < 32 → a[k]? = some (.int .u8 ((C A k).toNat : Nat))) := fun k hk => by rw [ha]; exact hbs_get A k (by omega)
  have HA : Hid (A.length = 32) := hA
  have has : a.size = 32 := by rw [ha, hbs_size, hA]
  clear ha hA
  obtain ⟨i0, hi, hz0, hz1, hz2⟩ := info_parts8
  have hz2i := hz2
  clear hz2
  go_enter Tryd.func23, Tryd.ntmps23
  go_wp2
  obtain ⟨w0, hw0⟩ : ∃ w0, w0 = w.alloc (.cells a 24) := ⟨_, rfl⟩
  have j0 : w0.heap[w.heap.size]? = some (.cells a 24) := by rw [hw0]; exact heap_new w _
  have n0 : Nw w w0 := by rw [hw0]; exact (Fr.refl _ _).alloc _
  rw [← hw0]
  clear hw0
  go_loopw [3, 4] (fun b i wr => ∃ k : Nat, k ≤ 32 ∧ i = .int .i64 k ∧ Own w0.heap.size wr b (hex (A.take k)) ∧ Below w0.heap.size w0 wr) (fun _ i _ => 32 - (intOf i).toNat)
  case atStart => exact ⟨0, by omega, rfl, World.ownsRow_nil _ _ _ _, Below.refl _ _⟩
  case round =>
    obtain ⟨k, hk, rfl, ho, hb⟩ := hrel
    by_cases hlt : k < 32
    · have hki : (k : Int) < 32 := by omega
      have hk0 : (0 : Int) ≤ (k : Int) := by omega
      have hsz : w0.heap.size ≤ wr.heap.size := hb.size
      have hcl : wr.cell? ⟨w.heap.size, k, none⟩ = some (.int .u8 ((C A k).toNat : Nat)) := (cell_of ((hb.block _ (heap_lt j0)).trans j0) k).trans (HG.out k hlt)
      have hmore := hex_more A k (by have := HA.out; omega)
      have hll : (hex (A.take k)).length ≤ 64 := by rw [hex_length, List.length_take]; omega
      obtain ⟨c, hc⟩ : ∃ c, C A k = c := ⟨_, rfl⟩
      have hc256 : c.toNat < 256 := c.toNat_lt
      have hkc : Hid (∀ W, Below w0.heap.size w0 W → W.cell? ⟨w.heap.size, k, none⟩ = some (.int .u8 (c.toNat : Nat))) := fun W hW => by rw [← hc]; exact (cell_of ((hW.block _ (heap_lt j0)).trans j0) k).trans (HG.out k hlt)
      rw [hc] at hcl hmore
      have HM : Hid (hex (A.take (k + 1)) = hex (A.take k) ++ [hx (c.toNat / 16)] ++ [hx (c.toNat % 16)]) := hmore
      clear hmore hc
      generalize hex (A.take k) = T at ho hll HM
      obtain ⟨ca, cc, rfl⟩ := ownsRow_form ho
      have q0 : (0 : Int) ≤ (c.toNat : Int) / 16 := by omega
      have q1 : (c.toNat : Int) / 16 < 16 := by omega
      have r0 : (0 : Int) ≤ (c.toNat : Int) % 16 := by omega
      have r1 : (c.toNat : Int) % 16 < 16 := by omega
      have e1 : IntKind.u8.wrap ((c.toNat : Int) / 16) = (c.toNat : Int) / 16 := wraps_u8 _ q0 (by omega)
      have e2 : ((c.toNat : Int)).tmod 16 = (c.toNat : Int) % 16 := Int.tmod_eq_emod_of_nonneg (by omega)
      go_wp2_with fail
      go_region_held3 (fun w' => w'.cell? ⟨w.heap.size, k, none⟩ = some (.int .u8 (c.toNat : Nat))) (first | exact hkc.out _ hb.drew | exact hkc.out _ (hb.alloc hsz _).drew | exact hkc.out _ (own_grown ((hb.alloc hsz _).drew) ((ho.alloc _).drew) hgrow (Nat.le_refl _))) ((refine step_append_lies _ (by rfl) _ _ _ (by rfl) w0.heap.size 5 i0 (.int .u8 0) 1 1 Tryd.underlying50 hi hz0 hz1 hz2i rfl (by omega) (.slice ca T.length cc) T.length (bc T) (by rfl) ((ho.alloc _).drew) ⟨wr.heap.size, 0, none⟩ 2 2 [_, _] (by rfl) (by rfl) (World.news_of_block (cs := #[_, _]) (t := 5) (fr := (0, 0)) (heap_alloc_new wr _)) (by simp [Value.oneCell']) (by omega) (by unfold maxLen; omega) (by omega) (by simp; omega) (wr.heap.size + 1) (by simp) ?_; intro gg cap w1 hown1 hgrow hat hlt2))
      all_goals go_wp2
      all_goals
        refine ⟨⟨k + 1, by omega, by go_num, ?_, own_grown ((hb.alloc hsz _).drew) ((ho.alloc _).drew) hgrow (Nat.le_refl _)⟩, by simp [intOf]; omega⟩
        rw [HM.out, List.append_assoc]
        refine own_more ?_ hown1 rfl
        show _ = [Value.int .u8 _, Value.int .u8 _]
        rw [hexs_val _ (c.toNat / 16) (by omega) (by omega), hexs_val _ (c.toNat % 16) (by omega) (by omega)]
    · obtain rfl : k = 32 := by omega
      have hTA : A.take 32 = A := List.take_of_length_le (by have := HA.out; omega)
      rw [hTA] at ho
      have hcv := conv_own ho
      obtain ⟨ca, cc, rfl⟩ := ownsRow_form ho
      go_wp2
      go_ret
      exact ⟨rfl, n0.tr (Fr.ofBelow hb)⟩
end Go.Proofs.YtambfmohhflimaaDoor
