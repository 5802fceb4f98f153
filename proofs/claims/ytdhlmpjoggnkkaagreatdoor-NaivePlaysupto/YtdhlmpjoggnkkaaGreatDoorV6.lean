/- NaivePlays. -/
import Derived.Test.YtdhlmpjoggnkkaaGreatDoorMg
import Derived.Test.YtdhlmpjoggnkkaaGreatDoorG2
import Derived.Deep.DeepCutAuto
namespace Go.Proofs.YtdhlmpjoggnkkaaGreatDoor
open Go.RowKit
set_option linter.unusedVariables false
set_option linter.unusedSimpArgs false

/-- A script in memory. -/
def Opl (W : World) (p : Option Addr) (n : Nat) (A : Nat → Od) : Prop := ∀ i, i < n → (A i).ok ∧ ∃ g o, p = some ⟨g, o, none⟩ ∧ ∀ j, j < 6 → W.cell? ⟨g, o + i * 6 + j, none⟩ = (A i).c[j]?
set_option maxRecDepth 100000 in
set_option maxHeartbeats 4000000 in
theorem plays_any (p : Option Addr) (c n : Nat) (A : Nat → Od) (w : World) (hp : Opl w p n A) (hn : n ≤ 274877906944) (hL : Laid w) {B : Nat} {a : Nat → Addr} (hS : Sent B w a) :
    Calls Tryz.prog 3 #[.slice p n c] w fun e w' => e = .returned (.bool true) ∧ Nw w w' := by
  have HL : Hid (Laid w) := hL
  have HS : Hid (Sent B w a) := hS
  have HP : Hid (Opl w p n A) := hp
  clear hL hS hp
  go_enter Tryz.func3, Tryz.ntmps3
  go_wp2_with fail
  refine (new_any _).mono ?_
  rintro e1 w1 ⟨rfl, l1, z1, n1⟩
  have N1 : Hid (Nw w w1) := n1
  have L1 : Hid (Lg w1 w.heap.size (w.heap.size + 1) (.slice none 0 0) []) := l1
  clear n1 l1
  go_wp2_with fail
  refine (new_any _).mono ?_
  rintro e2 w2 ⟨rfl, l2, z2, n2⟩
  have N2 : Hid (Nw w w2) := N1.out.tr n2
  have D1 : Hid (w2.heap[w.heap.size]? = _) := (n2.block _ (heap_lt L1.out.blk) (fun f => f)).trans L1.out.blk
  have D2 : Hid (w2.heap[w1.heap.size]? = _) := l2.blk
  have Z2 : Hid (w1.heap.size = w.heap.size + 1 ∧ w2.heap.size = w.heap.size + 2) := ⟨z1, by omega⟩
  clear n2 l2 z1 z2 L1
  go_wp2_with fail
  obtain ⟨κ, σ0, q0, q1, q2, q3, q4, q5, q6, q7, q8, hN0, hLM0, hPm⟩ := start_pm w1.heap.size D1.out D2.out Z2.out N2.out
  obtain ⟨w3, hw3⟩ : ∃ w3, ((((((w2.alloc (.cells #[.bool false, .slice none 0 0] 27)).alloc (.cells #[.pointer (some ⟨w.heap.size, 0, none⟩), .pointer (some ⟨w1.heap.size, 0, none⟩), .pointer none, .pointer (some ⟨w2.heap.size, 0, none⟩)] 23)).alloc (.cells #[.slice none 0 0] 31)).alloc (.cells #[.slice none 0 0] 31)).alloc (.cells #[.pointer (some ⟨w2.heap.size + 1 + 1, 0, none⟩), .pointer (some ⟨w2.heap.size + 1 + 1 + 1, 0, none⟩)] 29)).alloc (.cells #[.int .i64 0, .slice none 0 0, .slice none 0 0, .slice none 0 0, .slice none 0 0, .slice none 0 0, .slice none 0 0, .slice none 0 0, .slice none 0 0, .slice none 0 0, .slice none 0 0, .slice none 0 0, .slice none 0 0, .slice none 0 0, .slice none 0 0, .slice none 0 0, .slice none 0 0] 50)) = w3 := ⟨_, rfl⟩
  have HPm : Hid (Pm w3 κ σ0) := by rw [← hw3]; exact hPm
  clear hPm
  rw [hw3]
  rw [← q8, ← q7, ← q6, ← q5, ← q4, ← q3, ← q2, ← q1]
  have HW0 : Hid (κ.w0 = w) := q0
  have HLM : Hid (σ0.L = σ0.M) := hLM0
  have HN0 : Hid (σ0.N = 0) := hN0
  clear hw3 q0 q1 q2 q3 q4 q5 q6 q7 q8 hN0 hLM0 D1 D2 Z2 N1 N2
  obtain ⟨s4, hs4⟩ : ∃ s, s = κ.s4 := ⟨_, rfl⟩
  obtain ⟨s2, hs2⟩ : ∃ s, s = κ.s2 := ⟨_, rfl⟩
  obtain ⟨bk, hbk⟩ : ∃ s, s = κ.bk := ⟨_, rfl⟩
  rw [← hs4, ← hs2, ← hbk]
  have HB4 : Hid (s4 = κ.s4 ∧ s2 = κ.s2 ∧ bk = κ.bk) := ⟨hs4, hs2, hbk⟩
  clear hs4 hs2 hbk
  go_loopw [7] (fun i wr => ∃ (k : Nat) (σ : St), k ≤ n ∧ i = .int .i64 k ∧ Pm wr κ σ ∧ σ.L = σ.M ∧ σ.N ≤ 2 * k) (fun i _ => n - (intOf i).toNat)
  case atStart => exact ⟨0, σ0, by omega, rfl, HPm.out, HLM.out, by rw [HN0.out]; omega⟩
  case round =>
    obtain ⟨k, σa, hk, rfl, hPm, hLM, hN⟩ := hrel
    obtain ⟨σ, hσ⟩ : ∃ σ, { σa with tag := late σa.tag wr.heap.size 50 } = σ := ⟨_, rfl⟩
    have TG : Hid (∀ j, wr.heap.size ≤ j → σ.tag j = 50) := fun j hj => by rw [← hσ]; exact late_ge hj
    replace hPm := hPm.tag wr.heap.size 50 (Nat.le_refl _)
    replace hLM : σ.L = σ.M := by rw [← hσ]; exact hLM
    replace hN : σ.N ≤ 2 * k := by rw [← hσ]; exact hN
    rw [hσ] at hPm
    clear hσ
    have HPr : Hid (Pm wr κ σ) := hPm
    have HLMr : Hid (σ.L = σ.M) := hLM
    have HNr : Hid (σ.N ≤ 2 * k) := hN
    clear hPm hLM hN
    by_cases hlt : k < n
    · obtain ⟨ho, g, o, hpo, hcs⟩ := HP.out k hlt
      subst hpo
      have hki : (k : Int) < (n : Int) := by omega
      have nwr0 : Nw w wr := by rw [← HW0.out]; exact HPr.out.nw0
      obtain ⟨O, hO⟩ : ∃ O, O = A k := ⟨_, rfl⟩
      rw [← hO] at ho hcs
      have cs0 := nwr0.cellOf (hcs 0 (by omega))
      have cs1 := nwr0.cellOf (hcs 1 (by omega))
      have cs2 := nwr0.cellOf (hcs 2 (by omega))
      have cs3 := nwr0.cellOf (hcs 3 (by omega))
      have cs4 := nwr0.cellOf (hcs 4 (by omega))
      have cs5 := nwr0.cellOf (hcs 5 (by omega))
      rw [Nat.add_zero] at cs0
      clear hcs hO
      go_wp2_with fail
      refine (round_any O.who 4 ho.w1 ho.w2 (by decide) (by decide) _).mono ?_
      rintro e4 w4 ⟨rfl, h4⟩
      obtain ⟨m, hm, hm4⟩ : ∃ m : Nat, O.who % 4 = (m : Int) ∧ m < 4 := ⟨(O.who % 4).toNat, by omega, by omega⟩
      rw [hm]
      have HM : Hid (O.who % 4 = (m : Int)) := hm
      have OK : Hid O.ok := ho
      have N4 : Hid (Nw wr w4) := by rw [h4]; exact nwa wr _
      have B4 : Hid (w4.heap[wr.heap.size]? = some (.cells O.c 53)) := by rw [h4]; exact heap_new _ _
      obtain ⟨ob, hob⟩ : ∃ b, b = wr.heap.size := ⟨_, rfl⟩
      rw [← hob] at B4 ⊢
      have HOB : Hid (ob = wr.heap.size) := hob
      clear h4 hm ho cs0 cs1 cs2 cs3 cs4 cs5 nwr0 hob
      have lob := heap_lt B4.out
      have hs35 : (tcs 0 ⟨#[]⟩ zh (.slice none 0 0)).size = 35 := tcs_size _ _ _ zh32 _
      go_wp2_with (refine wp_store_agg rfl (.tmp 10) (.tmp 52) 59 35 rfl Tryz.sizeOf59 w4.heap.size 0 rfl (tcs 0 ⟨#[]⟩ zh (.slice none 0 0)) 59 (by rw [← tz_h]; exact heap_new _ _) (tcs 0 ⟨#[]⟩ zh (.slice none 0 0)) (congrArg Value.agg tz_h) hs35 tz_one (Nat.le_of_eq hs35.symm) (tcs 0 ⟨#[]⟩ zh (.slice none 0 0)) (by rw [drop_all hs35]; simp) ?_; intro w5 j5 f5 _)
      have n5 : Nw w4 w5 := (nwa w4 _).trans f5 (fun q hq e => by omega)
      have N5 : Hid (Nw wr w5) := N4.out.tr n5
      have B5 : Hid (w5.heap[ob]? = some (.cells O.c 53)) := (n5.block _ (heap_lt B4.out) (fun f => f)).trans B4.out
      obtain ⟨tb, htb⟩ : ∃ b, b = w4.heap.size := ⟨_, rfl⟩
      rw [← htb] at j5 ⊢
      have T5 : Hid (w5.heap[tb]? = some (.cells (tcs 0 ⟨#[]⟩ zh (.slice none 0 0)) 59)) := j5
      have HTB : Hid (ob < tb) := by show ob < tb; omega
      clear n5 f5 j5 htb lob
      refine (plain_any 1 _ (by decide)).mono ?_
      rintro e6 w6 ⟨rfl, n6⟩
      have N6 : Hid (Nw wr w6) := N5.out.tr n6
      have B6 : Hid (w6.heap[ob]? = some (.cells O.c 53)) := (n6.block _ (heap_lt B5.out) (fun f => f)).trans B5.out
      have T6 : Hid (w6.heap[tb]? = some (.cells (tcs 0 ⟨#[]⟩ zh (.slice none 0 0)) 59)) := (n6.block _ (heap_lt T5.out) (fun f => f)).trans T5.out
      clear n6 N4 N5 B4 B5 T5
      go_upto_if 55 with fail
      obtain ⟨w7, hw7⟩ : ∃ w7, w6.alloc (.cells #[.int .i64 1, .int .i64 (-1)] 61) = w7 := ⟨_, rfl⟩
      have n7 : Nw w6 w7 := by rw [← hw7]; exact nwa w6 _
      have F7 : Hid (w7.heap[w6.heap.size]? = some (.cells #[.int .i64 1, .int .i64 (-1)] 61)) := by rw [← hw7]; exact heap_new _ _
      rw [hw7]
      obtain ⟨fb, hfb⟩ : ∃ b, b = w6.heap.size := ⟨_, rfl⟩
      rw [← hfb] at F7 ⊢
      have N7 : Hid (Nw wr w7) := N6.out.tr n7
      have B7 : Hid (w7.heap[ob]? = some (.cells O.c 53)) := (n7.block _ (heap_lt B6.out) (fun f => f)).trans B6.out
      have T7 : Hid (w7.heap[tb]? = some (.cells (tcs 0 ⟨#[]⟩ zh (.slice none 0 0)) 59)) := (n7.block _ (heap_lt T6.out) (fun f => f)).trans T6.out
      have HFB : Hid (tb < fb ∧ ob < tb ∧ wr.heap.size ≤ ob) := by
        have := HTB.out; have := heap_lt T6.out; have := HOB.out
        exact ⟨by omega, by omega, by omega⟩
      clear hw7 n7 hfb N6 B6 T6 HTB
      go_cut [12] (fun v wx => ∃ (R : An) (f1 f2 : Int) (qa : Option Addr) (qc : Nat) (τ : St), v = .int .u64 (((if m < 2 then R.m.length else 0) : Nat) : Int) ∧ fe R.c = flt f1 f2 ∧ wx.ownsRow w7.heap.size 56 32 (.slice qa R.l.length qc) R.l.length (hsc R.l) ∧ Pm wx κ τ ∧ SameB σ τ ∧ τ.L = σ.L ∧ τ.v = σ.v ∧ (m < 2 → R = O.an (σ.M m) ∧ τ.M = upd σ.M m R.m) ∧ (¬ m < 2 → R = noan ∧ τ.M = σ.M) ∧ (∀ j, j < w7.heap.size → τ.tag j = σ.tag j) ∧ Fr (fun j => j < wr.heap.size ∨ j = tb ∨ j = fb) w7 wx ∧ wx.heap[ob]? = some (.cells O.c 53) ∧ wx.heap[tb]? = some (.cells (tcs (R.n : Int) R.s R.h (.slice qa R.l.length qc)) 59) ∧ wx.heap[fb]? = some (.cells #[.int .i64 f1, .int .i64 f2] 61))
      case first =>
       by_cases hm2 : m < 2
       · have hm2i : (m : Int) < 2 := by omega
         go_wp2_with fail
         have P7 : Hid (Pm w7 κ σ) := HPr.out.nw N7.out
         have S7 : Hid (∀ (V : World) (τ : St), Pm V κ τ → V.heap[s2]? = some (.cells #[ptr (κ.c 0), ptr (κ.c 1)] 29)) := fun V τ h => by rw [HB4.out.2.1]; exact h.s2
         have SC : Hid (∀ V : World, V.heap[s2]? = some (.cells #[ptr (κ.c 0), ptr (κ.c 1)] 29) → V.cell? ⟨s2, m, none⟩ = some (ptr (κ.c m))) := fun V h => by
           rcases (by omega : m = 0 ∨ m = 1) with rfl | rfl
           · exact (cell_of h 0).trans rfl
           · exact (cell_of h 1).trans rfl
         obtain ⟨R, hR⟩ : ∃ R, O.an (σ.M m) = R := ⟨_, rfl⟩
         obtain ⟨f1, f2, hfe⟩ := fe_form R.c
         have R32 : Hid (R.h.length = 32) := by show R.h.length = 32; rw [← hR]; exact anw_h _ _ _ _ _ _
         have QM : Hid (∀ V, Nw w7 V → Calls Tryz.prog 8 #[ptr (κ.c m), .agg O.c] V fun e w' => ∃ q τ, e = .returned (.tuple #[.agg (tcs (R.n : Int) R.s R.h q), flt f1 f2]) ∧ w'.ownsRow V.heap.size 56 32 q R.l.length (hsc R.l) ∧ Pm w' κ τ ∧ SameB σ τ ∧ τ.L = σ.L ∧ τ.v = σ.v ∧ τ.M = upd σ.M m R.m ∧ (∀ j, j < V.heap.size → τ.tag j = σ.tag j) ∧ Fr (fun j => j < wr.heap.size) V w') := fun V hV => by
           have q := meant_pm (P7.out.nw hV) m hm2 O OK.out wr.heap.size (heap_lt (HPr.out.dg m hm2).blk) (fun g hg => ((HPr.out.dg m hm2).own.lt g hg).2)
           rw [hR, hfe] at q
           exact q
         have HR : Hid (O.an (σ.M m) = R ∧ fe R.c = flt f1 f2) := ⟨hR, hfe⟩
         clear hR hfe
         have nb : Nw w7 w7.drew := (Fr.refl _ _).drew
         refine wp_region_held_drew (S := fun V => V.heap[s2]? = some (.cells #[ptr (κ.c 0), ptr (κ.c 1)] 29) ∧ V.heap[ob]? = some (.cells O.c 53)) (by kernel_rfl) ⟨S7.out _ _ (P7.out.nw nb), B7.out⟩ ?_
         intro hS0
         refine wpAnyH_take (i := 0) (v := .slice (some ⟨s2, 0, none⟩) 2 2) rfl (by kernel_rfl) (by kernel_rfl) (by kernel_rfl) (fun _ _ _ h => h) (Or.inl ⟨by rfl, by intro w hw; go_simp⟩) hS0 ?_
         try simp only [Act.put, List.setIfInBounds_toArray, List.set_cons_zero, List.set_cons_succ]
         refine wpAnyH_take (i := 1) (v := .int .i64 (m : Int)) rfl (by kernel_rfl) (by kernel_rfl) (by kernel_rfl) (fun _ _ _ h => h) (Or.inl ⟨by rfl, by intro w hw; go_simp⟩) hS0 ?_
         try simp only [Act.put, List.setIfInBounds_toArray, List.set_cons_zero, List.set_cons_succ]
         refine wpAnyH_take (i := 2) (v := .pointer (some ⟨s2, m, none⟩)) rfl (by kernel_rfl) (by kernel_rfl) (by kernel_rfl) (fun _ _ _ h => h) (Or.inl ⟨by rfl, by intro w hw; go_simp⟩) hS0 ?_
         try simp only [Act.put, List.setIfInBounds_toArray, List.set_cons_zero, List.set_cons_succ]
         refine wpAnyH_take (i := 3) (v := ptr (κ.c m)) rfl (by kernel_rfl) (by kernel_rfl) (by kernel_rfl) (fun _ _ _ h => h) (Or.inl ⟨by rfl, by intro w hw; have hc := SC.out w hw.1; go_simp⟩) hS0 ?_
         try simp only [Act.put, List.setIfInBounds_toArray, List.set_cons_zero, List.set_cons_succ]
         refine wpAnyH_take (i := 4) (oi := ({ dst := some 61, op := Op.load 53 (Operand.tmp 8), type := 53, pos := "law.go:115", after := #[], guard := none } : Oper)) (v := .agg O.c) rfl (by kernel_rfl) (by kernel_rfl) (by kernel_rfl) (fun _ _ _ h => h) (yields_load_agg rfl (.tmp 8) 53 6 rfl Tryz.isAgg53 Tryz.sizeOf53 ob rfl 53 _ rfl (fun w hw => hw.2)) hS0 ?_
         try simp only [Act.put, List.setIfInBounds_toArray, List.set_cons_zero, List.set_cons_succ]
         refine wpAnyH_ready (rs := [5]) (by kernel_rfl) (by simp) ?_
         refine AllReadyH.cons rfl (fun K' hK => ?_) AllReadyH.nil
         go_simp
         go_wp2_with (go_at_call 8; refine (QM.out _ nb).mono ?_; rintro e8 w8 ⟨q, τ, rfl, hq8, hP8, hB8, hL8, hv8, hM8, ht8, f8⟩)
         obtain ⟨qa, qc, rfl⟩ := ownsRow_form hq8
         have hs35r : (tcs (R.n : Int) R.s R.h (.slice qa R.l.length qc)).size = 35 := tcs_size _ _ _ R32.out _
         have B8 : w8.heap[ob]? = some (.cells O.c 53) := (f8.block ob (heap_lt B7.out) (fun q => by have := HFB.out; omega)).trans B7.out
         have T8 : w8.heap[tb]? = some (.cells (tcs 0 ⟨#[]⟩ zh (.slice none 0 0)) 59) := (f8.block tb (heap_lt T7.out) (fun q => by have := HFB.out; omega)).trans T7.out
         have F8 : w8.heap[fb]? = some (.cells #[.int .i64 1, .int .i64 (-1)] 61) := (f8.block fb (heap_lt F7.out) (fun q => by have := HFB.out; omega)).trans F7.out
         have TG8 : Hid (τ.tag tb = 50 ∧ τ.tag fb = 50) := ⟨(ht8 tb (heap_lt T7.out)).trans (TG.out tb (by have := HFB.out; omega)), (ht8 fb (heap_lt F7.out)).trans (TG.out fb (by have := HFB.out; omega))⟩
         refine hK.out _ _ ⟨S7.out _ _ hP8, B8⟩ (fun hS0 => ?_)
         try simp only [Act.put, List.setIfInBounds_toArray, List.set_cons_zero, List.set_cons_succ]
         refine wpAnyH_take (i := 6) (v := .tuple #[.agg (tcs (R.n : Int) R.s R.h (.slice qa R.l.length qc)), flt f1 f2]) rfl (by kernel_rfl) (by kernel_rfl) (by kernel_rfl) (fun _ _ _ h => h) (Or.inl ⟨by rfl, by intro w hw; go_simp⟩) hS0 ?_
         try simp only [Act.put, List.setIfInBounds_toArray, List.set_cons_zero, List.set_cons_succ]
         refine wpAnyH_take (i := 7) (v := .agg (tcs (R.n : Int) R.s R.h (.slice qa R.l.length qc))) rfl (by kernel_rfl) (by kernel_rfl) (by kernel_rfl) (fun _ _ _ h => h) (Or.inl ⟨by rfl, by intro w hw; go_simp⟩) hS0 ?_
         try simp only [Act.put, List.setIfInBounds_toArray, List.set_cons_zero, List.set_cons_succ]
         refine wpAnyH_take (i := 8) (v := flt f1 f2) rfl (by kernel_rfl) (by kernel_rfl) (by kernel_rfl) (fun _ _ _ h => h) (Or.inl ⟨by rfl, by intro w hw; go_simp⟩) hS0 ?_
         try simp only [Act.put, List.setIfInBounds_toArray, List.set_cons_zero, List.set_cons_succ]
         refine wpAnyH_ready (rs := [9]) (by kernel_rfl) (by simp) ?_
         refine AllReadyH.cons rfl (fun K' hK => ?_) AllReadyH.nil
         refine step_store_agg rfl (.tmp 10) (.tmp 63) 59 35 rfl Tryz.sizeOf59 tb 0 rfl _ 59 T8 (tcs (R.n : Int) R.s R.h (.slice qa R.l.length qc)) rfl hs35r (tcs_one _ _ _ _ _ _) (Nat.le_of_eq hs35.symm) (tcs (R.n : Int) R.s R.h (.slice qa R.l.length qc)) (by rw [drop_all hs35]; simp) ?_
         intro w9 j9 f9 z9
         have P9 := hP8.frt f9 (fun j e => by rw [e]; exact TG8.out.1)
         have B9 := (f9.block ob (heap_lt B8) (fun e => by have := HFB.out; omega)).trans B8
         have F9 := (f9.block fb (heap_lt F8) (fun e => by have := HFB.out; omega)).trans F8
         refine hK.out _ _ ⟨S7.out _ _ P9, B9⟩ (fun hS0 => ?_)
         try simp only [Act.put, List.setIfInBounds_toArray, List.set_cons_zero, List.set_cons_succ]
         refine wpAnyH_ready (rs := [10]) (by kernel_rfl) (by simp) ?_
         refine AllReadyH.cons rfl (fun K' hK => ?_) AllReadyH.nil
         refine step_store_agg rfl (.tmp 11) (.tmp 64) 61 2 rfl Tryz.sizeOf61 fb 0 rfl _ 61 F9 #[.int .i64 f1, .int .i64 f2] rfl rfl (by simp [Value.oneCell']) (by decide) #[.int .i64 f1, .int .i64 f2] (by simp) ?_
         intro wx jx fx zx
         have PX := P9.frt fx (fun j e => by rw [e]; exact TG8.out.2)
         have BX := (fx.block ob (heap_lt B9) (fun e => by have := HFB.out; omega)).trans B9
         have TX := (fx.block tb (heap_lt j9) (fun e => by have := HFB.out; omega)).trans j9
         refine hK.out _ _ ⟨S7.out _ _ PX, BX⟩ (fun hS0 => ?_)
         try simp only [Act.put, List.setIfInBounds_toArray, List.set_cons_zero, List.set_cons_succ]
         refine wpAnyH_done (by kernel_rfl) ?_ _
         have HPX : Hid (Pm wx κ τ) := PX
         have HBX : Hid (wx.heap[ob]? = some (.cells O.c 53)) := BX
         have HTX : Hid (wx.heap[tb]? = some (.cells (tcs (R.n : Int) R.s R.h (.slice qa R.l.length qc)) 59)) := TX
         have HFX : Hid (wx.heap[fb]? = some (.cells #[.int .i64 f1, .int .i64 f2] 61)) := jx
         have cs2x := SC.out wx (S7.out _ _ PX)
         have QSz : Hid (Calls Tryz.prog 9 #[ptr (κ.c m)] wx fun e w' => e = .returned (.int .u64 ((τ.M m).length : Int)) ∧ w' = wx) := dsize_any (PX.dg m hm2)
         have own8 := show Hid _ from hq8
         have FXX : Hid (Fr (fun j => j < wr.heap.size ∨ j = tb ∨ j = fb) w7 wx) := (((nb.mono (fun _ _ f => f.elim)).trans f8 (fun _ _ q => .inl q)).trans f9 (fun _ _ q => .inr (.inl q))).trans fx (fun _ _ q => .inr (.inr q))
         have OWX : Hid (wx.ownsRow w7.heap.size 56 32 (.slice qa R.l.length qc) R.l.length (hsc R.l)) := ownsRow_keep (ownsRow_keep hq8 (fun g hg => f9.block g (hq8.lt g hg).2 (fun e => by have := (hq8.lt g hg).1; have h7 : tb < w7.heap.size := heap_lt T7.out; have : w7.drew.heap.size = w7.heap.size := rfl; omega))) (fun g hg => fx.block g (Nat.lt_of_lt_of_le (hq8.lt g hg).2 f9.size) (fun e => by have := (hq8.lt g hg).1; have h7 : fb < w7.heap.size := heap_lt F7.out; have : w7.drew.heap.size = w7.heap.size := rfl; omega))
         have HT8 := show Hid _ from ht8
         have HZ8 : Hid (SameB σ τ ∧ τ.L = σ.L ∧ τ.v = σ.v ∧ τ.M = upd σ.M m R.m) := ⟨hB8, hL8, hv8, hM8⟩
         clear PX BX TX jx fx zx P9 B9 F9 j9 f9 z9 hK hS0 B8 T8 F8 hq8 hP8 hB8 hL8 hv8 hM8 ht8 f8
         go_wp2_with fail
         refine QSz.out.mono ?_
         rintro ey wy ⟨rfl, rfl⟩
         go_wp2_with fail
         go_meet
         exact ⟨R, f1, f2, qa, qc, τ, by rw [if_pos hm2, HZ8.out.2.2.2, upd_self], HR.out.2, OWX.out, HPX.out, HZ8.out.1, HZ8.out.2.1, HZ8.out.2.2.1, fun _ => ⟨HR.out.1.symm, HZ8.out.2.2.2⟩, fun c => absurd hm2 c, HT8.out, FXX.out, HBX.out, HTX.out, HFX.out⟩
       · have hm2i : ¬ (m : Int) < 2 := by omega
         go_wp2_with fail
         go_meet
         exact ⟨noan, 1, -1, none, 0, σ, by rw [if_neg hm2]; rfl, rfl, own_nil _ _, HPr.out.nw N7.out, SameB.refl σ, rfl, rfl, fun c => absurd c hm2, fun _ => ⟨rfl, rfl⟩, fun _ _ => rfl, Fr.refl _ _, B7.out, T7.out, F7.out⟩
      case rest =>
        obtain ⟨R, f1, f2, qa, qc, τ, hu12, hfe, ownq, hP, hB, hL, hv, hM1, hM2, hT, hF, hob, htb, hfb⟩ := hcut
        obtain ⟨sz, hsz⟩ : ∃ z : Nat, z = if m < 2 then R.m.length else 0 := ⟨_, rfl⟩
        rw [← hsz] at hu12
        subst hu12
        have HSV : Hid (sz = if m < 2 then R.m.length else 0) := hsz
        clear hsz
        obtain ⟨wd, hwd⟩ : ∃ x, x = wc := ⟨_, rfl⟩
        subst hwd
        obtain ⟨υ, hυ⟩ : ∃ t, { τ with tag := late τ.tag wd.heap.size 50 } = t := ⟨_, rfl⟩
        have TGD : Hid (∀ j, wd.heap.size ≤ j → υ.tag j = 50) := fun j hj => by rw [← hυ]; exact late_ge hj
        replace hP := hP.tag wd.heap.size 50 (Nat.le_refl _)
        rw [hυ] at hP
        replace hB : SameB σ υ := by rw [← hυ]; exact ⟨hB.N, hB.bv, hB.H, hB.X⟩
        replace hL : υ.L = σ.L := by rw [← hυ]; exact hL
        replace hv : υ.v = σ.v := by rw [← hυ]; exact hv
        have hRR : R = ran O υ.L m := by
          rw [hL]; unfold ran
          by_cases c : m < 2
          · rw [if_pos c, HLMr.out]; exact (hM1 c).1
          · rw [if_neg c]; exact (hM2 c).1
        have hUM : υ.M = if m < 2 then upd σ.M m R.m else σ.M := by
          rw [← hυ]
          by_cases c : m < 2
          · rw [if_pos c]; exact (hM1 c).2
          · rw [if_neg c]; exact (hM2 c).2
        have HfeD : Hid (fe R.c = flt f1 f2) := hfe
        have HqD : Hid (wd.ownsRow w7.heap.size 56 32 (.slice qa R.l.length qc) R.l.length (hsc R.l)) := ownq
        have HPD : Hid (Pm wd κ υ) := hP
        have HsD : Hid (SameB σ υ ∧ υ.L = σ.L ∧ υ.v = σ.v ∧ (υ.M = if m < 2 then upd σ.M m R.m else σ.M)) := ⟨hB, hL, hv, hUM⟩
        have HRR : Hid (R = ran O υ.L m) := hRR
        have HSZ : Hid (w7.heap.size ≤ wd.heap.size ∧ wr.heap.size ≤ w7.heap.size) := ⟨hF.size, N7.out.size⟩
        have BD : Hid (wd.heap[ob]? = some (.cells O.c 53)) := hob
        have TD : Hid (wd.heap[tb]? = some (.cells (tcs (R.n : Int) R.s R.h (.slice qa R.l.length qc)) 59)) := htb
        have FD : Hid (wd.heap[fb]? = some (.cells #[.int .i64 f1, .int .i64 f2] 61)) := hfb
        have NWD : Hid (Nw w wd) := by rw [← HW0.out]; exact hP.nw0
        clear hfe ownq hP hB hL hv hM1 hM2 hT hF hob htb hfb hυ hRR hUM B7 T7 F7 N7
        obtain ⟨px, hpx⟩ := pv_form κ m
        have QST : Hid (∀ V, Nw wd V → Calls Tryz.prog 10 #[.pointer px, .agg O.c] V fun e w' => ∃ q ρ, e = .returned (.tuple #[.agg (tcs (R.n : Int) R.s R.h q), ec a R.c]) ∧ w'.ownsRow V.heap.size 56 32 q R.l.length (hsc R.l) ∧ Pm w' κ ρ ∧ SameB υ ρ ∧ ρ.M = υ.M ∧ ρ.u = υ.u ∧ ρ.L = (if m < 2 then upd υ.L m R.m else υ.L) ∧ (ρ = υ ∨ q.ownBlock = none) ∧ (∀ j, j < V.heap.size → ρ.tag j = υ.tag j) ∧ Fr (fun j => j < wr.heap.size) V w') := fun V hV => by
          have q := step_u (HPD.out.nw hV) m hm4 O OK.out wr.heap.size (fun k hk => heap_lt (HPr.out.lg k hk).blk) (fun k hk g hg => by rw [HsD.out.2.2.1] at hg; exact ((HPr.out.lg k hk).own.lt g hg).2) (HL.out.nw (NWD.out.tr hV)) (HS.out.fr (NWD.out.tr hV) (fun _ _ f => f))
          rw [← HRR.out, hpx] at q
          exact q
        have C4 : Hid (∀ (V : World) (ρ : St), Pm V κ ρ → V.cell? ⟨s4, m, none⟩ = some (.pointer px)) := fun V ρ h => by rw [HB4.out.1, ← hpx]; exact h.c4 m hm4
        clear hpx
        have hm4i : (m : Int) < 4 := by omega
        have hs35r : (tcs (R.n : Int) R.s R.h (.slice qa R.l.length qc)).size = 35 := by
          have h1 := heap_lt TD.out
          refine tcs_size _ _ _ ?_ _
          rw [HRR.out]; unfold ran
          by_cases c : m < 2
          · rw [if_pos c]; exact anw_h _ _ _ _ _ _
          · rw [if_neg c]; exact zh32
        have HR32 : Hid (R.h.length = 32) := by
          show R.h.length = 32
          rw [HRR.out]; unfold ran
          by_cases c : m < 2
          · rw [if_pos c]; exact anw_h _ _ _ _ _ _
          · rw [if_neg c]; exact zh32
        go_upto_region 18 with fail
        go_cut [13, 14] (fun pg ev wx => ∃ (gb : Nat) (qb : Option Addr) (qd : Nat) (ρ : St), pg = ptr gb ∧ ev = ec a R.c ∧ wd.heap.size ≤ gb ∧ wx.heap[gb]? = some (.cells (tcs (R.n : Int) R.s R.h (.slice qb R.l.length qd)) 59) ∧ wx.ownsRow wd.heap.size 56 32 (.slice qb R.l.length qd) R.l.length (hsc R.l) ∧ Pm wx κ ρ ∧ SameB υ ρ ∧ ρ.M = υ.M ∧ ρ.L = (if m < 2 then upd υ.L m R.m else υ.L) ∧ (ρ = υ ∨ (Value.slice qb R.l.length qd).ownBlock = none) ∧ Fr (fun j => j < wr.heap.size) wd wx)
        case first =>
          have nb : Nw wd wd.drew := (Fr.refl _ _).drew
          refine wp_region_held_drew (S := fun V => V.cell? ⟨s4, m, none⟩ = some (.pointer px) ∧ V.heap[ob]? = some (.cells O.c 53)) (by kernel_rfl) ⟨C4.out _ _ (HPD.out.nw nb), BD.out⟩ ?_
          intro hS0
          refine wpAnyH_take (i := 0) (v := .slice (some ⟨s4, 0, none⟩) 4 4) rfl (by kernel_rfl) (by kernel_rfl) (by kernel_rfl) (fun _ _ _ h => h) (Or.inl ⟨by rfl, by intro w hw; go_simp⟩) hS0 ?_
          try simp only [Act.put, List.setIfInBounds_toArray, List.set_cons_zero, List.set_cons_succ]
          refine wpAnyH_take (i := 1) (v := .int .i64 (m : Int)) rfl (by kernel_rfl) (by kernel_rfl) (by kernel_rfl) (fun _ _ _ h => h) (Or.inl ⟨by rfl, by intro w hw; go_simp⟩) hS0 ?_
          try simp only [Act.put, List.setIfInBounds_toArray, List.set_cons_zero, List.set_cons_succ]
          refine wpAnyH_take (i := 2) (v := .pointer (some ⟨s4, m, none⟩)) rfl (by kernel_rfl) (by kernel_rfl) (by kernel_rfl) (fun _ _ _ h => h) (Or.inl ⟨by rfl, by intro w hw; go_simp⟩) hS0 ?_
          try simp only [Act.put, List.setIfInBounds_toArray, List.set_cons_zero, List.set_cons_succ]
          refine wpAnyH_take (i := 3) (v := .pointer px) rfl (by kernel_rfl) (by kernel_rfl) (by kernel_rfl) (fun _ _ _ h => h) (Or.inl ⟨by rfl, by intro w hw; have hc := hw.1; go_simp⟩) hS0 ?_
          try simp only [Act.put, List.setIfInBounds_toArray, List.set_cons_zero, List.set_cons_succ]
          refine wpAnyH_take (i := 4) (oi := ({ dst := some 75, op := Op.load 53 (Operand.tmp 8), type := 53, pos := "law.go:118", after := #[], guard := none } : Oper)) (v := .agg O.c) rfl (by kernel_rfl) (by kernel_rfl) (by kernel_rfl) (fun _ _ _ h => h) (yields_load_agg rfl (.tmp 8) 53 6 rfl Tryz.isAgg53 Tryz.sizeOf53 ob rfl 53 _ rfl (fun w hw => hw.2)) hS0 ?_
          try simp only [Act.put, List.setIfInBounds_toArray, List.set_cons_zero, List.set_cons_succ]
          refine wpAnyH_ready (rs := [5, 9]) (by kernel_rfl) (by simp) ?_
          refine AllReadyH.cons rfl (fun K' hK => ?_) (AllReadyH.cons rfl (fun K' hK => ?_) AllReadyH.nil)
          · go_simp
            go_wp2_with (go_at_call 10; refine (QST.out _ nb).mono ?_; rintro e8 w8 ⟨q, ρ, rfl, own8, p8, sb8, mm8, uu8, ll8, rr8, tt8, f8⟩)
            obtain ⟨qb, qd, rfl⟩ := ownsRow_form own8
            have hs35q : (tcs (R.n : Int) R.s R.h (.slice qb R.l.length qd)).size = 35 := tcs_size _ _ _ HR32.out _
            have B8 := (f8.block ob (heap_lt BD.out) (fun q => by have := HFB.out; omega)).trans BD.out
            refine hK.out _ _ ⟨C4.out _ _ p8, B8⟩ (fun hS0 => ?_)
            try simp only [Act.put, List.setIfInBounds_toArray, List.set_cons_zero, List.set_cons_succ]
            refine wpAnyH_take (i := 6) (v := .tuple #[.agg (tcs (R.n : Int) R.s R.h (.slice qb R.l.length qd)), ec a R.c]) rfl (by kernel_rfl) (by kernel_rfl) (by kernel_rfl) (fun _ _ _ h => h) (Or.inl ⟨by rfl, by intro w hw; go_simp⟩) hS0 ?_
            try simp only [Act.put, List.setIfInBounds_toArray, List.set_cons_zero, List.set_cons_succ]
            refine wpAnyH_take (i := 7) (v := .agg (tcs (R.n : Int) R.s R.h (.slice qb R.l.length qd))) rfl (by kernel_rfl) (by kernel_rfl) (by kernel_rfl) (fun _ _ _ h => h) (Or.inl ⟨by rfl, by intro w hw; go_simp⟩) hS0 ?_
            try simp only [Act.put, List.setIfInBounds_toArray, List.set_cons_zero, List.set_cons_succ]
            refine wpAnyH_take (i := 8) (v := ec a R.c) rfl (by kernel_rfl) (by kernel_rfl) (by kernel_rfl) (fun _ _ _ h => h) (Or.inl ⟨by rfl, by intro w hw; go_simp⟩) hS0 ?_
            try simp only [Act.put, List.setIfInBounds_toArray, List.set_cons_zero, List.set_cons_succ]
            refine wpAnyH_ready (rs := [9]) (by kernel_rfl) (by simp) ?_
            refine AllReadyH.cons rfl (fun K' hK => ?_) AllReadyH.nil
            go_simp
            rw [tz_h]
            obtain ⟨w9, hw9⟩ : ∃ w9, w8.alloc (.cells (tcs 0 ⟨#[]⟩ zh (.slice none 0 0)) 59) = w9 := ⟨_, rfl⟩
            have n9 : Nw w8 w9 := by rw [← hw9]; exact nwa w8 _
            have G9 : w9.heap[w8.heap.size]? = some (.cells (tcs 0 ⟨#[]⟩ zh (.slice none 0 0)) 59) := by rw [← hw9]; exact heap_new _ _
            rw [hw9]
            have B9 := (n9.block ob (heap_lt B8) (fun f => f)).trans B8
            refine hK.out _ _ ⟨C4.out _ _ (p8.nw n9), B9⟩ (fun hS0 => ?_)
            try simp only [Act.put, List.setIfInBounds_toArray, List.set_cons_zero, List.set_cons_succ]
            refine wpAnyH_ready (rs := [10]) (by kernel_rfl) (by simp) ?_
            refine AllReadyH.cons rfl (fun K' hK => ?_) AllReadyH.nil
            refine step_store_agg rfl (.tmp 13) (.tmp 77) 59 35 rfl Tryz.sizeOf59 w8.heap.size 0 rfl _ 59 G9 (tcs (R.n : Int) R.s R.h (.slice qb R.l.length qd)) rfl hs35q (tcs_one _ _ _ _ _ _) (Nat.le_of_eq hs35.symm) (tcs (R.n : Int) R.s R.h (.slice qb R.l.length qd)) (by rw [drop_all hs35]; simp) ?_
            intro wx jx fx zx
            have nx : Nw w8 wx := n9.trans fx (fun j hj e => by omega)
            have BX := (nx.block ob (heap_lt B8) (fun f => f)).trans B8
            refine hK.out _ _ ⟨C4.out _ _ (p8.nw nx), BX⟩ (fun hS0 => ?_)
            try simp only [Act.put, List.setIfInBounds_toArray, List.set_cons_zero, List.set_cons_succ]
            refine wpAnyH_ready (rs := [11]) (by kernel_rfl) (by simp) ?_
            refine AllReadyH.cons rfl (fun K' hK => ?_) AllReadyH.nil
            go_simp
            refine hK.out _ _ ⟨C4.out _ _ (p8.nw nx), BX⟩ (fun hS0 => ?_)
            try simp only [Act.put, List.setIfInBounds_toArray, List.set_cons_zero, List.set_cons_succ]
            refine wpAnyH_done (by kernel_rfl) ?_ _
            try go_wp2_with fail
            go_meet
            have hz : wd.drew.heap.size = wd.heap.size := rfl
            exact ⟨w8.heap.size, qb, qd, ρ, rfl, rfl, by have := f8.size; omega, jx, ownsRow_keep own8 (fun g hg => nx.block g (own8.lt g hg).2 (fun f => f)), p8.nw nx, sb8, mm8, ll8, rr8, ((nb.mono (fun _ _ f => f.elim)).trans f8 (fun _ _ q => q)).trans nx (fun _ _ f => f.elim)⟩
          · go_simp
            rw [tz_h]
            obtain ⟨we, hwe⟩ : ∃ we, (wd.alloc (.cells (tcs 0 ⟨#[]⟩ zh (.slice none 0 0)) 59)).drew = we := ⟨_, rfl⟩
            have ne : Nw wd we := by rw [← hwe]; exact (nwa wd _).drew
            have GE : we.heap[wd.heap.size]? = some (.cells (tcs 0 ⟨#[]⟩ zh (.slice none 0 0)) 59) := by rw [← hwe]; exact heap_new _ _
            rw [hwe]
            have BE := (ne.block ob (heap_lt BD.out) (fun f => f)).trans BD.out
            refine hK.out _ _ ⟨C4.out _ _ (HPD.out.nw ne), BE⟩ (fun hS0 => ?_)
            try simp only [Act.put, List.setIfInBounds_toArray, List.set_cons_zero, List.set_cons_succ]
            refine wpAnyH_ready (rs := [5]) (by kernel_rfl) (by simp) ?_
            refine AllReadyH.cons rfl (fun K' hK => ?_) AllReadyH.nil
            go_simp
            go_wp2_with (go_at_call 10; refine (QST.out _ ne).mono ?_; rintro e8 w8 ⟨q, ρ, rfl, own8, p8, sb8, mm8, uu8, ll8, rr8, tt8, f8⟩)
            obtain ⟨qb, qd, rfl⟩ := ownsRow_form own8
            have hs35q : (tcs (R.n : Int) R.s R.h (.slice qb R.l.length qd)).size = 35 := tcs_size _ _ _ HR32.out _
            have hlw := heap_lt BD.out
            have B8 := (f8.block ob (heap_lt BE) (fun q => by have := HFB.out; omega)).trans BE
            have G8 := (f8.block wd.heap.size (heap_lt GE) (fun q => by have := HFB.out; omega)).trans GE
            have tg8 : ρ.tag wd.heap.size = 50 := (tt8 _ (heap_lt GE)).trans (TGD.out _ (Nat.le_refl _))
            refine hK.out _ _ ⟨C4.out _ _ p8, B8⟩ (fun hS0 => ?_)
            try simp only [Act.put, List.setIfInBounds_toArray, List.set_cons_zero, List.set_cons_succ]
            refine wpAnyH_take (i := 6) (v := .tuple #[.agg (tcs (R.n : Int) R.s R.h (.slice qb R.l.length qd)), ec a R.c]) rfl (by kernel_rfl) (by kernel_rfl) (by kernel_rfl) (fun _ _ _ h => h) (Or.inl ⟨by rfl, by intro w hw; go_simp⟩) hS0 ?_
            try simp only [Act.put, List.setIfInBounds_toArray, List.set_cons_zero, List.set_cons_succ]
            refine wpAnyH_take (i := 7) (v := .agg (tcs (R.n : Int) R.s R.h (.slice qb R.l.length qd))) rfl (by kernel_rfl) (by kernel_rfl) (by kernel_rfl) (fun _ _ _ h => h) (Or.inl ⟨by rfl, by intro w hw; go_simp⟩) hS0 ?_
            try simp only [Act.put, List.setIfInBounds_toArray, List.set_cons_zero, List.set_cons_succ]
            refine wpAnyH_take (i := 8) (v := ec a R.c) rfl (by kernel_rfl) (by kernel_rfl) (by kernel_rfl) (fun _ _ _ h => h) (Or.inl ⟨by rfl, by intro w hw; go_simp⟩) hS0 ?_
            try simp only [Act.put, List.setIfInBounds_toArray, List.set_cons_zero, List.set_cons_succ]
            refine wpAnyH_ready (rs := [10]) (by kernel_rfl) (by simp) ?_
            refine AllReadyH.cons rfl (fun K' hK => ?_) AllReadyH.nil
            refine step_store_agg rfl (.tmp 13) (.tmp 77) 59 35 rfl Tryz.sizeOf59 wd.heap.size 0 rfl _ 59 G8 (tcs (R.n : Int) R.s R.h (.slice qb R.l.length qd)) rfl hs35q (tcs_one _ _ _ _ _ _) (Nat.le_of_eq hs35.symm) (tcs (R.n : Int) R.s R.h (.slice qb R.l.length qd)) (by rw [drop_all hs35]; simp) ?_
            intro wx jx fx zx
            have PX := p8.frt fx (fun j e => by rw [e]; exact tg8)
            have BX := (fx.block ob (heap_lt B8) (fun e => by omega)).trans B8
            refine hK.out _ _ ⟨C4.out _ _ PX, BX⟩ (fun hS0 => ?_)
            try simp only [Act.put, List.setIfInBounds_toArray, List.set_cons_zero, List.set_cons_succ]
            refine wpAnyH_ready (rs := [11]) (by kernel_rfl) (by simp) ?_
            refine AllReadyH.cons rfl (fun K' hK => ?_) AllReadyH.nil
            go_simp
            refine hK.out _ _ ⟨C4.out _ _ PX, BX⟩ (fun hS0 => ?_)
            try simp only [Act.put, List.setIfInBounds_toArray, List.set_cons_zero, List.set_cons_succ]
            refine wpAnyH_done (by kernel_rfl) ?_ _
            try go_wp2_with fail
            go_meet
            have hlg := heap_lt GE
            exact ⟨wd.heap.size, qb, qd, ρ, rfl, rfl, Nat.le_refl _, jx, own_mono (ownsRow_keep own8 (fun g hg => fx.block g (own8.lt g hg).2 (fun e => by have := (own8.lt g hg).1; omega))) ne.size, PX, sb8, mm8, ll8, rr8, ((ne.mono (fun _ _ f => f.elim)).trans f8 (fun _ _ q => q)).trans fx (fun j hj e => by omega)⟩
        case rest =>
          obtain ⟨gb, qb, qd, ρ, hpg, hev, hgb, hG, ownb, hP, sb, hM, hLL, hr, hF⟩ := hcut
          subst hpg
          have hec := hev
          clear hev
          obtain ⟨wg, hwg⟩ : ∃ x, x = wc := ⟨_, rfl⟩
          subst hwg
          have hR1000 : R.l.length ≤ 1000 := by
            rw [HRR.out]; unfold ran
            by_cases c : m < 2
            · rw [if_pos c]; exact anw_len _ _ _ _ _ _ (by rw [HsD.out.2.1]; exact (HPr.out.lg m c).len)
            · rw [if_neg c]; simp [noan]
          have hR32 : ∀ x ∈ R.l, x.length = 32 := by
            rw [HRR.out]; unfold ran
            by_cases c : m < 2
            · rw [if_pos c]; exact anw_32 _ _ _ _ _ _
            · rw [if_neg c]; simp [noan]
          have hRc : R.c ≤ 5 := by
            rw [HRR.out]; unfold ran
            by_cases c : m < 2
            · rw [if_pos c]; exact anw_c _ _ _ _ _ _
            · rw [if_neg c]; simp [noan]
          have hfbx := HFB.out
          have hszx := HSZ.out
          have BG : Hid (wg.heap[ob]? = some (.cells O.c 53)) := (hF.block ob (heap_lt BD.out) (fun q => by omega)).trans BD.out
          have TGG : Hid (wg.heap[tb]? = some (.cells (tcs (R.n : Int) R.s R.h (.slice qa R.l.length qc)) 59)) := (hF.block tb (heap_lt TD.out) (fun q => by omega)).trans TD.out
          have FG : Hid (wg.heap[fb]? = some (.cells #[.int .i64 f1, .int .i64 f2] 61)) := (hF.block fb (heap_lt FD.out) (fun q => by omega)).trans FD.out
          have GG : Hid (wg.heap[gb]? = some (.cells (tcs (R.n : Int) R.s R.h (.slice qb R.l.length qd)) 59)) := hG
          have HQA : Hid (Hss wg (.slice qa R.l.length qc) R.l) := Hss.of hR32 (ownsRow_keep HqD.out (fun g hg => hF.block g (HqD.out.lt g hg).2 (fun q => by have := (HqD.out.lt g hg).1; omega)))
          have HQB : Hid (Hss wg (.slice qb R.l.length qd) R.l) := Hss.of hR32 ownb
          have OWB : Hid (wg.ownsRow wd.heap.size 56 32 (.slice qb R.l.length qd) R.l.length (hsc R.l)) := ownb
          have OWA : Hid (wg.ownsRow w7.heap.size 56 32 (.slice qa R.l.length qc) R.l.length (hsc R.l)) := ownsRow_keep HqD.out (fun g hg => hF.block g (HqD.out.lt g hg).2 (fun q => by have := (HqD.out.lt g hg).1; omega))
          have NWG : Hid (Nw w wg) := by rw [← HW0.out]; exact hP.nw0
          have HPG : Hid (Pm wg κ ρ) := hP
          have HSG : Hid (SameB υ ρ ∧ ρ.M = υ.M ∧ (ρ.L = if m < 2 then upd υ.L m R.m else υ.L) ∧ (ρ = υ ∨ (Value.slice qb R.l.length qd).ownBlock = none)) := ⟨sb, hM, hLL, hr⟩
          have QSA : Hid (∀ V, Nw wg V → Calls Tryz.prog 11 #[.agg (tcs (R.n : Int) R.s R.h (.slice qb R.l.length qd)), .agg (tcs (R.n : Int) R.s R.h (.slice qa R.l.length qc))] V fun e w' => e = .returned (.bool true) ∧ Nw V w') := fun V hV => same_told R.n R.s R.h HR32.out R.l hR32 hR1000 _ _ V (HQB.out.nw hR32 hV) (HQA.out.nw hR32 hV)
          have QSE : Hid (∀ V, Nw wg V → Calls Tryz.prog 12 #[u14, .agg #[.int .i64 f1, .int .i64 f2]] V fun e w' => e = .returned (.bool true) ∧ Nw V w') := fun V hV => by
            have q := same_err (HS.out.fr (NWG.out.tr hV) (fun _ _ f => f)) R.c hRc
            rw [HfeD.out, ← hec] at q
            exact q
          have CG : Hid (wg.cell? ⟨s4, m, none⟩ = some (.pointer px)) := C4.out _ _ hP
          have QSI : Hid (∀ V, Nw wg V → Calls Tryz.prog 13 #[.pointer px] V fun e w' => e = .returned (.int .u64 (sz : Int)) ∧ Nw V w') := fun V hV => by
            have hpx : pv κ m = .pointer px := by
              have h1 := hP.c4 m hm4
              have h2 := CG.out
              rw [HB4.out.1] at h2
              rw [h1] at h2
              exact Option.some.inj h2
            by_cases c : m < 2
            · have e1 : pv κ m = ptr (κ.b m) := by simp [pv, c]
              have e2 : (ρ.L m).length = sz := by rw [HSV.out, if_pos c, HSG.out.2.2.1, if_pos c, upd_self]
              rw [← hpx, e1]
              exact (lsize_any ((hP.nw hV).lg m c)).mono fun e w' h => ⟨by rw [h.1, e2], by rw [h.2]; exact nwr V⟩
            · have e2 : sz = 0 := by rw [HSV.out, if_neg c]
              have hN : NoL V (.pointer px) := by
                rw [← hpx]
                rcases (by omega : m = 2 ∨ m = 3) with rfl | rfl
                · exact .inl rfl
                · exact .inr ⟨κ.bu, _, rfl, (hP.nw hV).un⟩
              exact (size_no hN).mono fun e w' h => ⟨by rw [h.1, e2]; rfl, by rw [h.2]; exact nwr V⟩
          have hs35a : (tcs (R.n : Int) R.s R.h (.slice qb R.l.length qd)).size = 35 := tcs_size _ _ _ HR32.out _
          clear hG ownb hP sb hM hLL hr hF hec hfbx hszx
          go_wp2_with first
            | (refine wp_load_agg rfl (.tmp 13) 59 35 rfl Tryz.isAgg59 Tryz.sizeOf59 gb 0 rfl _ 59 (0, 0) GG.out (tcs (R.n : Int) R.s R.h (.slice qb R.l.length qd)) hs35a (fun j _ => by rw [Nat.zero_add]) ?_)
            | (refine wp_load_agg rfl (.tmp 10) 59 35 rfl Tryz.isAgg59 Tryz.sizeOf59 tb 0 rfl _ 59 (0, 0) TGG.out (tcs (R.n : Int) R.s R.h (.slice qa R.l.length qc)) hs35r (fun j _ => by rw [Nat.zero_add]) ?_)
          refine (QSA.out _ (nwr wg)).mono ?_
          rintro e19 wh ⟨rfl, nh⟩
          have FH : wh.heap[fb]? = some (.cells #[.int .i64 f1, .int .i64 f2] 61) := (nh.block _ (heap_lt FG.out) (fun f => f)).trans FG.out
          have fh0 := cell2a FH
          have fh1 := cell2b FH
          have NH : Hid (Nw wg wh) := nh
          clear nh
          go_wp2_with fail
          refine (QSE.out _ NH.out).mono ?_
          rintro e20 wi ⟨rfl, ni⟩
          have NI : Hid (Nw wg wi) := NH.out.tr ni
          have ci := C4.out wi ρ (HPG.out.nw NI.out)
          clear ni fh0 fh1 FH
          go_wp2_with fail
          refine (QSI.out _ NI.out).mono ?_
          rintro e21 wj ⟨rfl, nj⟩
          have NJ : Hid (Nw wg wj) := NI.out.tr nj
          have cg : wj.cell? ⟨gb, 34, none⟩ = some (.slice qb R.l.length qd) := NJ.out.cellOf ((cell_of GG.out 34).trans (tcs_34 _ _ _ HR32.out _))
          clear nj ci
          have BJ : Hid (wj.heap[ob]? = some (.cells O.c 53)) := (NJ.out.block _ (heap_lt BG.out) (fun f => f)).trans BG.out
          have bvE : ρ.bv = σ.bv := HSG.out.1.bv.trans HsD.out.1.bv
          have nE : ρ.N = σ.N := HSG.out.1.N.trans HsD.out.1.N
          have hnr := HNr.out
          have QHA : Hid (Calls Tryz.prog 14 #[.pointer (some ⟨bk, 0, none⟩), .slice qb R.l.length qd] wj fun e w' => e = .returned (.tuple #[]) ∧ ∃ φ, Pm w' κ φ ∧ φ.N = ρ.N + 1 ∧ φ.L = ρ.L ∧ φ.M = ρ.M ∧ φ.v = ρ.v ∧ φ.u = ρ.u ∧ Fr (fun j => j < wr.heap.size) wj w') := by
            rw [HB4.out.2.2]
            have hsz2 : wd.heap.size ≤ wg.heap.size := by have := heap_lt GG.out; omega
            exact hashes_pm (wb := wd) (HPG.out.nw NJ.out) (Nat.le_trans hsz2 NJ.out.size) _ R.l hR1000 hR32 (ownsRow_keep OWB.out (fun g hg => NJ.out.block g (OWB.out.lt g hg).2 (fun f => f))) (by rcases HSG.out.2.2.2 with h | h; exact .inl (by rw [h]; exact HPD.out); exact .inr h) (by omega) wr.heap.size (heap_lt HPr.out.bk.blk) (fun g hg => by rw [bvE] at hg; exact (HPr.out.bk.own.lt g hg).2)
          go_wp2_with fail
          refine QHA.out.mono ?_
          rintro e22 wk ⟨rfl, φ, pk, nk, lk, mk, vk, uk, fk⟩
          have HPK : Hid (Pm wk κ φ) := pk
          have HSK : Hid (φ.N = ρ.N + 1 ∧ φ.L = ρ.L ∧ φ.M = ρ.M ∧ φ.v = ρ.v ∧ φ.u = ρ.u) := ⟨nk, lk, mk, vk, uk⟩
          have FK : Hid (Fr (fun j => j < wr.heap.size) wj wk) := fk
          have BK : wk.heap[ob]? = some (.cells O.c 53) := (fk.block ob (heap_lt BJ.out) (fun q => by have := HFB.out; omega)).trans BJ.out
          have bk1 := (cell_of BK 1).trans rfl
          have HBK : Hid (wk.heap[ob]? = some (.cells O.c 53)) := BK
          clear pk nk lk mk vk uk fk BK cg
          go_wp2_with fail
          refine (round_any O.kind 7 OK.out.k1 OK.out.k2 (by decide) (by decide) _).mono ?_
          rintro e23 wl ⟨rfl, rfl⟩
          by_cases hk0 : O.kind % 7 = 0
          · rw [hk0]
            go_wp2_with fail
            have hLM2 : φ.L = φ.M := by rw [HSK.out.2.1, HSG.out.2.2.1, HSK.out.2.2.1, HSG.out.2.1, HsD.out.2.2.2, HsD.out.2.1, HLMr.out]
            have hN2 : φ.N = σ.N + 1 := by rw [HSK.out.1, nE]
            exact ⟨⟨k + 1, φ, by omega, by go_num, HPK.out, hLM2, by omega⟩, by simp [intOf]; omega⟩
          · have hRP : R = ran O φ.L m := by
              have e1 : φ.L = υ.L := by
                rw [HSK.out.2.1, HSG.out.2.2.1]
                have := ran_again O υ.L m hk0
                rw [← HRR.out] at this
                exact this
              rw [e1]; exact HRR.out
            have NWL : Hid (Nw w wl) := by
              show Nw w wl
              rw [← HW0.out]; exact HPK.out.nw0
            have hpx2 : pv κ m = .pointer px := by
              have h1 := HPK.out.c4 m hm4
              have h2 := C4.out _ _ HPK.out
              rw [HB4.out.1, h1] at h2
              exact Option.some.inj h2
            have QS2 : Hid (∀ V, Nw wl V → Calls Tryz.prog 10 #[.pointer px, .agg O.c] V fun e w' => ∃ q, e = .returned (.tuple #[.agg (tcs (R.n : Int) R.s R.h q), ec a R.c]) ∧ w'.ownsRow V.heap.size 56 32 q R.l.length (hsc R.l) ∧ Nw V w') := fun V hV => by
              have q := step_n (HPK.out.nw hV) m hm4 O OK.out hk0 (HL.out.nw (NWL.out.tr hV)) (HS.out.fr (NWL.out.tr hV) (fun _ _ f => f))
              rw [← hRP, hpx2] at q
              exact q
            have KP : Hid (∀ V, Nw wl V → V.cell? ⟨s4, m, none⟩ = some (.pointer px) ∧ V.heap[ob]? = some (.cells O.c 53)) := fun V hV => ⟨C4.out _ _ (HPK.out.nw hV), (hV.block _ (heap_lt HBK.out) (fun f => f)).trans HBK.out⟩
            have hfbx := HFB.out
            have hszx := HSZ.out
            have TL : Hid (wl.heap[tb]? = some (.cells (tcs (R.n : Int) R.s R.h (.slice qa R.l.length qc)) 59)) := (FK.out.block tb (heap_lt ((NJ.out.block _ (heap_lt TGG.out) (fun f => f)).trans TGG.out)) (fun q => by omega)).trans ((NJ.out.block _ (heap_lt TGG.out) (fun f => f)).trans TGG.out)
            have FL : Hid (wl.heap[fb]? = some (.cells #[.int .i64 f1, .int .i64 f2] 61)) := (FK.out.block fb (heap_lt ((NJ.out.block _ (heap_lt FG.out) (fun f => f)).trans FG.out)) (fun q => by omega)).trans ((NJ.out.block _ (heap_lt FG.out) (fun f => f)).trans FG.out)
            have OWL : Hid (wl.ownsRow w7.heap.size 56 32 (.slice qa R.l.length qc) R.l.length (hsc R.l)) := ownsRow_keep OWA.out (fun g hg => (FK.out.block g (Nat.lt_of_lt_of_le (OWA.out.lt g hg).2 NJ.out.size) (fun q => by have := (OWA.out.lt g hg).1; omega)).trans (NJ.out.block g (OWA.out.lt g hg).2 (fun f => f)))
            clear hpx2 hRP hfbx hszx
            go_upto_region 23 with fail
            go_cut [15, 14] (fun pg ev wx => ∃ (gb2 : Nat) (qe : Option Addr) (qf : Nat), pg = ptr gb2 ∧ ev = ec a R.c ∧ wx.heap[gb2]? = some (.cells (tcs (R.n : Int) R.s R.h (.slice qe R.l.length qf)) 59) ∧ wx.ownsRow wl.heap.size 56 32 (.slice qe R.l.length qf) R.l.length (hsc R.l) ∧ Nw wl wx)
            case first =>
              have nb : Nw wl wl.drew := (Fr.refl _ _).drew
              refine wp_region_held_drew (S := fun V => V.cell? ⟨s4, m, none⟩ = some (.pointer px) ∧ V.heap[ob]? = some (.cells O.c 53)) (by kernel_rfl) (KP.out _ nb) ?_
              intro hS0
              refine wpAnyH_take (i := 0) (v := .slice (some ⟨s4, 0, none⟩) 4 4) rfl (by kernel_rfl) (by kernel_rfl) (by kernel_rfl) (fun _ _ _ h => h) (Or.inl ⟨by rfl, by intro w hw; go_simp⟩) hS0 ?_
              try simp only [Act.put, List.setIfInBounds_toArray, List.set_cons_zero, List.set_cons_succ]
              refine wpAnyH_take (i := 1) (v := .int .i64 (m : Int)) rfl (by kernel_rfl) (by kernel_rfl) (by kernel_rfl) (fun _ _ _ h => h) (Or.inl ⟨by rfl, by intro w hw; go_simp⟩) hS0 ?_
              try simp only [Act.put, List.setIfInBounds_toArray, List.set_cons_zero, List.set_cons_succ]
              refine wpAnyH_take (i := 2) (v := .pointer (some ⟨s4, m, none⟩)) rfl (by kernel_rfl) (by kernel_rfl) (by kernel_rfl) (fun _ _ _ h => h) (Or.inl ⟨by rfl, by intro w hw; go_simp⟩) hS0 ?_
              try simp only [Act.put, List.setIfInBounds_toArray, List.set_cons_zero, List.set_cons_succ]
              refine wpAnyH_take (i := 3) (v := .pointer px) rfl (by kernel_rfl) (by kernel_rfl) (by kernel_rfl) (fun _ _ _ h => h) (Or.inl ⟨by rfl, by intro w hw; have hc := hw.1; go_simp⟩) hS0 ?_
              try simp only [Act.put, List.setIfInBounds_toArray, List.set_cons_zero, List.set_cons_succ]
              refine wpAnyH_take (i := 4) (oi := ({ dst := some 110, op := Op.load 53 (Operand.tmp 8), type := 53, pos := "law.go:126", after := #[], guard := none } : Oper)) (v := .agg O.c) rfl (by kernel_rfl) (by kernel_rfl) (by kernel_rfl) (fun _ _ _ h => h) (yields_load_agg rfl (.tmp 8) 53 6 rfl Tryz.isAgg53 Tryz.sizeOf53 ob rfl 53 _ rfl (fun w hw => hw.2)) hS0 ?_
              try simp only [Act.put, List.setIfInBounds_toArray, List.set_cons_zero, List.set_cons_succ]
              refine wpAnyH_ready (rs := [5, 9]) (by kernel_rfl) (by simp) ?_
              refine AllReadyH.cons rfl (fun K' hK => ?_) (AllReadyH.cons rfl (fun K' hK => ?_) AllReadyH.nil)
              · go_simp
                go_wp2_with (go_at_call 10; refine (QS2.out _ nb).mono ?_; rintro e8 w8 ⟨q, rfl, own8, n8⟩)
                obtain ⟨qe, qf, rfl⟩ := ownsRow_form own8
                have hs35q : (tcs (R.n : Int) R.s R.h (.slice qe R.l.length qf)).size = 35 := tcs_size _ _ _ HR32.out _
                have n8b : Nw wl w8 := nb.tr n8
                refine hK.out _ _ (KP.out _ n8b) (fun hS0 => ?_)
                try simp only [Act.put, List.setIfInBounds_toArray, List.set_cons_zero, List.set_cons_succ]
                refine wpAnyH_take (i := 6) (v := .tuple #[.agg (tcs (R.n : Int) R.s R.h (.slice qe R.l.length qf)), ec a R.c]) rfl (by kernel_rfl) (by kernel_rfl) (by kernel_rfl) (fun _ _ _ h => h) (Or.inl ⟨by rfl, by intro w hw; go_simp⟩) hS0 ?_
                try simp only [Act.put, List.setIfInBounds_toArray, List.set_cons_zero, List.set_cons_succ]
                refine wpAnyH_take (i := 7) (v := .agg (tcs (R.n : Int) R.s R.h (.slice qe R.l.length qf))) rfl (by kernel_rfl) (by kernel_rfl) (by kernel_rfl) (fun _ _ _ h => h) (Or.inl ⟨by rfl, by intro w hw; go_simp⟩) hS0 ?_
                try simp only [Act.put, List.setIfInBounds_toArray, List.set_cons_zero, List.set_cons_succ]
                refine wpAnyH_take (i := 8) (v := ec a R.c) rfl (by kernel_rfl) (by kernel_rfl) (by kernel_rfl) (fun _ _ _ h => h) (Or.inl ⟨by rfl, by intro w hw; go_simp⟩) hS0 ?_
                try simp only [Act.put, List.setIfInBounds_toArray, List.set_cons_zero, List.set_cons_succ]
                refine wpAnyH_ready (rs := [9]) (by kernel_rfl) (by simp) ?_
                refine AllReadyH.cons rfl (fun K' hK => ?_) AllReadyH.nil
                go_simp
                rw [tz_h]
                obtain ⟨w9, hw9⟩ : ∃ w9, w8.alloc (.cells (tcs 0 ⟨#[]⟩ zh (.slice none 0 0)) 59) = w9 := ⟨_, rfl⟩
                have n9 : Nw w8 w9 := by rw [← hw9]; exact nwa w8 _
                have G9 : w9.heap[w8.heap.size]? = some (.cells (tcs 0 ⟨#[]⟩ zh (.slice none 0 0)) 59) := by rw [← hw9]; exact heap_new _ _
                rw [hw9]
                refine hK.out _ _ (KP.out _ (n8b.tr n9)) (fun hS0 => ?_)
                try simp only [Act.put, List.setIfInBounds_toArray, List.set_cons_zero, List.set_cons_succ]
                refine wpAnyH_ready (rs := [10]) (by kernel_rfl) (by simp) ?_
                refine AllReadyH.cons rfl (fun K' hK => ?_) AllReadyH.nil
                refine step_store_agg rfl (.tmp 15) (.tmp 112) 59 35 rfl Tryz.sizeOf59 w8.heap.size 0 rfl _ 59 G9 (tcs (R.n : Int) R.s R.h (.slice qe R.l.length qf)) rfl hs35q (tcs_one _ _ _ _ _ _) (Nat.le_of_eq hs35.symm) (tcs (R.n : Int) R.s R.h (.slice qe R.l.length qf)) (by rw [drop_all hs35]; simp) ?_
                intro wx jx fx zx
                have nx : Nw w8 wx := n9.trans fx (fun j hj e => by omega)
                refine hK.out _ _ (KP.out _ (n8b.tr nx)) (fun hS0 => ?_)
                try simp only [Act.put, List.setIfInBounds_toArray, List.set_cons_zero, List.set_cons_succ]
                refine wpAnyH_ready (rs := [11]) (by kernel_rfl) (by simp) ?_
                refine AllReadyH.cons rfl (fun K' hK => ?_) AllReadyH.nil
                go_simp
                refine hK.out _ _ (KP.out _ (n8b.tr nx)) (fun hS0 => ?_)
                try simp only [Act.put, List.setIfInBounds_toArray, List.set_cons_zero, List.set_cons_succ]
                refine wpAnyH_done (by kernel_rfl) ?_ _
                try go_wp2_with fail
                go_meet
                have hz : wl.drew.heap.size = wl.heap.size := rfl
                exact ⟨w8.heap.size, qe, qf, rfl, rfl, jx, ownsRow_keep own8 (fun g hg => nx.block g (own8.lt g hg).2 (fun f => f)), n8b.tr nx⟩
              · go_simp
                rw [tz_h]
                obtain ⟨we, hwe⟩ : ∃ we, (wl.alloc (.cells (tcs 0 ⟨#[]⟩ zh (.slice none 0 0)) 59)).drew = we := ⟨_, rfl⟩
                have ne : Nw wl we := by rw [← hwe]; exact (nwa wl _).drew
                have GE : we.heap[wl.heap.size]? = some (.cells (tcs 0 ⟨#[]⟩ zh (.slice none 0 0)) 59) := by rw [← hwe]; exact heap_new _ _
                rw [hwe]
                refine hK.out _ _ (KP.out _ ne) (fun hS0 => ?_)
                try simp only [Act.put, List.setIfInBounds_toArray, List.set_cons_zero, List.set_cons_succ]
                refine wpAnyH_ready (rs := [5]) (by kernel_rfl) (by simp) ?_
                refine AllReadyH.cons rfl (fun K' hK => ?_) AllReadyH.nil
                go_simp
                go_wp2_with (go_at_call 10; refine (QS2.out _ ne).mono ?_; rintro e8 w8 ⟨q, rfl, own8, n8⟩)
                obtain ⟨qe, qf, rfl⟩ := ownsRow_form own8
                have hs35q : (tcs (R.n : Int) R.s R.h (.slice qe R.l.length qf)).size = 35 := tcs_size _ _ _ HR32.out _
                have G8 := (n8.block wl.heap.size (heap_lt GE) (fun f => f)).trans GE
                refine hK.out _ _ (KP.out _ (ne.tr n8)) (fun hS0 => ?_)
                try simp only [Act.put, List.setIfInBounds_toArray, List.set_cons_zero, List.set_cons_succ]
                refine wpAnyH_take (i := 6) (v := .tuple #[.agg (tcs (R.n : Int) R.s R.h (.slice qe R.l.length qf)), ec a R.c]) rfl (by kernel_rfl) (by kernel_rfl) (by kernel_rfl) (fun _ _ _ h => h) (Or.inl ⟨by rfl, by intro w hw; go_simp⟩) hS0 ?_
                try simp only [Act.put, List.setIfInBounds_toArray, List.set_cons_zero, List.set_cons_succ]
                refine wpAnyH_take (i := 7) (v := .agg (tcs (R.n : Int) R.s R.h (.slice qe R.l.length qf))) rfl (by kernel_rfl) (by kernel_rfl) (by kernel_rfl) (fun _ _ _ h => h) (Or.inl ⟨by rfl, by intro w hw; go_simp⟩) hS0 ?_
                try simp only [Act.put, List.setIfInBounds_toArray, List.set_cons_zero, List.set_cons_succ]
                refine wpAnyH_take (i := 8) (v := ec a R.c) rfl (by kernel_rfl) (by kernel_rfl) (by kernel_rfl) (fun _ _ _ h => h) (Or.inl ⟨by rfl, by intro w hw; go_simp⟩) hS0 ?_
                try simp only [Act.put, List.setIfInBounds_toArray, List.set_cons_zero, List.set_cons_succ]
                refine wpAnyH_ready (rs := [10]) (by kernel_rfl) (by simp) ?_
                refine AllReadyH.cons rfl (fun K' hK => ?_) AllReadyH.nil
                refine step_store_agg rfl (.tmp 15) (.tmp 112) 59 35 rfl Tryz.sizeOf59 wl.heap.size 0 rfl _ 59 G8 (tcs (R.n : Int) R.s R.h (.slice qe R.l.length qf)) rfl hs35q (tcs_one _ _ _ _ _ _) (Nat.le_of_eq hs35.symm) (tcs (R.n : Int) R.s R.h (.slice qe R.l.length qf)) (by rw [drop_all hs35]; simp) ?_
                intro wx jx fx zx
                have nx : Nw wl wx := (ne.tr n8).trans fx (fun j hj e => by omega)
                refine hK.out _ _ (KP.out _ nx) (fun hS0 => ?_)
                try simp only [Act.put, List.setIfInBounds_toArray, List.set_cons_zero, List.set_cons_succ]
                refine wpAnyH_ready (rs := [11]) (by kernel_rfl) (by simp) ?_
                refine AllReadyH.cons rfl (fun K' hK => ?_) AllReadyH.nil
                go_simp
                refine hK.out _ _ (KP.out _ nx) (fun hS0 => ?_)
                try simp only [Act.put, List.setIfInBounds_toArray, List.set_cons_zero, List.set_cons_succ]
                refine wpAnyH_done (by kernel_rfl) ?_ _
                try go_wp2_with fail
                go_meet
                have hlg := heap_lt GE
                exact ⟨wl.heap.size, qe, qf, rfl, rfl, jx, own_mono (ownsRow_keep own8 (fun g hg => fx.block g (own8.lt g hg).2 (fun e => by have := (own8.lt g hg).1; omega))) ne.size, nx⟩
            case rest =>
              obtain ⟨gb2, qe, qf, hpg, hec2, hG2, own2, n2⟩ := hcut
              subst hpg
              obtain ⟨wm, hwm⟩ : ∃ x, x = wc := ⟨_, rfl⟩
              subst hwm
              have NM : Hid (Nw wl wm) := n2
              have GM : Hid (wm.heap[gb2]? = some (.cells (tcs (R.n : Int) R.s R.h (.slice qe R.l.length qf)) 59)) := hG2
              have TM : Hid (wm.heap[tb]? = some (.cells (tcs (R.n : Int) R.s R.h (.slice qa R.l.length qc)) 59)) := (n2.block _ (heap_lt TL.out) (fun f => f)).trans TL.out
              have FM : Hid (wm.heap[fb]? = some (.cells #[.int .i64 f1, .int .i64 f2] 61)) := (n2.block _ (heap_lt FL.out) (fun f => f)).trans FL.out
              have OW2 : Hid (wm.ownsRow wl.heap.size 56 32 (.slice qe R.l.length qf) R.l.length (hsc R.l)) := own2
              have QSA3 : Hid (Calls Tryz.prog 11 #[.agg (tcs (R.n : Int) R.s R.h (.slice qe R.l.length qf)), .agg (tcs (R.n : Int) R.s R.h (.slice qa R.l.length qc))] wm fun e w' => e = .returned (.bool true) ∧ Nw wm w') := same_told R.n R.s R.h HR32.out R.l hR32 hR1000 _ _ wm (Hss.of hR32 own2) ((Hss.of hR32 OWL.out).nw hR32 n2)
              have QSE3 : Hid (∀ V, Nw wm V → Calls Tryz.prog 12 #[u14, .agg #[.int .i64 f1, .int .i64 f2]] V fun e w' => e = .returned (.bool true) ∧ Nw V w') := fun V hV => by
                have q := same_err (HS.out.fr ((NWL.out.tr n2).tr hV) (fun _ _ f => f)) R.c hRc
                rw [HfeD.out, ← hec2] at q
                exact q
              have hs35e : (tcs (R.n : Int) R.s R.h (.slice qe R.l.length qf)).size = 35 := tcs_size _ _ _ HR32.out _
              clear hG2 own2 n2 hec2
              go_wp2_with first
                | (refine wp_load_agg rfl (.tmp 15) 59 35 rfl Tryz.isAgg59 Tryz.sizeOf59 gb2 0 rfl _ 59 (0, 0) GM.out (tcs (R.n : Int) R.s R.h (.slice qe R.l.length qf)) hs35e (fun j _ => by rw [Nat.zero_add]) ?_)
                | (refine wp_load_agg rfl (.tmp 10) 59 35 rfl Tryz.isAgg59 Tryz.sizeOf59 tb 0 rfl _ 59 (0, 0) TM.out (tcs (R.n : Int) R.s R.h (.slice qa R.l.length qc)) hs35r (fun j _ => by rw [Nat.zero_add]) ?_)
              refine QSA3.out.mono ?_
              rintro e24 wn ⟨rfl, nn⟩
              have FN : wn.heap[fb]? = some (.cells #[.int .i64 f1, .int .i64 f2] 61) := (nn.block _ (heap_lt FM.out) (fun f => f)).trans FM.out
              have fn0 := cell2a FN
              have fn1 := cell2b FN
              have NN : Hid (Nw wm wn) := nn
              clear nn
              go_wp2_with fail
              refine (QSE3.out _ NN.out).mono ?_
              rintro e25 wu ⟨rfl, n25⟩
              have NU : Hid (Nw wm wu) := NN.out.tr n25
              have cg2 : wu.cell? ⟨gb2, 34, none⟩ = some (.slice qe R.l.length qf) := NU.out.cellOf ((cell_of GM.out 34).trans (tcs_34 _ _ _ HR32.out _))
              clear n25 fn0 fn1 FN
              have QHB : Hid (Calls Tryz.prog 14 #[.pointer (some ⟨bk, 0, none⟩), .slice qe R.l.length qf] wu fun e w' => e = .returned (.tuple #[]) ∧ ∃ ω, Pm w' κ ω ∧ ω.N = φ.N + 1 ∧ ω.L = φ.L ∧ ω.M = φ.M ∧ ω.v = φ.v ∧ ω.u = φ.u ∧ Fr (fun j => j < wu.heap.size) wu w') := by
                rw [HB4.out.2.2]
                have hNN : φ.N = σ.N + 1 := by rw [HSK.out.1, nE]
                have pu := HPK.out.nw (NM.out.tr NU.out)
                exact hashes_pm (wb := wl) pu (NM.out.tr NU.out).size _ R.l hR1000 hR32 (ownsRow_keep OW2.out (fun g hg => NU.out.block g (OW2.out.lt g hg).2 (fun f => f))) (.inl HPK.out) (by omega) wu.heap.size (heap_lt pu.bk.blk) (fun g hg => (pu.bk.own.lt g hg).2)
              go_wp2_with fail
              refine QHB.out.mono ?_
              rintro e26 wv ⟨rfl, ω, pk, nk, lk, mk, vk, uk, fk⟩
              have HPV : Hid (Pm wv κ ω) := pk
              have hLM2 : ω.L = ω.M := by rw [lk, mk, HSK.out.2.1, HSG.out.2.2.1, HSK.out.2.2.1, HSG.out.2.1, HsD.out.2.2.2, HsD.out.2.1, HLMr.out]
              have hN2 : ω.N = σ.N + 2 := by rw [nk, HSK.out.1, nE]
              clear pk nk lk mk vk uk fk
              go_wp2_with fail
              exact ⟨⟨k + 1, ω, by omega, by go_num, HPV.out, hLM2, by omega⟩, by simp [intOf]; omega⟩
    · obtain rfl : k = n := by omega
      have QA : Hid (Calls Tryz.prog 15 #[.pointer (some ⟨bk, 0, none⟩)] wr fun e w' => e = .returned (.bool true) ∧ Pe w' κ σ) := by
        rw [HB4.out.2.2]
        exact apart_pm HPr.out (by have := HNr.out; omega)
      have HLM2 : Hid (σ.L = σ.M) := HLMr.out
      have hnl : ¬ ((k : Int) < (k : Int)) := by omega
      clear HPr HNr TG HPm
      go_wp2_with fail
      refine QA.out.mono ?_
      rintro ea wa ⟨rfl, pa⟩
      have PA : Hid (Pe wa κ σ) := pa
      clear pa QA
      go_wp2_with fail
      go_loopw [16] (fun i wz => ∃ j : Nat, j ≤ 2 ∧ i = .int .i64 j ∧ Pe wz κ σ) (fun i _ => 2 - (intOf i).toNat)
      case atStart => exact ⟨0, by omega, rfl, PA.out⟩
      case round =>
        obtain ⟨j, hj, rfl, pz⟩ := hrel
        obtain ⟨wz, hwz⟩ : ∃ x, x = wr := ⟨_, rfl⟩
        have PZ : Hid (Pe wz κ σ) := by rw [hwz]; exact pz
        have NZ : Hid (Nw w wz) := by
          show Nw w wz
          rw [← HW0.out]; exact PZ.out.fr
        subst hwz
        clear pz PA
        by_cases hj2 : j < 2
        · have hji : (j : Int) < 2 := by omega
          have hji4 : (j : Int) < 4 := by omega
          have hj4 : j < 4 := by omega
          obtain ⟨R, hR⟩ : ∃ R, R = mth (σ.M j) := ⟨_, rfl⟩
          have R32 : Hid (R.length = 32) := by show R.length = 32; rw [hR]; exact mth_len _
          have hRl : (hbs R).size = 32 := by rw [hbs_size, R32.out]
          obtain ⟨ML, hML⟩ : ∃ x, x = (σ.M j).length := ⟨_, rfl⟩
          obtain ⟨bj, hbj⟩ : ∃ x, x = κ.b j := ⟨_, rfl⟩
          obtain ⟨cj, hcj⟩ : ∃ x, x = κ.c j := ⟨_, rfl⟩
          obtain ⟨uj, huj⟩ : ∃ x, x = σ.u j := ⟨_, rfl⟩
          have QZ : Hid (∀ V, Nw wz V → Calls Tryz.prog 9 #[ptr cj] V fun e w' => e = .returned (.int .u64 (ML : Int)) ∧ Nw V w') := fun V hV => by rw [hML, hcj]; refine (size_pe (PZ.out.nw hV) j hj2).mono ?_; rintro e w' ⟨rfl, rfl⟩; exact ⟨rfl, Fr.refl _ _⟩
          have QR : Hid (∀ V, Nw wz V → Calls Tryz.prog 16 #[ptr bj, .int .u64 (ML : Int)] V fun e w' => e = .returned (.tuple #[.agg (hbs R), .nilIface]) ∧ Nw V w') := fun V hV => by rw [hML, hR, hbj]; exact root_pe (PZ.out.nw hV) HLM2.out j hj2 (HL.out.nw (NZ.out.tr hV)) (HS.out.fr (NZ.out.tr hV) (fun _ _ f => f))
          have QM : Hid (∀ V, Nw wz V → Calls Tryz.prog 17 #[uj] V fun e w' => e = .returned (.agg (hbs R)) ∧ Nw V w') := fun V hV => by rw [hR, huj]; exact mth_pe (PZ.out.nw hV) j hj2
          have KP : Hid (∀ V, Nw wz V → V.cell? ⟨s4, j, none⟩ = some (ptr bj) ∧ V.cell? ⟨s2, j, none⟩ = some (ptr cj)) := fun V hV => by rw [HB4.out.1, HB4.out.2.1, hbj, hcj]; exact ⟨(PZ.out.nw hV).c4 j hj2, (PZ.out.nw hV).c2 j hj2⟩
          have CU : Hid (∀ V, Nw wz V → V.cell? ⟨cj, 0, none⟩ = some uj) := fun V hV => by rw [hcj, huj]; exact ((PZ.out.nw hV).dg j hj2).cv
          clear hR hML hbj hcj huj
          go_upto_region 32 with fail
          go_cut [17, 18] (fun ph ev wx => ∃ hb : Nat, ph = ptr hb ∧ ev = .nilIface ∧ wx.heap[hb]? = some (.cells (hbs R) 56) ∧ Nw wz wx)
          case first =>
            have nb : Nw wz wz.drew := (Fr.refl _ _).drew
            refine wp_region_held_drew (S := fun V => V.cell? ⟨s4, j, none⟩ = some (ptr bj) ∧ V.cell? ⟨s2, j, none⟩ = some (ptr cj)) (by kernel_rfl) (KP.out _ nb) ?_
            intro hS0
            refine wpAnyH_take (i := 0) (v := .slice (some ⟨s4, 0, none⟩) 4 4) rfl (by kernel_rfl) (by kernel_rfl) (by kernel_rfl) (fun _ _ _ h => h) (Or.inl ⟨by rfl, by intro w hw; go_simp⟩) hS0 ?_
            try simp only [Act.put, List.setIfInBounds_toArray, List.set_cons_zero, List.set_cons_succ]
            refine wpAnyH_take (i := 1) (v := .int .i64 (j : Int)) rfl (by kernel_rfl) (by kernel_rfl) (by kernel_rfl) (fun _ _ _ h => h) (Or.inl ⟨by rfl, by intro w hw; go_simp⟩) hS0 ?_
            try simp only [Act.put, List.setIfInBounds_toArray, List.set_cons_zero, List.set_cons_succ]
            refine wpAnyH_take (i := 2) (v := .pointer (some ⟨s4, j, none⟩)) rfl (by kernel_rfl) (by kernel_rfl) (by kernel_rfl) (fun _ _ _ h => h) (Or.inl ⟨by rfl, by intro w hw; go_simp⟩) hS0 ?_
            try simp only [Act.put, List.setIfInBounds_toArray, List.set_cons_zero, List.set_cons_succ]
            refine wpAnyH_take (i := 3) (v := ptr bj) rfl (by kernel_rfl) (by kernel_rfl) (by kernel_rfl) (fun _ _ _ h => h) (Or.inl ⟨by rfl, by intro w hw; have hc := hw.1; go_simp⟩) hS0 ?_
            try simp only [Act.put, List.setIfInBounds_toArray, List.set_cons_zero, List.set_cons_succ]
            refine wpAnyH_take (i := 4) (v := .slice (some ⟨s2, 0, none⟩) 2 2) rfl (by kernel_rfl) (by kernel_rfl) (by kernel_rfl) (fun _ _ _ h => h) (Or.inl ⟨by rfl, by intro w hw; go_simp⟩) hS0 ?_
            try simp only [Act.put, List.setIfInBounds_toArray, List.set_cons_zero, List.set_cons_succ]
            refine wpAnyH_take (i := 5) (v := .int .i64 (j : Int)) rfl (by kernel_rfl) (by kernel_rfl) (by kernel_rfl) (fun _ _ _ h => h) (Or.inl ⟨by rfl, by intro w hw; go_simp⟩) hS0 ?_
            try simp only [Act.put, List.setIfInBounds_toArray, List.set_cons_zero, List.set_cons_succ]
            refine wpAnyH_take (i := 6) (v := .pointer (some ⟨s2, j, none⟩)) rfl (by kernel_rfl) (by kernel_rfl) (by kernel_rfl) (fun _ _ _ h => h) (Or.inl ⟨by rfl, by intro w hw; go_simp⟩) hS0 ?_
            try simp only [Act.put, List.setIfInBounds_toArray, List.set_cons_zero, List.set_cons_succ]
            refine wpAnyH_take (i := 7) (v := ptr cj) rfl (by kernel_rfl) (by kernel_rfl) (by kernel_rfl) (fun _ _ _ h => h) (Or.inl ⟨by rfl, by intro w hw; have hc := hw.2; go_simp⟩) hS0 ?_
            try simp only [Act.put, List.setIfInBounds_toArray, List.set_cons_zero, List.set_cons_succ]
            refine wpAnyH_ready (rs := [8, 13]) (by kernel_rfl) (by simp) ?_
            refine AllReadyH.cons rfl (fun K' hK => ?_) (AllReadyH.cons rfl (fun K' hK => ?_) AllReadyH.nil)
            · go_simp
              go_wp2_with (go_at_call 9; refine (QZ.out _ nb).mono ?_; rintro e8 wb ⟨rfl, hwb⟩)
              have nwb : Nw wz wb := (nb).tr hwb
              refine hK.out _ _ (KP.out _ (nwb)) (fun hS0 => ?_)
              try simp only [Act.put, List.setIfInBounds_toArray, List.set_cons_zero, List.set_cons_succ]
              refine wpAnyH_ready (rs := [9, 13]) (by kernel_rfl) (by simp) ?_
              refine AllReadyH.cons rfl (fun K' hK => ?_) (AllReadyH.cons rfl (fun K' hK => ?_) AllReadyH.nil)
              · go_simp
                go_wp2_with (go_at_call 16; refine (QR.out _ nwb).mono ?_; rintro e9 wc1 ⟨rfl, mwc1⟩)
                have nwc1 : Nw wz wc1 := (nwb).tr mwc1
                refine hK.out _ _ (KP.out _ (nwc1)) (fun hS0 => ?_)
                try simp only [Act.put, List.setIfInBounds_toArray, List.set_cons_zero, List.set_cons_succ]
                refine wpAnyH_take (i := 10) (v := .tuple #[.agg (hbs R), .nilIface]) rfl (by kernel_rfl) (by kernel_rfl) (by kernel_rfl) (fun _ _ _ h => h) (Or.inl ⟨by rfl, by intro w hw; go_simp⟩) hS0 ?_
                try simp only [Act.put, List.setIfInBounds_toArray, List.set_cons_zero, List.set_cons_succ]
                refine wpAnyH_take (i := 11) (v := .agg (hbs R)) rfl (by kernel_rfl) (by kernel_rfl) (by kernel_rfl) (fun _ _ _ h => h) (Or.inl ⟨by rfl, by intro w hw; go_simp⟩) hS0 ?_
                try simp only [Act.put, List.setIfInBounds_toArray, List.set_cons_zero, List.set_cons_succ]
                refine wpAnyH_take (i := 12) (v := .nilIface) rfl (by kernel_rfl) (by kernel_rfl) (by kernel_rfl) (fun _ _ _ h => h) (Or.inl ⟨by rfl, by intro w hw; go_simp⟩) hS0 ?_
                try simp only [Act.put, List.setIfInBounds_toArray, List.set_cons_zero, List.set_cons_succ]
                refine wpAnyH_ready (rs := [13]) (by kernel_rfl) (by simp) ?_
                refine AllReadyH.cons rfl (fun K' hK => ?_) AllReadyH.nil
                go_simp
                rw [z32_h]
                obtain ⟨wd1, hwd1⟩ : ∃ x, wc1.alloc (.cells z32 56) = x := ⟨_, rfl⟩
                have mwd1 : Nw wc1 wd1 := by rw [← hwd1]; exact (nwa wc1 _)
                have Gwd1 : wd1.heap[wc1.heap.size]? = some (.cells z32 56) := by rw [← hwd1]; exact heap_new _ _
                rw [hwd1]
                have nwd1 : Nw wz wd1 := (nwc1).tr mwd1
                refine hK.out _ _ (KP.out _ (nwd1)) (fun hS0 => ?_)
                try simp only [Act.put, List.setIfInBounds_toArray, List.set_cons_zero, List.set_cons_succ]
                refine wpAnyH_ready (rs := [14]) (by kernel_rfl) (by simp) ?_
                refine AllReadyH.cons rfl (fun K' hK => ?_) AllReadyH.nil
                refine step_store_agg rfl (.tmp 17) (.tmp 144) 56 32 rfl Tryz.sizeOf56 wc1.heap.size 0 rfl z32 56 Gwd1 (hbs R) rfl hRl (hbs_one _) (by decide) (hbs R) (by rw [z32_drop]; simp) ?_
                intro wx jx fx zx
                have nx : Nw wz wx := (nwd1).trans fx (fun i hi e => by have := nwc1.size; omega)
                refine hK.out _ _ (KP.out _ (nx)) (fun hS0 => ?_)
                try simp only [Act.put, List.setIfInBounds_toArray, List.set_cons_zero, List.set_cons_succ]
                refine wpAnyH_ready (rs := [15]) (by kernel_rfl) (by simp) ?_
                refine AllReadyH.cons rfl (fun K' hK => ?_) AllReadyH.nil
                go_simp
                refine hK.out _ _ (KP.out _ (nx)) (fun hS0 => ?_)
                try simp only [Act.put, List.setIfInBounds_toArray, List.set_cons_zero, List.set_cons_succ]
                refine wpAnyH_done (by kernel_rfl) ?_ _
                try go_wp2_with fail
                go_meet
                exact ⟨_, rfl, rfl, jx, nx⟩
              · go_simp
                rw [z32_h]
                obtain ⟨wc1, hwc1⟩ : ∃ x, wb.alloc (.cells z32 56) = x := ⟨_, rfl⟩
                have mwc1 : Nw wb wc1 := by rw [← hwc1]; exact (nwa wb _)
                have Gwc1 : wc1.heap[wb.heap.size]? = some (.cells z32 56) := by rw [← hwc1]; exact heap_new _ _
                rw [hwc1]
                have nwc1 : Nw wz wc1 := (nwb).tr mwc1
                refine hK.out _ _ (KP.out _ (nwc1)) (fun hS0 => ?_)
                try simp only [Act.put, List.setIfInBounds_toArray, List.set_cons_zero, List.set_cons_succ]
                refine wpAnyH_ready (rs := [9]) (by kernel_rfl) (by simp) ?_
                refine AllReadyH.cons rfl (fun K' hK => ?_) AllReadyH.nil
                go_simp
                go_wp2_with (go_at_call 16; refine (QR.out _ nwc1).mono ?_; rintro e9 wd1 ⟨rfl, mwd1⟩)
                have nwd1 : Nw wz wd1 := (nwc1).tr mwd1
                have Gd := (mwd1.block wb.heap.size (heap_lt Gwc1) (fun f => f)).trans Gwc1
                refine hK.out _ _ (KP.out _ (nwd1)) (fun hS0 => ?_)
                try simp only [Act.put, List.setIfInBounds_toArray, List.set_cons_zero, List.set_cons_succ]
                refine wpAnyH_take (i := 10) (v := .tuple #[.agg (hbs R), .nilIface]) rfl (by kernel_rfl) (by kernel_rfl) (by kernel_rfl) (fun _ _ _ h => h) (Or.inl ⟨by rfl, by intro w hw; go_simp⟩) hS0 ?_
                try simp only [Act.put, List.setIfInBounds_toArray, List.set_cons_zero, List.set_cons_succ]
                refine wpAnyH_take (i := 11) (v := .agg (hbs R)) rfl (by kernel_rfl) (by kernel_rfl) (by kernel_rfl) (fun _ _ _ h => h) (Or.inl ⟨by rfl, by intro w hw; go_simp⟩) hS0 ?_
                try simp only [Act.put, List.setIfInBounds_toArray, List.set_cons_zero, List.set_cons_succ]
                refine wpAnyH_take (i := 12) (v := .nilIface) rfl (by kernel_rfl) (by kernel_rfl) (by kernel_rfl) (fun _ _ _ h => h) (Or.inl ⟨by rfl, by intro w hw; go_simp⟩) hS0 ?_
                try simp only [Act.put, List.setIfInBounds_toArray, List.set_cons_zero, List.set_cons_succ]
                refine wpAnyH_ready (rs := [14]) (by kernel_rfl) (by simp) ?_
                refine AllReadyH.cons rfl (fun K' hK => ?_) AllReadyH.nil
                refine step_store_agg rfl (.tmp 17) (.tmp 144) 56 32 rfl Tryz.sizeOf56 wb.heap.size 0 rfl z32 56 Gd (hbs R) rfl hRl (hbs_one _) (by decide) (hbs R) (by rw [z32_drop]; simp) ?_
                intro wx jx fx zx
                have nx : Nw wz wx := (nwd1).trans fx (fun i hi e => by have := nwb.size; omega)
                refine hK.out _ _ (KP.out _ (nx)) (fun hS0 => ?_)
                try simp only [Act.put, List.setIfInBounds_toArray, List.set_cons_zero, List.set_cons_succ]
                refine wpAnyH_ready (rs := [15]) (by kernel_rfl) (by simp) ?_
                refine AllReadyH.cons rfl (fun K' hK => ?_) AllReadyH.nil
                go_simp
                refine hK.out _ _ (KP.out _ (nx)) (fun hS0 => ?_)
                try simp only [Act.put, List.setIfInBounds_toArray, List.set_cons_zero, List.set_cons_succ]
                refine wpAnyH_done (by kernel_rfl) ?_ _
                try go_wp2_with fail
                go_meet
                exact ⟨_, rfl, rfl, jx, nx⟩
            · go_simp
              rw [z32_h]
              obtain ⟨wb, hwb⟩ : ∃ x, (wz.alloc (.cells z32 56)).drew = x := ⟨_, rfl⟩
              have mwb : Nw wz wb := by rw [← hwb]; exact (nwa wz _).drew
              have Gwb : wb.heap[wz.heap.size]? = some (.cells z32 56) := by rw [← hwb]; exact heap_new _ _
              rw [hwb]
              have nwb : Nw wz wb := mwb
              refine hK.out _ _ (KP.out _ (nwb)) (fun hS0 => ?_)
              try simp only [Act.put, List.setIfInBounds_toArray, List.set_cons_zero, List.set_cons_succ]
              refine wpAnyH_ready (rs := [8]) (by kernel_rfl) (by simp) ?_
              refine AllReadyH.cons rfl (fun K' hK => ?_) AllReadyH.nil
              go_simp
              go_wp2_with (go_at_call 9; refine (QZ.out _ nwb).mono ?_; rintro e8 wc1 ⟨rfl, hwc1⟩)
              have nwc1 : Nw wz wc1 := (nwb).tr hwc1
              have Gc : wc1.heap[wz.heap.size]? = some (.cells z32 56) := (hwc1.block wz.heap.size (heap_lt Gwb) (fun f => f)).trans Gwb
              refine hK.out _ _ (KP.out _ (nwc1)) (fun hS0 => ?_)
              try simp only [Act.put, List.setIfInBounds_toArray, List.set_cons_zero, List.set_cons_succ]
              refine wpAnyH_ready (rs := [9]) (by kernel_rfl) (by simp) ?_
              refine AllReadyH.cons rfl (fun K' hK => ?_) AllReadyH.nil
              go_simp
              go_wp2_with (go_at_call 16; refine (QR.out _ nwc1).mono ?_; rintro e9 wd1 ⟨rfl, mwd1⟩)
              have nwd1 : Nw wz wd1 := (nwc1).tr mwd1
              have Gd := (mwd1.block wz.heap.size (heap_lt Gc) (fun f => f)).trans Gc
              refine hK.out _ _ (KP.out _ (nwd1)) (fun hS0 => ?_)
              try simp only [Act.put, List.setIfInBounds_toArray, List.set_cons_zero, List.set_cons_succ]
              refine wpAnyH_take (i := 10) (v := .tuple #[.agg (hbs R), .nilIface]) rfl (by kernel_rfl) (by kernel_rfl) (by kernel_rfl) (fun _ _ _ h => h) (Or.inl ⟨by rfl, by intro w hw; go_simp⟩) hS0 ?_
              try simp only [Act.put, List.setIfInBounds_toArray, List.set_cons_zero, List.set_cons_succ]
              refine wpAnyH_take (i := 11) (v := .agg (hbs R)) rfl (by kernel_rfl) (by kernel_rfl) (by kernel_rfl) (fun _ _ _ h => h) (Or.inl ⟨by rfl, by intro w hw; go_simp⟩) hS0 ?_
              try simp only [Act.put, List.setIfInBounds_toArray, List.set_cons_zero, List.set_cons_succ]
              refine wpAnyH_take (i := 12) (v := .nilIface) rfl (by kernel_rfl) (by kernel_rfl) (by kernel_rfl) (fun _ _ _ h => h) (Or.inl ⟨by rfl, by intro w hw; go_simp⟩) hS0 ?_
              try simp only [Act.put, List.setIfInBounds_toArray, List.set_cons_zero, List.set_cons_succ]
              refine wpAnyH_ready (rs := [14]) (by kernel_rfl) (by simp) ?_
              refine AllReadyH.cons rfl (fun K' hK => ?_) AllReadyH.nil
              refine step_store_agg rfl (.tmp 17) (.tmp 144) 56 32 rfl Tryz.sizeOf56 wz.heap.size 0 rfl z32 56 Gd (hbs R) rfl hRl (hbs_one _) (by decide) (hbs R) (by rw [z32_drop]; simp) ?_
              intro wx jx fx zx
              have nx : Nw wz wx := (nwd1).trans fx (fun i hi e => by omega)
              refine hK.out _ _ (KP.out _ (nx)) (fun hS0 => ?_)
              try simp only [Act.put, List.setIfInBounds_toArray, List.set_cons_zero, List.set_cons_succ]
              refine wpAnyH_ready (rs := [15]) (by kernel_rfl) (by simp) ?_
              refine AllReadyH.cons rfl (fun K' hK => ?_) AllReadyH.nil
              go_simp
              refine hK.out _ _ (KP.out _ (nx)) (fun hS0 => ?_)
              try simp only [Act.put, List.setIfInBounds_toArray, List.set_cons_zero, List.set_cons_succ]
              refine wpAnyH_done (by kernel_rfl) ?_ _
              try go_wp2_with fail
              go_meet
              exact ⟨_, rfl, rfl, jx, nx⟩
          case rest =>
            obtain ⟨hb, rfl, rfl, hbb, nx⟩ := hcut
            obtain ⟨wx, hwx⟩ : ∃ x, x = wc := ⟨_, rfl⟩
            subst hwx
            have cx := (KP.out _ nx).2
            have cu := CU.out _ nx
            have HBB : Hid (wx.heap[hb]? = some (.cells (hbs R) 56)) := hbb
            have NX : Hid (Nw wz wx) := nx
            clear hbb nx
            go_upto_region 33 with fail
            (refine wp_region_grown (by kernel_rfl) (by kernel_rfl) ?_; (repeat (first | go_big_quiet_skip | (go_big_quiet_want; first | (refine quiet_load (.tmp 17) rfl hb 0 rfl R R32.out (hash_cells HBB.out) ?_; ((try simp only [Act.put, List.setIfInBounds_toArray, List.set_cons_zero, List.set_cons_succ]); go_big_quiet_on)) | (refine quiet_cell (.tmp 152) rfl s2 j rfl (fun _ => rfl) (ptr cj) cx ?_; ((try simp only [Act.put, List.setIfInBounds_toArray, List.set_cons_zero, List.set_cons_succ]); go_big_quiet_on)) | (refine quiet_cell (.tmp 155) rfl cj 0 rfl (fun _ => rfl) uj cu ?_; ((try simp only [Act.put, List.setIfInBounds_toArray, List.set_cons_zero, List.set_cons_succ]); go_big_quiet_on)) | (refine quiet_neq (.tmp 149) (.tmp 157) rfl R R32.out rfl rfl ?_; ((try simp only [Act.put, List.setIfInBounds_toArray, List.set_cons_zero, List.set_cons_succ]); go_big_quiet_on)) | (go_big_quiet_op; first | go_big_quiet_on | go_big_quiet_call (first | rfl | with_reducible exact grw_call QM.out NX.out _))))); refine wpQuiet_nil ?_; rintro W ⟨⟨_, nW⟩, rfl⟩)
            go_wp2_with fail
            exact ⟨⟨j + 1, by omega, by go_num, PZ.out.nw (NX.out.tr nW)⟩, by simp [intOf]; omega⟩
        · obtain rfl : j = 2 := by omega
          have QL : Hid (Calls Tryz.prog 18 #[] wz fun e w' => e = .returned (.bool true) ∧ Nw wz w') := lives_any wz (HL.out.nw NZ.out) (HS.out.fr NZ.out (fun _ _ f => f))
          go_wp2_with fail
          refine QL.out.mono ?_
          rintro el wl ⟨rfl, nl⟩
          go_wp2_with fail
          go_ret
          exact ⟨rfl, NZ.out.tr nl⟩
end Go.Proofs.YtdhlmpjoggnkkaaGreatDoor
