/- compact: Join of ranges that do not meet, of one without leaves with itself; Root of no leaves. -/
import Derived.Test.YthbimomhbeoieaaDoorX12
namespace Go.Proofs.YthbimomhbeoieaaDoor
open Go.RowKit
set_option linter.unusedVariables false
set_option linter.unusedSimpArgs false
set_option maxRecDepth 100000 in
set_option maxHeartbeats 1000000 in
theorem rjoin_arg {w : World} {b base b2 base2 : Nat} {v v2 : Value} {B E B2 F : Nat} {T U : List Tre} (h : Rg w b base v B E T) (h2 : Rg w b2 base2 v2 B2 F U) (hne : B2 ≠ E) {B0 : Nat} {a : Nat → Addr} (hS : Sent B0 w a) :
    Calls Tryd.prog 10 #[.pointer (some ⟨b, 0, none⟩), .pointer (some ⟨b2, 0, none⟩)] w fun e w' => e = .returned (sen (a 1)) ∧ Nw w w' := by
  have q := rthere_any b true _ _ v w h.blk
  have q2 := rthere_any b2 true _ _ _ w h2.blk
  have c2 := h.cs.2.2.1
  have d1 := h2.cs.2.1
  have lb := heap_lt h.blk
  have lb2 := heap_lt h2.blk
  have e1 := hS.c1
  have hni : ¬ (B2 : Int) = (E : Int) := by omega
  clear h h2 hS
  go_enter Tryd.func10, Tryd.ntmps10
  go_wp2_with fail
  refine q.mono ?_
  rintro e w1 ⟨rfl, rfl⟩
  go_wp2_with fail
  refine q2.mono ?_
  rintro e w2 ⟨rfl, rfl⟩
  go_wp2_with fail
  go_quiet (fail)
  go_wp2
  go_ret
  exact ⟨rfl, (nwr w2).drewN nq⟩
set_option maxRecDepth 100000 in
set_option maxHeartbeats 1000000 in
theorem rroot_empty {w : World} {b base : Nat} {v : Value} {E : Nat} (h : Rg w b base v 0 E []) (hL : Laid w) :
    Calls Tryd.prog 11 #[.pointer (some ⟨b, 0, none⟩)] w fun e w' => e = .returned (.tuple #[.agg (hbs (Sh [])), .nilIface]) ∧ Nw w w' := by
  obtain ⟨va, vc, rfl⟩ := ownsRow_form h.own
  have HR : Hid (Rg w b base (.slice va 0 vc) 0 E []) := h
  have HL : Hid (Laid w) := hL
  have hs : (hbs (Sh [])).size = 32 := by rw [hbs_size, Sh_len]
  obtain ⟨R, hR⟩ : ∃ R, R = Sh [] := ⟨_, rfl⟩
  have QE : Hid (∀ V, Nw w V → Calls Tryd.prog 27 #[] V fun e w' => e = .returned (.agg (hbs R)) ∧ Nw V w') := fun V nV => by rw [hR]; exact empty_any V (HL.out.nw nV)
  rw [← hR] at hs ⊢
  clear h hL hR
  go_enter Tryd.func11, Tryd.ntmps11
  go_upto_region 1 with fail
  rw [z32_h]
  obtain ⟨w0, hw0⟩ : ∃ q, w.alloc (.cells z32 24) = q := ⟨_, rfl⟩
  have n0 : Nw w w0 := by rw [← hw0]; exact nwa w _
  have b0 : w0.heap[w.heap.size]? = some (.cells z32 24) := by rw [← hw0]; exact heap_new _ _
  rw [hw0]
  clear hw0
  obtain ⟨hb, hhb⟩ : ∃ q, q = w.heap.size := ⟨_, rfl⟩
  rw [← hhb] at b0 ⊢
  have HHB : Hid (hb = w.heap.size) := hhb
  clear hhb
  have R0 := HR.out.nw n0
  have q := rthere_any b true _ _ _ w0 R0.blk
  have c1 := R0.cs.2.1
  have c3 := R0.cs.2.2.2
  have lb := heap_lt R0.blk
  clear R0
  go_wp2_with fail
  refine q.mono ?_
  rintro e w1 ⟨rfl, rfl⟩
  have BE : Hid (w1.heap[hb]? = some (.cells z32 24)) := b0
  have NE : Hid (Nw w w1) := n0
  clear n0 b0 q
  go_wp2_with fail
  refine (QE.out _ NE.out).mono ?_
  rintro e w2 ⟨rfl, n2⟩
  have B2 : w2.heap[hb]? = some (.cells z32 24) := (n2.block _ (heap_lt BE.out) (fun f => f)).trans BE.out
  go_wp2_with (refine wp_store_agg rfl (.tmp 2) (.tmp 27) 24 32 rfl Tryd.sizeOf24 hb 0 rfl z32 24 B2 (hbs R) rfl hs (hbs_one _) (by decide) (hbs R) (by rw [dropAll z32_size]; simp) ?_; intro w4 j4 f4 z4)
  exact bodyPost_ret (results_cell_slot Tryd.results11 Tryd.isAgg24 Tryd.sizeOf24 rfl _ rfl j4 hs) rfl ⟨rfl, (NE.out.tr n2).trans f4 (fun k hk e => by have := HHB.out; omega)⟩
end Go.Proofs.YthbimomhbeoieaaDoor
