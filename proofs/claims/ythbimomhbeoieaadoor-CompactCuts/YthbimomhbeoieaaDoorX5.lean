/- compact: New, there, Span, Append. -/
import Derived.Test.YthbimomhbeoieaaDoorX4
import Derived.Test.YthbimomhbeoieaaDoorEg
namespace Go.Proofs.YthbimomhbeoieaaDoor
open Go.RowKit
set_option linter.unusedVariables false
set_option linter.unusedSimpArgs false
theorem rnew_any (B : Nat) (hB : B < 18446744073709551616) (w : World) (hL : Laid w) :
    Calls Tryd.prog 7 #[.int .u64 (B : Int)] w fun e w' => e = .returned (.pointer (some ⟨w.heap.size, 0, none⟩)) ∧ Rg w' w.heap.size (w.heap.size + 1) (.slice none 0 0) B B [] ∧ w'.heap.size = w.heap.size + 1 ∧ Nw w w' := by
  have HL := hL.lt
  clear hL
  go_enter Tryd.func7, Tryd.ntmps7
  go_wp2
  go_ret
  exact ⟨rfl, ⟨heap_new _ _, World.ownsRow_nil _ _ _ _, by simp, by simp, ⟨HL, by omega⟩, by simp [Value.ownBlock]⟩, by simp, nwa w _⟩
theorem rthere_any (b : Nat) (m : Bool) (B E v : Value) (w : World) (h : w.heap[b]? = some (.cells #[.bool m, B, E, v] 30)) :
    Calls Tryd.prog 25 #[.pointer (some ⟨b, 0, none⟩)] w fun e w' => e = .returned (.bool m) ∧ w' = w := by
  have c0 : w.cell? ⟨b, 0, none⟩ = some (.bool m) := (cell_of h 0).trans rfl
  have lb := heap_lt h
  clear h
  go_enter Tryd.func25, Tryd.ntmps25
  go_wp2
  go_ret
  exact ⟨rfl, rfl⟩
theorem rthere_nil (w : World) : Calls Tryd.prog 25 #[.pointer none] w fun e w' => e = .returned (.bool false) ∧ w' = w := by
  go_enter Tryd.func25, Tryd.ntmps25
  go_wp2
  go_ret
  exact ⟨rfl, rfl⟩
/-- A range that is not there, or that no call made. -/
def NoR (w : World) (p : Value) : Prop := p = .pointer none ∨ ∃ b B E v, p = .pointer (some ⟨b, 0, none⟩) ∧ w.heap[b]? = some (.cells #[.bool false, B, E, v] 30)
theorem NoR.nw {w w' : World} {p : Value} (h : NoR w p) (n : Nw w w') : NoR w' p := by
  rcases h with h | ⟨b, B, E, v, h, hb⟩
  · exact .inl h
  · exact .inr ⟨b, B, E, v, h, (n.block _ (heap_lt hb) (fun f => f)).trans hb⟩
theorem rthere_no {w : World} {p : Value} (h : NoR w p) : Calls Tryd.prog 25 #[p] w fun e w' => e = .returned (.bool false) ∧ w' = w := by
  rcases h with rfl | ⟨b, B, E, v, rfl, hb⟩
  · exact rthere_nil w
  · exact rthere_any b false B E v w hb
theorem rspan_any {w : World} {b base : Nat} {v : Value} {B E : Nat} {T : List Tre} (h : Rg w b base v B E T) :
    Calls Tryd.prog 13 #[.pointer (some ⟨b, 0, none⟩)] w fun e w' => e = .returned (sp B E) ∧ Nw w w' := by
  have q := rthere_any b true _ _ v (w.alloc (.cells #[.int .u64 0, .int .u64 0] 27)) (hp_al (heap_lt h.blk) h.blk)
  obtain ⟨_, c1, c2, _⟩ := h.cs
  have lb := heap_lt h.blk
  clear h
  go_enter Tryd.func13, Tryd.ntmps13
  go_wp2_with fail
  refine q.mono ?_
  rintro e w1 ⟨rfl, rfl⟩
  go_wp2
  (refine bodyPost_ret (results_cell (V := #[.int .u64 (B : Int), .int .u64 (E : Int)]) (ty := 27) (f := (0, 0)) Tryd.results13 Tryd.isAgg27 Tryd.sizeOf27 rfl ?_ rfl) rfl ⟨rfl, (by repeat first | with_reducible exact nwa w _ | with_reducible refine Fr.alloc ?_ _ | with_reducible refine Fr.drew ?_ | (with_reducible refine Fr.setCell ?_ _ _ (fun h => ?_); rotate_left; focus (simp only at h; omega)))⟩; (repeat first | with_reducible exact heap_new _ _ | with_reducible exact heap_new _ _ | with_reducible exact heap_next _ _ _ | with_reducible exact heap_third _ _ _ _ | with_reducible refine hp_dr ?_ | (with_reducible refine hp_ne ?_ ?_; focus omega) | (with_reducible refine hp_al ?_ ?_; focus (first | omega | (simp <;> omega))) | with_reducible apply hp_set) <;> rfl)
set_option maxRecDepth 100000 in
set_option maxHeartbeats 4000000 in
theorem rappend_yes {w : World} {b base : Nat} {v : Value} {B E : Nat} {T : List Tre} (h : Rg w b base v B E T) (hE : E < 9223372036854775808) (x : List UInt8) (hx : x.length = 32) (hl : T.length ≤ 1000000) (hL : Laid w) :
    Calls Tryd.prog 9 #[.pointer (some ⟨b, 0, none⟩), .agg (hbs x)] w fun e w' => e = .returned .nilIface ∧ ∃ v', Rg w' b base v' B (E + 1) (psh T ⟨0, E, x⟩) ∧ Stays w v v' ∧ Fr (fun k => k = b ∨ v.ownBlock = some k) w w' := by
  have HR : Hid (Rg w b base v B E T) := h
  have HL : Hid (Laid w) := hL
  have hto : Tre.ok ⟨0, E, x⟩ := ⟨⟨by show 0 ≤ 63; omega, by show (E + 1) * 2 ^ 0 ≤ 2 ^ 63; omega⟩, hx⟩
  have HTO : Hid (Tre.ok ⟨0, E, x⟩) := hto
  have hx2 : (hbs x).size = 32 := by rw [hbs_size, hx]
  have HX : Hid (x.length = 32) := hx
  clear h hL hx hto
  go_enter Tryd.func9, Tryd.ntmps9
  go_upto_region 1 with fail
  obtain ⟨w0, hw0⟩ : ∃ q, w.alloc (.cells (hbs x) 24) = q := ⟨_, rfl⟩
  have n0 : Nw w w0 := by rw [← hw0]; exact nwa w _
  have b0 : w0.heap[w.heap.size]? = some (.cells (hbs x) 24) := by rw [← hw0]; exact heap_new _ _
  rw [hw0]
  clear hw0
  obtain ⟨xb, hxb⟩ : ∃ q, q = w.heap.size := ⟨_, rfl⟩
  rw [← hxb] at b0 ⊢
  have HXB : Hid (xb = w.heap.size) := hxb
  clear hxb
  have R0 := HR.out.nw n0
  have q := rthere_any b true _ _ v w0 R0.blk
  obtain ⟨_, c1, c2, c3⟩ := R0.cs
  have lb := heap_lt R0.blk
  have hd : decide ((9223372036854775808 : Int) ≤ (E : Int)) = false := by rw [decide_eq_false_iff_not]; omega
  have hEi : (E : Int) < 9223372036854775808 := by omega
  go_wp2_with fail
  refine q.mono ?_
  rintro e w1 ⟨rfl, rfl⟩
  clear q
  have HR0 : Hid (Rg w1 b base v B E T) := R0
  clear R0
  go_wp2_with fail
  have B0 : Hid (w1.heap[xb]? = some (.cells (hbs x) 24)) := b0
  have N0 : Hid (Nw w w1) := n0
  have KP : Hid (∀ V, Nw w1 V → V.cell? ⟨b, 2, none⟩ = some (.int .u64 (E : Int)) ∧ V.heap[xb]? = some (.cells (hbs x) 24)) := fun V nV => ⟨(HR0.out.nw nV).cs.2.2.1, (nV.block _ (heap_lt B0.out) (fun f => f)).trans B0.out⟩
  have QP : Hid (∀ V, Nw w1 V → Calls Tryd.prog 26 #[.pointer (some ⟨b, 0, none⟩), .agg (Tre.mk 0 E x).c] V fun e w' => e = .returned (.tuple #[]) ∧ ∃ v', Rg w' b base v' B E (psh T ⟨0, E, x⟩) ∧ Stays V v v' ∧ Fr (fun k => k = b ∨ v.ownBlock = some k) V w') := fun V nV => push_any (HR0.out.nw nV) ⟨0, E, x⟩ HTO.out hl (HL.out.nw (N0.out.tr nV))
  have nb : Nw w1 w1.drew := (Fr.refl _ _).drew
  clear b0 n0 c1 c2 c3 lb hd hEi
  refine wp_region_held_drew (S := fun V => V.cell? ⟨b, 2, none⟩ = some (.int .u64 (E : Int)) ∧ V.heap[xb]? = some (.cells (hbs x) 24)) (by kernel_rfl) (KP.out _ nb) ?_
  intro hS0
  refine wpAnyH_take (i := 0) (v := .pointer (some ⟨b, 0, none⟩)) rfl (by kernel_rfl) (by kernel_rfl) (by kernel_rfl) (fun _ _ _ h => h) (Or.inl ⟨by rfl, by intro w hw; go_simp⟩) hS0 ?_
  try simp only [Act.put, List.setIfInBounds_toArray, List.set_cons_zero, List.set_cons_succ]
  refine wpAnyH_take (i := 1) (v := .pointer (some ⟨b, 0, none⟩)) rfl (by kernel_rfl) (by kernel_rfl) (by kernel_rfl) (fun _ _ _ h => h) (Or.inl ⟨by rfl, by intro w hw; go_simp⟩) hS0 ?_
  try simp only [Act.put, List.setIfInBounds_toArray, List.set_cons_zero, List.set_cons_succ]
  refine wpAnyH_take (i := 2) (v := .pointer (some ⟨b, 0, none⟩)) rfl (by kernel_rfl) (by kernel_rfl) (by kernel_rfl) (fun _ _ _ h => h) (Or.inl ⟨by rfl, by intro w hw; go_simp⟩) hS0 ?_
  try simp only [Act.put, List.setIfInBounds_toArray, List.set_cons_zero, List.set_cons_succ]
  refine wpAnyH_take (i := 3) (v := .pointer (some ⟨b, 1, none⟩)) rfl (by kernel_rfl) (by kernel_rfl) (by kernel_rfl) (fun _ _ _ h => h) (Or.inl ⟨by rfl, by intro w hw; go_simp⟩) hS0 ?_
  try simp only [Act.put, List.setIfInBounds_toArray, List.set_cons_zero, List.set_cons_succ]
  refine wpAnyH_take (i := 4) (v := .pointer (some ⟨b, 2, none⟩)) rfl (by kernel_rfl) (by kernel_rfl) (by kernel_rfl) (fun _ _ _ h => h) (Or.inl ⟨by rfl, by intro w hw; go_simp⟩) hS0 ?_
  try simp only [Act.put, List.setIfInBounds_toArray, List.set_cons_zero, List.set_cons_succ]
  refine wpAnyH_take (i := 5) (v := .int .u64 (E : Int)) rfl (by kernel_rfl) (by kernel_rfl) (by kernel_rfl) (fun _ _ _ h => h) (Or.inl ⟨by rfl, by intro w hw; have hc := hw.1; go_simp⟩) hS0 ?_
  try simp only [Act.put, List.setIfInBounds_toArray, List.set_cons_zero, List.set_cons_succ]
  refine wpAnyH_take (i := 6) (v := .agg #[.int .u8 0, .int .u64 (E : Int)]) rfl (by kernel_rfl) (by kernel_rfl) (by kernel_rfl) (fun _ _ _ h => h) (Or.inl ⟨by rfl, by intro w hw; go_simp⟩) hS0 ?_
  try simp only [Act.put, List.setIfInBounds_toArray, List.set_cons_zero, List.set_cons_succ]
  refine wpAnyH_take (i := 7) (v := .agg (hbs x)) rfl (by kernel_rfl) (by kernel_rfl) (by kernel_rfl) (fun _ _ _ h => h) (yields_load_agg rfl (.tmp 3) 24 32 rfl Tryd.isAgg24 Tryd.sizeOf24 xb (by kernel_rfl) 24 (hbs x) hx2 (fun V hV => hV.2)) hS0 ?_
  try simp only [Act.put, List.setIfInBounds_toArray, List.set_cons_zero, List.set_cons_succ]
  refine wpAnyH_take (i := 8) (v := .agg (Tre.mk 0 E x).c) rfl (by kernel_rfl) (by kernel_rfl) (by kernel_rfl) (fun _ _ _ h => h) (yields_build rfl 68 #[(0, .tmp 22), (1, .tmp 23)] rfl #[(0, .agg #[.int .u8 ((0 : Nat) : Int), .int .u64 (E : Int)]), (1, .agg (hbs x))] (by kernel_rfl) (Tre.mk 0 E x).c (fun W => built_t ⟨0, E, x⟩ HX.out W)) hS0 ?_
  try simp only [Act.put, List.setIfInBounds_toArray, List.set_cons_zero, List.set_cons_succ]
  refine wpAnyH_ready (rs := [9]) (by kernel_rfl) (by simp) ?_
  refine AllReadyH.cons rfl (fun K' hK => ?_) AllReadyH.nil
  go_simp
  go_wp2_with (go_at_call 26; refine (QP.out _ nb).mono ?_; rintro e4 w4 ⟨rfl, v', R4, S4, F4⟩)
  have hxb := HXB.out
  have hlt := HR.out.lt
  have hb4 : w4.heap[xb]? = some (.cells (hbs x) 24) := (F4.block xb (heap_lt (KP.out _ nb).2) (fun q => by
    rcases q with q | q
    · omega
    · have := (HR.out.own.lt xb q).2; omega)).trans (KP.out _ nb).2
  refine hK.out _ _ ((⟨R4.cs.2.2.1, hb4⟩)) (fun hS0 => ?_)
  try simp only [Act.put, List.setIfInBounds_toArray, List.set_cons_zero, List.set_cons_succ]
  refine wpAnyH_done (by kernel_rfl) ?_ _
  have c2 := R4.cs.2.2.1
  have lb := heap_lt R4.blk
  have fb := frozen_of R4.blk 2
  have F4 : Hid (Fr (fun k => k = b ∨ v.ownBlock = some k) w1.drew w4) := F4
  have R4 : Hid (Rg w4 b base v' B E (psh T ⟨0, E, x⟩)) := R4
  have S4 : Hid (Stays w1.drew v v') := S4
  clear hxb hlt hb4 hS0
  go_wp2
  go_ret
  refine ⟨rfl, v', ?_, S4.out.mono ((N0.out.tr nb).size), Fr.setCell (((N0.out.tr nb).mono (fun _ _ f => f.elim)).trans F4.out (fun _ _ e => e)) _ _ (fun _ => .inl rfl)⟩
  have hlt := R4.out.lt
  refine ⟨hp_set R4.out.blk rfl, ownsRow_setCell_other R4.out.own (fun q => R4.out.ne _ q rfl) _, ?_, R4.out.ok, R4.out.nb, R4.out.ne⟩
  simp only [World.setCell, Array.size_modify]; omega
end Go.Proofs.YthbimomhbeoieaaDoor
