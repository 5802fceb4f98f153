/- EmitNone: the walk. -/
import Derived.Test.YtlcheobdkkiffaaDoorY10
namespace Go.Proofs.YtlcheobdkkiffaaDoor
open Go.RowKit Go.Shelf
set_option linter.unusedVariables false
set_option linter.unusedSimpArgs false
theorem wpl_zeroz {w : World} {ops : Array Oper} {rest : List Oper} {o : Oper} {a : Act} {Q : Exit → Act → World → Prop} {Z : List UInt8} (hZ : Z = zh) (hwant : Region.wanted o (yielded ops a.tmps) = true) (ho : o.op = .build 32 #[])
    (h : wpList Tryd.prog ops Q rest (a.put o.dst (.agg (hbs Z))) w) : wpList Tryd.prog ops Q (o :: rest) a w := by
  rw [hZ] at h; exact wpl_zero hwant ho h
section
variable {w : World} {o : Oper} {a : Act} {K : Act → Prop}
/-- One cell loaded in a region whose calls make memory alone. -/
theorem quiet_cell {t : TypeId} (x : Operand) (ho : o.op = .load t x) (g off : Nat) (hx : a.eval x = .pointer (some ⟨g, off, none⟩)) (ht : ∀ W, (isAgg t).run Tryd.prog W = .ok false W) (v : Value) (hc : w.cell? ⟨g, off, none⟩ = some v) (hk : K (a.put o.dst v)) : o.quiet Tryd.prog a (fun w' => ∃ x : Grw w, w' = x.val) K := by
  refine ⟨v, ?_, hk⟩
  rintro W ⟨y, rfl⟩
  have h1 := y.cell hc
  unfold Oper.quietAt execOp
  simp only [ho, hx, Instr.loadAt, sure, loadVar, Sem.run_bind, Sem.run_pure, Sem.run_ite, ht, Result.andThen_ok, run_load, h1, if_false, Bool.false_eq_true]
  exact ⟨rfl, rfl⟩
end
set_option maxRecDepth 100000 in
set_option maxHeartbeats 4000000 in
theorem none10_any (x : List UInt8) (hx : x.length = 32) (w : World) (hL : Laid w) (hT : TabAt w) {B : Nat} {a : Nat → Addr} (hS : Sent B w a) :
    Calls Tryd.prog 6 #[.agg (hbs x)] w fun e w' => e = .returned (.bool true) ∧ Nw w w' := by
  have HL : Hid (Laid w) := hL
  have HT : Hid (TabAt w) := hT
  have SS : Hid (∀ V, Nw w V → Sent B V a) := fun V nV => hS.fr nV (fun _ _ f => f)
  have hxs : (hbs x).size = 32 := by rw [hbs_size, hx]
  have X32 : Hid (x.length = 32) := hx
  have QI : Hid (∀ V, Nw w V → Calls Tryd.prog 24 #[sen (a 0), .int .i64 1] V fun e w' => e = .returned (.bool true) ∧ Nw V w') := fun V nV => isj (SS.out w (nwr w)) 0 (by decide) V nV
  have QA : Hid (∀ V, Nw w V → Calls Tryd.prog 7 #[] V fun e w' => e = .returned (.bool true) ∧ Nw V w') := fun V nV => alive10_any V (HL.out.nw nV) (HT.out.nw nV) (SS.out V nV)
  have Z32 : Hid (zh.length = 32) := List.length_replicate
  obtain ⟨Z, hZ⟩ : ∃ Z, Z = zh := ⟨_, rfl⟩
  rw [← hZ] at Z32
  have HZ : Hid (Z = zh) := hZ
  have QR : Hid (∀ p V, NoB V p → Calls Tryd.prog 20 #[p] V fun e w' => e = .returned (.agg (hbs Z)) ∧ Nw V w') := fun p V h => by rw [HZ.out]; exact eroot_no h
  clear hL hT hS hx hZ
  go_enter Tryd.func6, Tryd.ntmps6
  go_wp2_with fail
  obtain ⟨w0, hw0⟩ : ∃ q, w.alloc (.cells (hbs x) 32) = q := ⟨_, rfl⟩
  have n0 : Nw w w0 := by rw [← hw0]; exact nwa w _
  have b0 : w0.heap[w.heap.size]? = some (.cells (hbs x) 32) := by rw [← hw0]; exact heap_new _ _
  rw [hw0]
  obtain ⟨xb, hxb⟩ : ∃ q, q = w.heap.size := ⟨_, rfl⟩
  rw [← hxb] at b0 ⊢
  have LX : Hid (xb < w0.heap.size) := heap_lt b0
  refine (QA.out _ n0).mono ?_
  rintro e w1 ⟨rfl, n1⟩
  have N1 : Hid (Nw w w1) := n0.tr n1
  have BX : Hid (w1.heap[xb]? = some (.cells (hbs x) 32)) := (n1.block _ (heap_lt b0) (fun f => f)).trans b0
  clear hw0 hxb n0 n1 b0
  go_wp2
  obtain ⟨nb, hnb⟩ : ∃ q, q = w1.heap.size := ⟨_, rfl⟩
  rw [← hnb]
  have LXB : Hid (xb < nb) := by rw [hnb]; exact heap_lt BX.out
  have hnB : Hid (nb = w1.heap.size) := hnb
  clear hnb
  have hp : (fun x => x) = (fun x : Value => x) := rfl
  go_loopw [5] (fun i wr => ∃ k : Nat, k ≤ 2 ∧ i = .int .i64 k ∧ Nw w1 wr ∧ wr.heap[nb]? = some (.cells #[.bool false, .int .u64 0, .slice none 0 0] 61) ∧ wr.heap[nb + 1]? = some (.cells #[.pointer none, .pointer (some ⟨nb, 0, none⟩)] 62 (0, 0))) (fun i _ => (2 - intOf i).toNat)
  case atStart =>
    refine ⟨0, by omega, rfl, (nwa w1 _).alloc _, ?_, ?_⟩
    · rw [hnB.out]; exact (Below.heap_alloc _ _ _ (by simp)).trans (heap_new w1 _)
    · rw [hnB.out]; exact heap_next w1 _ _
  case round =>
    obtain ⟨k, hk, rfl, hnw, hz, ha⟩ := hrel
    by_cases hlt : k < 2
    · obtain ⟨q, hq, hN⟩ : ∃ q, wr.cell? ⟨nb + 1, k, none⟩ = some (.pointer q) ∧ ∀ W, Nw wr W → NoB W (.pointer q) := by
        have hk2 : k = 0 ∨ k = 1 := by omega
        rcases hk2 with rfl | rfl
        · exact ⟨none, cell_of ha 0, fun W _ => .inl rfl⟩
        · exact ⟨some ⟨nb, 0, none⟩, cell_of ha 1, fun W hW => .inr ⟨_, _, _, rfl, (hW.block _ (heap_lt hz) (fun f => f)).trans hz⟩⟩
      have HN : Hid (∀ W, Nw wr W → NoB W (.pointer q)) := hN
      have NWR : Hid (Nw w wr) := N1.out.tr hnw
      have HNW : Hid (Nw w1 wr) := hnw
      have BXR : Hid (wr.heap[xb]? = some (.cells (hbs x) 32)) := (hnw.block _ (heap_lt BX.out) (fun f => f)).trans BX.out
      have HZ0 : Hid (wr.heap[nb]? = some (.cells #[.bool false, .int .u64 0, .slice none 0 0] 61)) := hz
      have HA0 : Hid (wr.heap[nb + 1]? = some (.cells #[.pointer none, .pointer (some ⟨nb, 0, none⟩)] 62 (0, 0))) := ha
      have QAD : Hid (∀ V, Nw wr V → Calls Tryd.prog 9 #[.pointer q, .agg (hbs x)] V fun e w' => e = .returned (.tuple #[.slice none 0 0, sen (a 0)]) ∧ Nw V w') := fun V nV => eadd_no (HN.out V nV) x (SS.out V (NWR.out.tr nV))
      have hki : (k : Int) < 2 := by omega
      have hki0 : ¬ (k : Int) < 0 := by omega
      clear hN hnw hz ha
      go_upto_region 8 with fail
      (refine wp_region_grown (by kernel_rfl) (by kernel_rfl) ?_; (repeat (first | go_big_quiet_skip | (go_big_quiet_want; first | (refine quiet_load (.tmp 1) rfl xb 0 rfl x X32.out (hash_cells BXR.out) ?_; ((try simp only [Act.put, List.setIfInBounds_toArray, List.set_cons_zero, List.set_cons_succ]); go_big_quiet_on)) | (refine quiet_cell (.tmp 20) rfl (nb + 1) k rfl Tryd.isAgg24 (.pointer q) hq ?_; ((try simp only [Act.put, List.setIfInBounds_toArray, List.set_cons_zero, List.set_cons_succ]); go_big_quiet_on)) | (go_big_quiet_op; first | go_big_quiet_on | go_big_quiet_call (first | rfl | with_reducible exact grw_call QAD.out (nwr _) _))))); refine wpQuiet_nil ?_; rintro W ⟨⟨_, nW⟩, rfl⟩)
      have NN : Hid (Nw wr W) := nW
      have hqc := nW.cellOf hq
      clear nW
      go_wp2_with fail
      refine (QI.out _ (NWR.out.tr NN.out)).mono ?_
      rintro e wz ⟨rfl, nz⟩
      have NN : Hid (Nw wr wz) := NN.out.tr nz
      have hqc := nz.cellOf hqc
      clear nz
      go_wp2_with fail
      refine (esize_no (HN.out _ NN.out)).mono ?_
      rintro e wy ⟨rfl, rfl⟩
      go_wp2_with fail
      refine (QR.out _ _ (HN.out _ NN.out)).mono ?_
      rintro e wx ⟨rfl, nz⟩
      have NN : Hid (Nw wr wx) := NN.out.tr nz
      have hqc := nz.cellOf hqc
      clear nz
      go_wp2_with first
        | refine wpl_zeroz HZ.out rfl rfl ?_
        | refine wpl_neq rfl (.tmp 45) (.tmp 46) rfl Z Z32.out rfl rfl ?_
      refine (ehashes_no (HN.out _ NN.out)).mono ?_
      rintro e wv ⟨rfl, rfl⟩
      go_wp2
      exact ⟨⟨k + 1, by omega, by go_num, HNW.out.tr NN.out, (NN.out.block _ (heap_lt HZ0.out) (fun f => f)).trans HZ0.out, (NN.out.block _ (heap_lt HA0.out) (fun f => f)).trans HA0.out⟩, by simp [intOf]; omega⟩
    · obtain rfl : k = 2 := by omega
      go_wp2
      go_ret
      exact ⟨rfl, N1.out.tr hnw⟩
end Go.Proofs.YtlcheobdkkiffaaDoor
