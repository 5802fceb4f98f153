/- compact: what is refused, and a range that is not there. -/
import Derived.Test.YthbimomhbeoieaaDoorX7
namespace Go.Proofs.YthbimomhbeoieaaDoor
open Go.RowKit
set_option linter.unusedVariables false
set_option linter.unusedSimpArgs false
theorem rappend_no {w : World} {p : Value} (h : NoR w p) (x : List UInt8) (hx : x.length = 32) {B : Nat} {a : Nat → Addr} (hS : Sent B w a) :
    Calls Tryd.prog 9 #[p, .agg (hbs x)] w fun e w' => e = .returned (sen (a 0)) ∧ Nw w w' := by
  have n0 : Nw w (w.alloc (.cells (hbs x) 24)) := nwa w _
  have q := rthere_no (h.nw n0)
  have c0 := n0.cellOf hS.c0
  obtain ⟨w0, hw0⟩ : ∃ q, w.alloc (.cells (hbs x) 24) = q := ⟨_, rfl⟩
  rw [hw0] at q c0 n0
  clear h hS
  go_enter Tryd.func9, Tryd.ntmps9
  go_upto_region 1 with fail
  try rw [hw0]
  clear hw0
  go_wp2_with fail
  refine q.mono ?_
  rintro e w1 ⟨rfl, rfl⟩
  go_wp2
  go_ret
  exact ⟨rfl, n0⟩
theorem rappend_lim {w : World} {b base : Nat} {v : Value} {B E : Nat} {T : List Tre} (h : Rg w b base v B E T) (hE : 9223372036854775808 ≤ E) (x : List UInt8) (hx : x.length = 32) {B0 : Nat} {a : Nat → Addr} (hS : Sent B0 w a) :
    Calls Tryd.prog 9 #[.pointer (some ⟨b, 0, none⟩), .agg (hbs x)] w fun e w' => e = .returned (sen (a 3)) ∧ Nw w w' := by
  have n0 : Nw w (w.alloc (.cells (hbs x) 24)) := nwa w _
  have R0 := h.nw n0
  have q := rthere_any b true _ _ v _ R0.blk
  have c3 := n0.cellOf hS.c3
  have c2 := R0.cs.2.2.1
  have lb := heap_lt R0.blk
  obtain ⟨w0, hw0⟩ : ∃ q, w.alloc (.cells (hbs x) 24) = q := ⟨_, rfl⟩
  rw [hw0] at q c3 c2 lb n0
  have hd : decide ((9223372036854775808 : Int) ≤ (E : Int)) = true := by rw [decide_eq_true_iff]; omega
  have hEi : (9223372036854775808 : Int) ≤ (E : Int) := by omega
  clear h hS R0
  go_enter Tryd.func9, Tryd.ntmps9
  go_upto_region 1 with fail
  try rw [hw0]
  clear hw0
  go_wp2_with fail
  refine q.mono ?_
  rintro e w1 ⟨rfl, rfl⟩
  go_wp2
  go_ret
  exact ⟨rfl, n0⟩
theorem rspan_no {w : World} {p : Value} (h : NoR w p) :
    Calls Tryd.prog 13 #[p] w fun e w' => e = .returned (sp 0 0) ∧ Nw w w' := by
  have q := rthere_no (h.nw (nwa w (.cells #[.int .u64 0, .int .u64 0] 27)))
  clear h
  go_enter Tryd.func13, Tryd.ntmps13
  go_wp2_with fail
  refine q.mono ?_
  rintro e w1 ⟨rfl, rfl⟩
  go_wp2
  (refine bodyPost_ret (results_cell (V := #[.int .u64 0, .int .u64 0]) (ty := 27) (f := (0, 0)) Tryd.results13 Tryd.isAgg27 Tryd.sizeOf27 rfl ?_ rfl) rfl ⟨rfl, (by repeat first | with_reducible exact nwa w _ | with_reducible refine Fr.alloc ?_ _ | with_reducible refine Fr.drew ?_ | (with_reducible refine Fr.setCell ?_ _ _ (fun h => ?_); rotate_left; focus (simp only at h; omega)))⟩; (repeat first | with_reducible exact heap_new _ _ | with_reducible exact heap_new _ _ | with_reducible exact heap_next _ _ _ | with_reducible exact heap_third _ _ _ _ | with_reducible refine hp_dr ?_ | (with_reducible refine hp_ne ?_ ?_; focus omega) | (with_reducible refine hp_al ?_ ?_; focus (first | omega | (simp <;> omega))) | with_reducible apply hp_set) <;> rfl)
theorem rhashes_no {w : World} {p : Value} (h : NoR w p) :
    Calls Tryd.prog 14 #[p] w fun e w' => e = .returned (.slice none 0 0) ∧ w' = w := by
  have q := rthere_no h
  clear h
  go_enter Tryd.func14, Tryd.ntmps14
  go_wp2_with fail
  refine q.mono ?_
  rintro e w1 ⟨rfl, rfl⟩
  go_wp2
  go_ret
  exact ⟨rfl, rfl⟩
theorem rcopy_no {w : World} {p : Value} (h : NoR w p) :
    Calls Tryd.prog 12 #[p] w fun e w' => e = .returned (.pointer none) ∧ w' = w := by
  have q := rthere_no h
  clear h
  go_enter Tryd.func12, Tryd.ntmps12
  go_wp2_with fail
  refine q.mono ?_
  rintro e w1 ⟨rfl, rfl⟩
  go_wp2
  go_ret
  exact ⟨rfl, rfl⟩
theorem rjoin_nol {w : World} {p r : Value} (h : NoR w p) {B : Nat} {a : Nat → Addr} (hS : Sent B w a) :
    Calls Tryd.prog 10 #[p, r] w fun e w' => e = .returned (sen (a 0)) ∧ w' = w := by
  have q := rthere_no h
  have c0 := hS.c0
  clear h hS
  go_enter Tryd.func10, Tryd.ntmps10
  go_wp2_with fail
  refine q.mono ?_
  rintro e w1 ⟨rfl, rfl⟩
  go_wp2
  go_ret
  exact ⟨rfl, rfl⟩
theorem rjoin_nor {w : World} {r : Value} {b base : Nat} {v : Value} {B E : Nat} {T : List Tre} (h : Rg w b base v B E T) (hr : NoR w r) {B0 : Nat} {a : Nat → Addr} (hS : Sent B0 w a) :
    Calls Tryd.prog 10 #[.pointer (some ⟨b, 0, none⟩), r] w fun e w' => e = .returned (sen (a 0)) ∧ w' = w := by
  have q := rthere_any b true _ _ v w h.blk
  have q2 := rthere_no hr
  have c0 := hS.c0
  clear h hS hr
  go_enter Tryd.func10, Tryd.ntmps10
  go_wp2_with fail
  refine q.mono ?_
  rintro e w1 ⟨rfl, rfl⟩
  go_wp2_with fail
  refine q2.mono ?_
  rintro e w2 ⟨rfl, rfl⟩
  go_wp2
  go_ret
  exact ⟨rfl, rfl⟩
end Go.Proofs.YthbimomhbeoieaaDoor
