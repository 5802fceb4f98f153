/- CoordPairs. -/
import Derived.Test.YtibkmcmgolbhhaaDoorD5
import Derived.Test.YtibkmcmgolbhhaaDoorD6
import Derived.Deep.RegionHeld3
namespace Go.Proofs.YtibkmcmgolbhhaaDoor
open Go.RowKit
set_option linter.unusedVariables false
set_option linter.unusedSimpArgs false

set_option maxRecDepth 100000 in
set_option maxHeartbeats 8000000 in
theorem pairs_any (La Ia Lb Ib : Nat) (hLa : La ≤ 255) (hIa : Ia < 18446744073709551616) (hLb : Lb ≤ 255) (hIb : Ib < 18446744073709551616) (w : World) (hT : TabAt w) :
    Calls Tryd.prog 4 #[cd La Ia, cd Lb Ib] w fun x w' => x = .returned (.bool true) ∧ Nw w w' := by
  have HT : Hid (TabAt w) := hT
  clear hT
  obtain ⟨p, q, ok, h1, bp, bq⟩ := comIs_ex La Ia Lb Ib
  have H1 : Hid (ComIs La Ia Lb Ib p q ok) := h1
  have hz : cmpT La Ia La Ia = 0 := cmpT_zero.2 ⟨rfl, rfl⟩
  clear h1
  go_enter Tryd.func4, Tryd.ntmps4
  go_wp2_with fail
  refine (common_any H1.out hLa hIa hLb hIb _).mono ?_
  rintro e1 w1 ⟨rfl, m1⟩
  have n1 : Nw w w1 := Nw.tr (by repeat first | with_reducible exact nwr w | with_reducible refine Fr.alloc ?_ _ | with_reducible refine Fr.drew ?_ | (with_reducible refine Fr.setCell ?_ _ _ (fun h => ?_); rotate_left; focus (simp only at h; omega))) m1
  have ba1 : w1.heap[w.heap.size]? = some (.cells #[.int .u8 (La : Int), .int .u64 (Ia : Int)] 24) := (m1.block _ (by first | omega | (simp <;> omega)) (fun f => f)).trans (by (repeat first | with_reducible exact heap_new _ _ | with_reducible exact heap_new _ _ | with_reducible exact heap_next _ _ _ | with_reducible exact heap_third _ _ _ _ | with_reducible refine hp_dr ?_ | (with_reducible refine hp_ne ?_ ?_; focus omega) | (with_reducible refine hp_al ?_ ?_; focus (first | omega | (simp <;> omega))) | with_reducible apply hp_set) <;> rfl)
  have bb1 : w1.heap[w.heap.size + 1]? = some (.cells #[.int .u8 (Lb : Int), .int .u64 (Ib : Int)] 24) := (m1.block _ (by first | omega | (simp <;> omega)) (fun f => f)).trans (by (repeat first | with_reducible exact heap_new _ _ | with_reducible exact heap_new _ _ | with_reducible exact heap_next _ _ _ | with_reducible exact heap_third _ _ _ _ | with_reducible refine hp_dr ?_ | (with_reducible refine hp_ne ?_ ?_; focus omega) | (with_reducible refine hp_al ?_ ?_; focus (first | omega | (simp <;> omega))) | with_reducible apply hp_set) <;> rfl)
  clear m1
  have la1 := heap_lt ba1
  have xa1 := cell2a ba1
  have ya1 := cell2b ba1
  have lb1 := heap_lt bb1
  have xb1 := cell2a bb1
  have yb1 := cell2b bb1
  go_wp2_with fail
  refine (rcommon_any H1.out hLa hIa hLb hIb _).mono ?_
  rintro e2 w2 ⟨rfl, m2⟩
  have n2 : Nw w w2 := Nw.tr (by repeat first | with_reducible exact n1 | with_reducible refine Fr.alloc ?_ _ | with_reducible refine Fr.drew ?_ | (with_reducible refine Fr.setCell ?_ _ _ (fun h => ?_); rotate_left; focus (simp only at h; omega))) m2
  have ba2 : w2.heap[w.heap.size]? = some (.cells #[.int .u8 (La : Int), .int .u64 (Ia : Int)] 24) := (m2.block _ (by first | omega | (simp <;> omega)) (fun f => f)).trans (by (repeat first | with_reducible exact ba1 | with_reducible exact heap_new _ _ | with_reducible exact heap_next _ _ _ | with_reducible exact heap_third _ _ _ _ | with_reducible refine hp_dr ?_ | (with_reducible refine hp_ne ?_ ?_; focus omega) | (with_reducible refine hp_al ?_ ?_; focus (first | omega | (simp <;> omega))) | with_reducible apply hp_set) <;> rfl)
  have bb2 : w2.heap[w.heap.size + 1]? = some (.cells #[.int .u8 (Lb : Int), .int .u64 (Ib : Int)] 24) := (m2.block _ (by first | omega | (simp <;> omega)) (fun f => f)).trans (by (repeat first | with_reducible exact bb1 | with_reducible exact heap_new _ _ | with_reducible exact heap_next _ _ _ | with_reducible exact heap_third _ _ _ _ | with_reducible refine hp_dr ?_ | (with_reducible refine hp_ne ?_ ?_; focus omega) | (with_reducible refine hp_al ?_ ?_; focus (first | omega | (simp <;> omega))) | with_reducible apply hp_set) <;> rfl)
  have bc2 : w2.heap[w1.heap.size]? = some (.cells #[.int .u8 (p : Int), .int .u64 (q : Int)] 24) := (m2.block _ (by first | omega | (simp <;> omega)) (fun f => f)).trans (by (repeat first | with_reducible exact heap_new _ _ | with_reducible exact heap_new _ _ | with_reducible exact heap_next _ _ _ | with_reducible exact heap_third _ _ _ _ | with_reducible refine hp_dr ?_ | (with_reducible refine hp_ne ?_ ?_; focus omega) | (with_reducible refine hp_al ?_ ?_; focus (first | omega | (simp <;> omega))) | with_reducible apply hp_set) <;> rfl)
  clear m2 n1 ba1 la1 xa1 ya1 bb1 lb1 xb1 yb1
  have la2 := heap_lt ba2
  have xa2 := cell2a ba2
  have ya2 := cell2b ba2
  have lb2 := heap_lt bb2
  have xb2 := cell2a bb2
  have yb2 := cell2b bb2
  have lc2 := heap_lt bc2
  have xc2 := cell2a bc2
  have yc2 := cell2b bc2
  go_wp2
  refine gen_world (fun W => W.heap[w.heap.size]? = some (.cells #[.int .u8 (La : Int), .int .u64 (Ia : Int)] 24) ∧ W.heap[w.heap.size + 1]? = some (.cells #[.int .u8 (Lb : Int), .int .u64 (Ib : Int)] 24) ∧ W.heap[w1.heap.size]? = some (.cells #[.int .u8 (p : Int), .int .u64 (q : Int)] 24) ∧ W.heap[w2.heap.size]? = some (.cells #[.int .u8 (p : Int), .int .u64 (q : Int)] 24) ∧ Nw w W) ⟨by (repeat first | with_reducible exact ba2 | with_reducible exact heap_new _ _ | with_reducible exact heap_next _ _ _ | with_reducible exact heap_third _ _ _ _ | with_reducible refine hp_dr ?_ | (with_reducible refine hp_ne ?_ ?_; focus omega) | (with_reducible refine hp_al ?_ ?_; focus (first | omega | (simp <;> omega))) | with_reducible apply hp_set) <;> rfl, by (repeat first | with_reducible exact bb2 | with_reducible exact heap_new _ _ | with_reducible exact heap_next _ _ _ | with_reducible exact heap_third _ _ _ _ | with_reducible refine hp_dr ?_ | (with_reducible refine hp_ne ?_ ?_; focus omega) | (with_reducible refine hp_al ?_ ?_; focus (first | omega | (simp <;> omega))) | with_reducible apply hp_set) <;> rfl, by (repeat first | with_reducible exact bc2 | with_reducible exact heap_new _ _ | with_reducible exact heap_next _ _ _ | with_reducible exact heap_third _ _ _ _ | with_reducible refine hp_dr ?_ | (with_reducible refine hp_ne ?_ ?_; focus omega) | (with_reducible refine hp_al ?_ ?_; focus (first | omega | (simp <;> omega))) | with_reducible apply hp_set) <;> rfl, by (repeat first | with_reducible exact heap_new _ _ | with_reducible exact heap_new _ _ | with_reducible exact heap_next _ _ _ | with_reducible exact heap_third _ _ _ _ | with_reducible refine hp_dr ?_ | (with_reducible refine hp_ne ?_ ?_; focus omega) | (with_reducible refine hp_al ?_ ?_; focus (first | omega | (simp <;> omega))) | with_reducible apply hp_set) <;> rfl, (by repeat first | with_reducible exact n2 | with_reducible refine Fr.alloc ?_ _ | with_reducible refine Fr.drew ?_ | (with_reducible refine Fr.setCell ?_ _ _ (fun h => ?_); rotate_left; focus (simp only at h; omega)))⟩ ?_
  rintro w3 ⟨ba, bb, bc, bd, n3⟩
  clear ba2 bb2 bc2 n2 la2 lb2 lc2 xa2 ya2 xb2 yb2 xc2 yc2
  have hkp : Hid (∀ W, Nw w3 W → W.cell? ⟨w.heap.size, 0, none⟩ = some (.int .u8 (La : Int)) ∧ W.cell? ⟨w.heap.size, 1, none⟩ = some (.int .u64 (Ia : Int)) ∧ W.cell? ⟨w.heap.size + 1, 0, none⟩ = some (.int .u8 (Lb : Int)) ∧ W.cell? ⟨w.heap.size + 1, 1, none⟩ = some (.int .u64 (Ib : Int)) ∧ W.cell? ⟨w1.heap.size, 0, none⟩ = some (.int .u8 (p : Int)) ∧ W.cell? ⟨w1.heap.size, 1, none⟩ = some (.int .u64 (q : Int)) ∧ W.cell? ⟨w2.heap.size, 0, none⟩ = some (.int .u8 (p : Int)) ∧ W.cell? ⟨w2.heap.size, 1, none⟩ = some (.int .u64 (q : Int))) := fun W hW => ⟨hW.cellOf (cell2a ba), hW.cellOf (cell2b ba), hW.cellOf (cell2a bb), hW.cellOf (cell2b bb), hW.cellOf (cell2a bc), hW.cellOf (cell2b bc), hW.cellOf (cell2a bd), hW.cellOf (cell2b bd)⟩
  clear ba bb bc bd
  have nb : Nw w3 w3.drew := (Fr.refl _ w3).drew
  have q1 := fun (a b c d : Nat) (ha : a ≤ 255) (hb : b < 18446744073709551616) (hc : c ≤ 255) (hd : d < 18446744073709551616) W => cmp_any a b c d ha hb hc hd W
  have q2 := fun (a b c d : Nat) (ha : a ≤ 255) (hb : b < 18446744073709551616) (hc : c ≤ 255) (hd : d < 18446744073709551616) W => rcmp_any a b c d ha hb hc hd W
  go_region_held3 (fun W => W.cell? ⟨w.heap.size, 0, none⟩ = some (.int .u8 (La : Int)) ∧ W.cell? ⟨w.heap.size, 1, none⟩ = some (.int .u64 (Ia : Int)) ∧ W.cell? ⟨w.heap.size + 1, 0, none⟩ = some (.int .u8 (Lb : Int)) ∧ W.cell? ⟨w.heap.size + 1, 1, none⟩ = some (.int .u64 (Ib : Int)) ∧ W.cell? ⟨w1.heap.size, 0, none⟩ = some (.int .u8 (p : Int)) ∧ W.cell? ⟨w1.heap.size, 1, none⟩ = some (.int .u64 (q : Int)) ∧ W.cell? ⟨w2.heap.size, 0, none⟩ = some (.int .u8 (p : Int)) ∧ W.cell? ⟨w2.heap.size, 1, none⟩ = some (.int .u64 (q : Int))) (exact hkp.out _ nb) (first
    | (go_at_call 21; refine (q1 _ _ _ _ (by assumption) (by assumption) (by assumption) (by assumption) _).mono ?_; rintro ex wx ⟨rfl, nx⟩; have nb := nb.tr nx)
    | (go_at_call 22; refine (q2 _ _ _ _ (by assumption) (by assumption) (by assumption) (by assumption) _).mono ?_; rintro ex wx ⟨rfl, nx⟩; have nb := nb.tr nx)
    | (go_at_call 18; refine (alive_any _ (HT.out.nw (n3.tr nb))).mono ?_; rintro ex wx ⟨rfl, nx⟩; have nb := nb.tr nx))
  all_goals go_wp2
  all_goals go_ret
  all_goals exact ⟨rfl, n3.tr nb⟩
end Go.Proofs.YtibkmcmgolbhhaaDoor
