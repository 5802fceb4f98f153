/- plan: the part of a stretch; Root. -/
import Derived.Test.YtlaiomgebkeldaaGreatDoorS6
import Derived.Test.YtlaiomgebkeldaaGreatDoorTw
namespace Go.Proofs.YtlaiomgebkeldaaGreatDoor
open Go.RowKit
set_option linter.unusedVariables false
set_option linter.unusedSimpArgs false
abbrev zp : Value := .agg #[.slice none 0 0]
theorem infoP : (Tryz.prog.info? 27).map (fun i => (i.zero, i.size, i.bytes)) = some (some zp, 1, 24) := by kernel_rfl
theorem info_partsP : ∃ i, Tryz.prog.info? 27 = some i ∧ i.zero = some zp ∧ i.size = 1 ∧ i.bytes = 24 := by
  obtain ⟨i, hi, he⟩ := Option.map_eq_some_iff.1 infoP
  simp only [Prod.mk.injEq] at he
  exact ⟨i, hi, he.1, he.2.1, he.2.2⟩
theorem cell1 {w : World} {b : Nat} {x : Value} {t : TypeId} {f : Nat × Nat} (h : w.heap[b]? = some (.cells #[x] t f)) : w.cell? ⟨b, 0, none⟩ = some x := (cell_of h 0).trans rfl
set_option maxHeartbeats 1000000 in
theorem ppart_yes (b e : Nat) (hbe : b ≤ e) (he : e ≤ 9223372036854775808) (w : World) (hT : TabAt w) :
    Calls Tryz.prog 28 #[sp b e] w fun x w' => ∃ v, x = .returned (.tuple #[.agg #[v], .nilIface]) ∧ w'.ownsRow w.heap.size 87 2 v (cov b e).length (fl (cov b e)) ∧ Nw w w' := by
  have HT : Hid (TabAt w) := hT
  clear hT
  go_enter Tryz.func28, Tryz.ntmps28
  go_wp2_with fail
  refine (cover_yes b e hbe he _ (HT.out.nw (by repeat first | with_reducible exact nwr w | with_reducible refine Fr.alloc ?_ _ | with_reducible refine Fr.drew ?_ | (with_reducible refine Fr.setCell ?_ _ _ (fun h => ?_); rotate_left; focus (simp only at h; omega))))).mono ?_
  rintro x w1 ⟨v, rfl, o1, n1⟩
  obtain ⟨va, vc, rfl⟩ := ownsRow_form o1
  obtain ⟨⟨l0, l1⟩, b0, b1, n2⟩ := two_made n1
  have O1 : Hid (w1.ownsRow w.heap.size 87 2 (.slice va (cov b e).length vc) (cov b e).length (fl (cov b e))) := ownsRow_base o1 (by simp; omega)
  have HG : Hid (∀ g, (Value.slice va (cov b e).length vc).ownBlock = some g → w.heap.size + 1 + 1 ≤ g) := fun g hg => by have := (o1.lt g hg).1; simp at this; omega
  clear o1 n1
  have z0 := frozen_of b1 0
  have y0 := cell1 b1
  go_wp2
  refine bodyPost_ret (results_cell_slot (V := #[.slice va (cov b e).length vc]) (ty := 27) (f := (0, 0)) Tryz.results28 Tryz.isAgg27 Tryz.sizeOf27 rfl _ rfl ?_ rfl) rfl ⟨_, rfl, ownsRow_setCell_other O1.out (fun q => by have := HG.out _ q; simp only at this; omega) _, (by repeat first | with_reducible exact n2 | with_reducible refine Fr.alloc ?_ _ | with_reducible refine Fr.drew ?_ | (with_reducible refine Fr.setCell ?_ _ _ (fun h => ?_); rotate_left; focus (simp only at h; omega)))⟩
  (repeat first | with_reducible exact b1 | with_reducible exact heap_new _ _ | with_reducible exact heap_next _ _ _ | with_reducible exact heap_third _ _ _ _ | with_reducible refine hp_dr ?_ | (with_reducible refine hp_ne ?_ ?_; focus omega) | (with_reducible refine hp_al ?_ ?_; focus (first | omega | (simp <;> omega))) | with_reducible apply hp_set) <;> rfl
set_option maxHeartbeats 1000000 in
theorem ppart_no (b e : Nat) (h : ¬ (b ≤ e ∧ e ≤ 9223372036854775808)) (hb : b < 18446744073709551616) (he : e < 18446744073709551616) (w : World) {B : Nat} {a : Nat → Addr} (hS : Sent B w a) :
    Calls Tryz.prog 28 #[sp b e] w fun x w' => x = .returned (.tuple #[zp, sen (a 4)]) ∧ Nw w w' := by
  have HS : Hid (Sent B w a) := hS
  clear hS
  go_enter Tryz.func28, Tryz.ntmps28
  go_wp2_with fail
  refine (cover_no b e h hb he _ (HS.out.fr (by repeat first | with_reducible exact nwr w | with_reducible refine Fr.alloc ?_ _ | with_reducible refine Fr.drew ?_ | (with_reducible refine Fr.setCell ?_ _ _ (fun h => ?_); rotate_left; focus (simp only at h; omega))) (fun _ _ f => f))).mono ?_
  rintro x w1 ⟨rfl, n1⟩
  obtain ⟨⟨l0, l1⟩, b0, b1, n2⟩ := two_made n1
  clear n1
  have z0 := frozen_of b1 0
  have y0 := cell1 b1
  go_wp2
  (refine bodyPost_ret (results_cell_slot (V := #[.slice none 0 0]) (ty := 27) (f := (0, 0)) Tryz.results28 Tryz.isAgg27 Tryz.sizeOf27 rfl _ rfl ?_ rfl) rfl ⟨rfl, (by repeat first | with_reducible exact n2 | with_reducible refine Fr.alloc ?_ _ | with_reducible refine Fr.drew ?_ | (with_reducible refine Fr.setCell ?_ _ _ (fun h => ?_); rotate_left; focus (simp only at h; omega)))⟩; (repeat first | with_reducible exact b1 | with_reducible exact heap_new _ _ | with_reducible exact heap_next _ _ _ | with_reducible exact heap_third _ _ _ _ | with_reducible refine hp_dr ?_ | (with_reducible refine hp_ne ?_ ?_; focus omega) | (with_reducible refine hp_al ?_ ?_; focus (first | omega | (simp <;> omega))) | with_reducible apply hp_set) <;> rfl)
set_option maxHeartbeats 1000000 in
theorem proot_yes (n : Nat) (hn : n ≤ 9223372036854775808) (w : World) (hT : TabAt w) :
    Calls Tryz.prog 5 #[.int .u64 (n : Int)] w fun x w' => ∃ v, x = .returned (.tuple #[.agg #[v], .nilIface]) ∧ w'.ownsRow w.heap.size 87 2 v (cov 0 n).length (fl (cov 0 n)) ∧ Nw w w' := by
  have HT : Hid (TabAt w) := hT
  clear hT
  go_enter Tryz.func5, Tryz.ntmps5
  go_wp2_with fail
  refine (ppart_yes 0 n (by omega) hn _ (HT.out.nw (by repeat first | with_reducible exact nwr w | with_reducible refine Fr.alloc ?_ _ | with_reducible refine Fr.drew ?_ | (with_reducible refine Fr.setCell ?_ _ _ (fun h => ?_); rotate_left; focus (simp only at h; omega))))).mono ?_
  rintro x w1 ⟨v, rfl, o1, n1⟩
  obtain ⟨va, vc, rfl⟩ := ownsRow_form o1
  obtain ⟨l1, b1, n2⟩ := one_made n1
  have O1 : Hid (w1.ownsRow w.heap.size 87 2 (.slice va (cov 0 n).length vc) (cov 0 n).length (fl (cov 0 n))) := ownsRow_base o1 (by simp)
  have HG : Hid (∀ g, (Value.slice va (cov 0 n).length vc).ownBlock = some g → w.heap.size + 1 ≤ g) := fun g hg => by have := (o1.lt g hg).1; simp at this; omega
  clear o1 n1
  have z0 := frozen_of b1 0
  have y0 := cell1 b1
  go_wp2
  refine bodyPost_ret (results_cell_slot (V := #[.slice va (cov 0 n).length vc]) (ty := 27) (f := (0, 0)) Tryz.results5 Tryz.isAgg27 Tryz.sizeOf27 rfl _ rfl ?_ rfl) rfl ⟨_, rfl, ownsRow_setCell_other O1.out (fun q => by have := HG.out _ q; simp only at this; omega) _, (by repeat first | with_reducible exact n2 | with_reducible refine Fr.alloc ?_ _ | with_reducible refine Fr.drew ?_ | (with_reducible refine Fr.setCell ?_ _ _ (fun h => ?_); rotate_left; focus (simp only at h; omega)))⟩
  (repeat first | with_reducible exact b1 | with_reducible exact heap_new _ _ | with_reducible exact heap_next _ _ _ | with_reducible exact heap_third _ _ _ _ | with_reducible refine hp_dr ?_ | (with_reducible refine hp_ne ?_ ?_; focus omega) | (with_reducible refine hp_al ?_ ?_; focus (first | omega | (simp <;> omega))) | with_reducible apply hp_set) <;> rfl
set_option maxHeartbeats 1000000 in
theorem proot_no (n : Nat) (h : ¬ n ≤ 9223372036854775808) (hn : n < 18446744073709551616) (w : World) {B : Nat} {a : Nat → Addr} (hS : Sent B w a) :
    Calls Tryz.prog 5 #[.int .u64 (n : Int)] w fun x w' => x = .returned (.tuple #[zp, sen (a 4)]) ∧ Nw w w' := by
  have HS : Hid (Sent B w a) := hS
  clear hS
  go_enter Tryz.func5, Tryz.ntmps5
  go_wp2_with fail
  refine (ppart_no 0 n (by omega) (by omega) hn _ (HS.out.fr (by repeat first | with_reducible exact nwr w | with_reducible refine Fr.alloc ?_ _ | with_reducible refine Fr.drew ?_ | (with_reducible refine Fr.setCell ?_ _ _ (fun h => ?_); rotate_left; focus (simp only at h; omega))) (fun _ _ f => f))).mono ?_
  rintro x w1 ⟨rfl, n1⟩
  obtain ⟨l1, b1, n2⟩ := one_made n1
  clear n1
  have z0 := frozen_of b1 0
  have y0 := cell1 b1
  go_wp2
  (refine bodyPost_ret (results_cell_slot (V := #[.slice none 0 0]) (ty := 27) (f := (0, 0)) Tryz.results5 Tryz.isAgg27 Tryz.sizeOf27 rfl _ rfl ?_ rfl) rfl ⟨rfl, (by repeat first | with_reducible exact n2 | with_reducible refine Fr.alloc ?_ _ | with_reducible refine Fr.drew ?_ | (with_reducible refine Fr.setCell ?_ _ _ (fun h => ?_); rotate_left; focus (simp only at h; omega)))⟩; (repeat first | with_reducible exact b1 | with_reducible exact heap_new _ _ | with_reducible exact heap_next _ _ _ | with_reducible exact heap_third _ _ _ _ | with_reducible refine hp_dr ?_ | (with_reducible refine hp_ne ?_ ?_; focus omega) | (with_reducible refine hp_al ?_ ?_; focus (first | omega | (simp <;> omega))) | with_reducible apply hp_set) <;> rfl)
end Go.Proofs.YtlaiomgebkeldaaGreatDoor
