/- How a reader ends. -/
import Derived.Test.YtebbgpnhkpbefaaDoorcR4
import Derived.Test.YtebbgpnhkpbefaaDoorcE1
namespace Go.Proofs.YtebbgpnhkpbefaaDoor
open Go.RowKit
set_option linter.unusedVariables false
set_option linter.unusedSimpArgs false
/-- A fault in memory: of which error, and where. -/
def Flt (w : World) (pb : Nat) (x : Addr) (q : Int) : Prop := w.cell? ⟨pb, 0, none⟩ = some (sen x) ∧ w.cell? ⟨pb, 1, none⟩ = some (.int .i64 q)

set_option maxRecDepth 100000 in
set_option maxHeartbeats 1000000 in
theorem end_ok (b : Nat) (s : ByteArray) (p : Nat) (a : Int) (x : Addr) (w : World) (h : Rd w b s p .nilIface a) (hp : p = s.size) (hs : s.size ≤ maxLen) (hg : w.cell? ⟨1, 0, none⟩ = some (sen x)) :
    Calls Tryd.prog 14 #[.pointer (some ⟨b, 0, none⟩)] w fun e w' => e = .returned .nilIface ∧ Fr (fun j => False) w w' := by
  unfold maxLen at hs
  obtain ⟨c0, c1, c2, c3, c4, f2, f3, f4⟩ := h.parts
  have hn := run_eql_iface_nil_left (P := Tryd.prog) w 144 (.pointer (some x)) Tryd.underlying26
  have hn2 := run_eql_iface_nil_left (P := Tryd.prog) w.drew 144 (.pointer (some x)) Tryd.underlying26
  have hlt : ¬ ((p : Int) < s.size) := by omega
  clear hp
  go_enter Tryd.func14, Tryd.ntmps14
  go_wp2
  go_region
  all_goals try go_wp2
  all_goals try go_region
  all_goals try go_wp2
  all_goals go_ret
  all_goals exact ⟨rfl, (Fr.refl _ _).drew.drew⟩
set_option maxRecDepth 100000 in
set_option maxHeartbeats 1000000 in
theorem end_left (b : Nat) (s : ByteArray) (p : Nat) (a : Int) (x : Addr) (w : World) (h : Rd w b s p .nilIface a) (hp : p < s.size) (hs : s.size ≤ maxLen) (hg : w.cell? ⟨1, 0, none⟩ = some (sen x)) :
    Calls Tryd.prog 14 #[.pointer (some ⟨b, 0, none⟩)] w fun e w' => e = .returned (.iface 64 (.pointer (some ⟨w.heap.size, 0, none⟩))) ∧ Flt w' w.heap.size x p ∧ Fr (fun j => False) w w' ∧ w'.heap.size = w.heap.size + 1 := by
  unfold maxLen at hs
  obtain ⟨c0, c1, c2, c3, c4, f2, f3, f4⟩ := h.parts
  have hn := run_eql_iface_nil_left (P := Tryd.prog) w 144 (.pointer (some x)) Tryd.underlying26
  have hn2 := run_eql_iface_nil_left (P := Tryd.prog) w.drew 144 (.pointer (some x)) Tryd.underlying26
  have hlt : ((p : Int) < s.size) := by omega
  clear hp
  go_enter Tryd.func14, Tryd.ntmps14
  go_wp2
  go_region
  all_goals try go_wp2
  all_goals try go_region
  all_goals try go_wp2
  all_goals try go_region
  all_goals try go_wp2
  all_goals go_ret
  all_goals exact ⟨rfl, ⟨by simp, by simp⟩, ((Fr.refl _ _).alloc _).drew.drew.drew, by simp⟩
set_option maxRecDepth 100000 in
set_option maxHeartbeats 1000000 in
theorem end_input (b : Nat) (s : ByteArray) (p a : Int) (x : Addr) (w : World) (h : Rd w b s p (sen x) a) (hg : w.cell? ⟨1, 0, none⟩ = some (sen x)) :
    Calls Tryd.prog 14 #[.pointer (some ⟨b, 0, none⟩)] w fun e w' => e = .returned (.iface 64 (.pointer (some ⟨w.heap.size, 0, none⟩))) ∧ Flt w' w.heap.size x a ∧ Fr (fun j => False) w w' ∧ w'.heap.size = w.heap.size + 1 := by
  obtain ⟨c0, c1, c2, c3, c4, f2, f3, f4⟩ := h.parts
  obtain ⟨i, hi, hcmp⟩ := Option.map_eq_some_iff.1 isComp
  obtain ⟨j, hj, hjs⟩ := Option.map_eq_some_iff.1 isSize
  have heq := run_eql_iface_ptr_same (P := Tryd.prog) w x Tryd.underlying26 Tryd.underlying144 hi hcmp hj
  have heq2 := run_eql_iface_ptr_same (P := Tryd.prog) w.drew x Tryd.underlying26 Tryd.underlying144 hi hcmp hj
  go_enter Tryd.func14, Tryd.ntmps14
  go_wp2
  go_region
  all_goals try go_wp2
  all_goals try go_region
  all_goals try go_wp2
  all_goals go_ret
  all_goals exact ⟨rfl, ⟨by simp, by simp⟩, ((Fr.refl _ _).alloc _).drew.drew, by simp⟩
set_option maxRecDepth 100000 in
set_option maxHeartbeats 1000000 in
theorem end_other (b : Nat) (s : ByteArray) (p a : Int) (x y : Addr) (cx cy : Array Value) (tx ty : TypeId) (w : World) (h : Rd w b s p (sen y) a) (hg : w.cell? ⟨1, 0, none⟩ = some (sen x)) (hne : y ≠ x) (hx : w.heap[x.block]? = some (.cells cx tx (0, 0))) (hy : w.heap[y.block]? = some (.cells cy ty (0, 0))) :
    Calls Tryd.prog 14 #[.pointer (some ⟨b, 0, none⟩)] w fun e w' => e = .returned (sen y) ∧ Fr (fun j => False) w w' := by
  obtain ⟨c0, c1, c2, c3, c4, f2, f3, f4⟩ := h.parts
  obtain ⟨i, hi, hcmp⟩ := Option.map_eq_some_iff.1 isComp
  obtain ⟨j, hj, hjs⟩ := Option.map_eq_some_iff.1 isSize
  have heq := run_eql_iface_ptr_other (P := Tryd.prog) w Tryd.underlying26 Tryd.underlying144 hi hcmp hj (by rw [hjs]; decide) hne hy hx
  have heq2 := run_eql_iface_ptr_other (P := Tryd.prog) w.drew Tryd.underlying26 Tryd.underlying144 hi hcmp hj (by rw [hjs]; decide) hne hy hx
  go_enter Tryd.func14, Tryd.ntmps14
  go_wp2
  go_region
  all_goals try go_wp2
  all_goals go_ret
  all_goals exact ⟨rfl, (Fr.refl _ _).drew⟩
theorem end_nil (x : Addr) (w : World) (hg : w.cell? ⟨0, 0, none⟩ = some (sen x)) :
    Calls Tryd.prog 14 #[.pointer none] w fun e w' => e = .returned (sen x) ∧ w' = w := by
  go_enter Tryd.func14, Tryd.ntmps14
  go_wp2
  go_ret
  exact ⟨rfl, rfl⟩
theorem end_unmade (b : Nat) (x : Addr) (w : World) (h0 : w.cell? ⟨b, 0, none⟩ = some (.bool false)) (hg : w.cell? ⟨0, 0, none⟩ = some (sen x)) :
    Calls Tryd.prog 14 #[.pointer (some ⟨b, 0, none⟩)] w fun e w' => e = .returned (sen x) ∧ w' = w := by
  go_enter Tryd.func14, Tryd.ntmps14
  go_wp2
  go_ret
  exact ⟨rfl, rfl⟩
end Go.Proofs.YtebbgpnhkpbefaaDoor
