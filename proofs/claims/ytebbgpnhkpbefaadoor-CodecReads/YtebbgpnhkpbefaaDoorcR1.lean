/- A reader: made, ready, what it takes, what is left, how it ends. -/
import Derived.Test.YtebbgpnhkpbefaaDoorcBase
import Derived.LaidEql
namespace Go.Proofs.YtebbgpnhkpbefaaDoor
open Go.RowKit
set_option linter.unusedVariables false
set_option linter.unusedSimpArgs false
theorem newR (s : ByteArray) (w : World) : Calls Tryd.prog 5 #[.string s] w fun e w' => e = .returned (.pointer (some ⟨w.heap.size, 0, none⟩)) ∧ Rd w' w.heap.size s 0 .nilIface 0 ∧ Fr (fun _ => False) w w' ∧ w'.heap.size = w.heap.size + 1 := by
  go_enter Tryd.func5, Tryd.ntmps5
  go_wp2
  go_ret
  exact ⟨rfl, heap_alloc_new w _, (Fr.refl _ _).alloc _, by simp⟩

/-- What the walk asks of a reader's cells. -/
theorem Rd.parts {w : World} {b : Nat} {s : ByteArray} {p : Int} {f : Value} {a : Int} (h : Rd w b s p f a) :
    w.cell? ⟨b, 0, none⟩ = some (.bool true) ∧ w.cell? ⟨b, 1, none⟩ = some (.string s) ∧ w.cell? ⟨b, 2, none⟩ = some (.int .i64 p) ∧ w.cell? ⟨b, 3, none⟩ = some f ∧ w.cell? ⟨b, 4, none⟩ = some (.int .i64 a) ∧ w.frozen? ⟨b, 2, none⟩ = false ∧ w.frozen? ⟨b, 3, none⟩ = false ∧ w.frozen? ⟨b, 4, none⟩ = false :=
  ⟨cell_of h 0, cell_of h 1, cell_of h 2, cell_of h 3, cell_of h 4, frozen_of h 2, frozen_of h 3, frozen_of h 4⟩

theorem ready_yes (b : Nat) (s : ByteArray) (p a : Int) (w : World) (h : Rd w b s p .nilIface a) :
    Calls Tryd.prog 31 #[.pointer (some ⟨b, 0, none⟩)] w fun e w' => e = .returned (.bool true) ∧ w' = w := by
  obtain ⟨c0, c1, c2, c3, c4, f2, f3, f4⟩ := h.parts
  go_enter Tryd.func31, Tryd.ntmps31
  go_wp2
  go_ret
  exact ⟨rfl, rfl⟩
theorem ready_no (b : Nat) (s : ByteArray) (p a : Int) (x : Addr) (w : World) (h : Rd w b s p (.iface 144 (.pointer (some x))) a) :
    Calls Tryd.prog 31 #[.pointer (some ⟨b, 0, none⟩)] w fun e w' => e = .returned (.bool false) ∧ w' = w := by
  obtain ⟨c0, c1, c2, c3, c4, f2, f3, f4⟩ := h.parts
  go_enter Tryd.func31, Tryd.ntmps31
  go_wp2
  go_ret
  exact ⟨rfl, rfl⟩
theorem ready_nil (w : World) :
    Calls Tryd.prog 31 #[.pointer none] w fun e w' => e = .returned (.bool false) ∧ w' = w := by
  go_enter Tryd.func31, Tryd.ntmps31
  go_wp2
  go_ret
  exact ⟨rfl, rfl⟩

theorem Rd.set2 {w : World} {b : Nat} {s : ByteArray} {p : Int} {f : Value} {a : Int} (h : Rd w b s p f a) (q : Int) : Rd (w.setCell ⟨b, 2, none⟩ (.int .i64 q)) b s q f a := by
  unfold Rd; rw [heap_set h]; rfl
theorem Rd.set3 {w : World} {b : Nat} {s : ByteArray} {p : Int} {f : Value} {a : Int} (h : Rd w b s p f a) (g : Value) : Rd (w.setCell ⟨b, 3, none⟩ g) b s p g a := by
  unfold Rd; rw [heap_set h]; rfl
theorem Rd.set4 {w : World} {b : Nat} {s : ByteArray} {p : Int} {f : Value} {a : Int} (h : Rd w b s p f a) (q : Int) : Rd (w.setCell ⟨b, 4, none⟩ (.int .i64 q)) b s p f q := by
  unfold Rd; rw [heap_set h]; rfl

/-- No form: the fault and its place are kept. -/
theorem noForm_any (b : Nat) (s : ByteArray) (p a q : Int) (f g : Value) (w : World) (h : Rd w b s p f a) (hg : w.cell? ⟨1, 0, none⟩ = some (.iface 144 g)) :
    Calls Tryd.prog 51 #[.pointer (some ⟨b, 0, none⟩), .int .i64 q] w fun e w' => e = .returned (.tuple #[]) ∧ Rd w' b s p (.iface 144 g) q ∧ Fr (fun k => k = b) w w' := by
  obtain ⟨c0, c1, c2, c3, c4, f2, f3, f4⟩ := h.parts
  go_enter Tryd.func51, Tryd.ntmps51
  go_wp2
  go_end0
  exact ⟨rfl, (h.set3 _).set4 _, ((Fr.refl (fun k => k = b) w).setCell ⟨b, 3, none⟩ _ (fun _ => rfl)).setCell ⟨b, 4, none⟩ _ (fun _ => rfl)⟩

def sub (s : ByteArray) (p n : Nat) : ByteArray := s.extract p (p + n)

theorem sub_slice (s : ByteArray) (p n : Nat) (h : p + n ≤ s.size) (w : World) : (Instr.slice 9 (.string s) (some (.int .i64 (p : Int))) (some (.int .i64 ((p : Int) + (n : Int)))) none).run Tryd.prog w = .ok (.string (sub s p n)) w := by
  rw [run_slice_string _ _ _ _ _ _ _ Tryd.underlying9 (by omega) (by omega) (by omega)]
  rfl
set_option maxHeartbeats 1000000 in
theorem take_yes (b : Nat) (s : ByteArray) (p n : Nat) (a : Int) (f : Value) (w : World) (h : Rd w b s p f a) (hp : p + n ≤ s.size) (hs : s.size ≤ maxLen) :
    Calls Tryd.prog 50 #[.pointer (some ⟨b, 0, none⟩), .int .i64 n] w fun e w' => e = .returned (.tuple #[.string (sub s p n), .bool true]) ∧ Rd w' b s ((p + n : Nat) : Int) f a ∧ Fr (fun k => k = b) w w' := by
  unfold maxLen at hs
  obtain ⟨c0, c1, c2, c3, c4, f2, f3, f4⟩ := h.parts
  have hle : ¬ ((s.size : Int) - p < n) := by omega
  have sl := sub_slice s p n hp
  go_enter Tryd.func50, Tryd.ntmps50
  go_wp2
  go_region
  all_goals go_wp2
  all_goals go_region
  all_goals go_wp2
  all_goals go_ret2
  all_goals exact ⟨rfl, h.set2 _, ((Fr.refl (fun k => k = b) w).setCell ⟨b, 2, none⟩ _ (fun _ => rfl)).drew.drew⟩
set_option maxHeartbeats 1000000 in
theorem take_no (b : Nat) (s : ByteArray) (p : Nat) (n a : Int) (f : Value) (w : World) (h : Rd w b s p f a) (hp : (s.size : Int) - p < n) (hq : p ≤ s.size) (hs : s.size ≤ maxLen) :
    Calls Tryd.prog 50 #[.pointer (some ⟨b, 0, none⟩), .int .i64 n] w fun e w' => e = .returned (.tuple #[.string ⟨#[]⟩, .bool false]) ∧ Rd w' b s p f a ∧ Fr (fun k => k = b) w w' := by
  unfold maxLen at hs
  obtain ⟨c0, c1, c2, c3, c4, f2, f3, f4⟩ := h.parts
  go_enter Tryd.func50, Tryd.ntmps50
  go_wp2
  go_region
  all_goals go_wp2
  all_goals go_ret2
  all_goals exact ⟨rfl, h, (Fr.refl _ _).drew⟩
end Go.Proofs.YtebbgpnhkpbefaaDoor
