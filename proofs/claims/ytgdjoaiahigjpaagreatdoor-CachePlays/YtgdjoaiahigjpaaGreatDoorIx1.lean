/- The marks of ints. -/
import Derived.Test.YtgdjoaiahigjpaaGreatDoorBase
import Derived.Test.YtgdjoaiahigjpaaGreatDoorAg
namespace Go.Proofs.YtgdjoaiahigjpaaGreatDoor
namespace IB
open Go.RowKit
set_option linter.unusedVariables false
set_option linter.unusedSimpArgs false
/-- (Nothing has to lie in memory.) -/
def Pow (w : World) : Prop := True
abbrev mkt (m : Nat) : Value := .int .i64 (-1000 - (m : Int))
theorem mark_m (m : Nat) (hm : m ≤ 100) (w : World) (hP : Pow w) : Calls Tryz.prog 84 #[.int .i64 (m : Int)] w fun e w' => e = .returned (mkt m) ∧ Nw w w' := by
  go_enter Tryz.func84, Tryz.ntmps84
  go_wp2
  go_ret
  exact ⟨by go_num, Fr.refl _ _⟩
theorem is_mark (m : Nat) (hm : m ≤ 100) (w : World) (hP : Pow w) : Calls Tryz.prog 100 #[mkt m, .int .i64 (m : Int)] w fun e w' => e = .returned (.bool true) ∧ Nw w w' := by
  have e1 : wrap64 (-1000 - (m : Int)) = -1000 - (m : Int) := by unfold wrap64; omega
  go_enter Tryz.func100, Tryz.ntmps100
  go_wp2
  go_ret
  exact ⟨by simp, Fr.refl _ _⟩
theorem ownsRow_form {w : World} {base : Nat} {e : TypeId} {size : Nat} {v : Value} {n : Nat} {xs : List Value} (h : w.ownsRow base e size v n xs) : ∃ va vc, v = .slice va n vc := by
  rcases h.2 with ⟨hv, h0⟩ | ⟨g, cap, cur, hv, _⟩
  · exact ⟨none, 0, by rw [hv, h0]⟩
  · exact ⟨_, _, hv⟩
theorem one_new (w : World) (v : Value) (t : TypeId) : ∀ j u, [v][j]? = some u → (w.alloc (.cells #[v] t)).cell? ((⟨w.heap.size, 0, none⟩ : Addr).add j) = some u := by
  intro j u hj
  match j, hj with
  | 0, h => simp at h; rw [← h, addO, cell_of (heap_new _ _)]; rfl
  | j + 1, h => simp at h
theorem info_parts {t : TypeId} {z : Option Value} {s b : Nat} (h : (Tryz.prog.info? t).map (fun i => (i.zero, i.size, i.bytes)) = some (z, s, b)) : ∃ i0, Tryz.prog.info? t = some i0 ∧ i0.zero = z ∧ i0.size = s ∧ i0.bytes = b := by
  obtain ⟨i0, hi, he⟩ := Option.map_eq_some_iff.1 h
  simp only [Prod.mk.injEq] at he
  exact ⟨i0, hi, he⟩
theorem infoS : (Tryz.prog.info? 3).map (fun i => (i.zero, i.size, i.bytes)) = some (some (.int .i64 0), 1, 8) := by kernel_rfl
end IB
end Go.Proofs.YtgdjoaiahigjpaaGreatDoor
