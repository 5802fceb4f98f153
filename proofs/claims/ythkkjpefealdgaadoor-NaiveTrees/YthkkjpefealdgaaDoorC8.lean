/- The cover. -/
import Derived.Test.YthkkjpefealdgaaDoorC7
import Derived.Maps.AppendAt
namespace Go.Proofs.YthkkjpefealdgaaDoor
open Go.RowKit
set_option linter.unusedVariables false
set_option linter.unusedSimpArgs false

/-- Where what lies in a block begins. -/
def bgn (W : World) (b : Nat) : Nat := match W.cell? ⟨b, 0, none⟩ with
  | some v => (intOf v).toNat
  | none => 0
theorem bgn_of {W : World} {b x : Nat} {y : Value} {t : TypeId} {f : Nat × Nat} (h : W.heap[b]? = some (.cells #[.int .u64 (x : Int), y] t f)) : bgn W b = x := by
  unfold bgn
  rw [cell2a h]
  simp [intOf]
theorem ownsRow_form {w : World} {base : Nat} {e : TypeId} {size : Nat} {v : Value} {n : Nat} {xs : List Value} (h : w.ownsRow base e size v n xs) : ∃ ad cap, v = .slice ad n cap := by
  rcases h.2 with ⟨rfl, rfl⟩ | ⟨g, cap, cur, rfl, _⟩
  · exact ⟨none, 0, rfl⟩
  · exact ⟨_, _, rfl⟩
theorem ownsRow_base {w : World} {base base' : Nat} {e : TypeId} {size : Nat} {v : Value} {n : Nat} {xs : List Value} (h : w.ownsRow base e size v n xs) (hb : base' ≤ base) : w.ownsRow base' e size v n xs := by
  obtain ⟨h1, h2⟩ := h
  refine ⟨h1, ?_⟩
  rcases h2 with h2 | ⟨g, cap, cur, rfl, hg, h3⟩
  · exact .inl h2
  · exact .inr ⟨g, cap, cur, rfl, Nat.le_trans hb hg, h3⟩
theorem infoC : (Tryd.prog.info? 76).map (fun i => (i.zero, i.size, i.bytes)) = some (some (cd 0 0), 2, 16) := by kernel_rfl
theorem cd_new {w : World} (L I : Int) (t : TypeId) : ∀ j u, [Value.int .u8 L, .int .u64 I][j]? = some u → (w.alloc (.cells #[.int .u8 L, .int .u64 I] t)).cell? ((⟨w.heap.size, 0, none⟩ : Addr).add j) = some u := by
  intro j u h
  rw [addZ, cell_of (heap_new w _)]
  match j, h with
  | 0, h => exact h
  | 1, h => exact h
theorem two_le {L : Nat} (h : L ≤ 63) : 2 ^ L ≤ 9223372036854775808 := by rw [← p63]; exact pow_le2 h

end Go.Proofs.YthkkjpefealdgaaDoor
