/- Rows of stretches: whether two are the same. -/
import Derived.Test.YtlaiomgebkeldaaDoorCg
import Derived.Deep.RegionHeld3
namespace Go.Proofs.YtlaiomgebkeldaaDoor
open Go.RowKit
set_option linter.unusedVariables false
set_option linter.unusedSimpArgs false

/-- Stretches as cells. -/
def fs : List (Nat × Nat) → List Value
  | [] => []
  | t :: r => .int .u64 (t.1 : Int) :: .int .u64 (t.2 : Int) :: fs r
theorem fs_len : ∀ l, (fs l).length = l.length * 2
  | [] => rfl
  | t :: r => by simp only [fs, List.length_cons, fs_len r]; omega
theorem fs_app : ∀ l m, fs (l ++ m) = fs l ++ fs m
  | [], m => rfl
  | t :: r, m => by simp only [List.cons_append, fs, fs_app r m]
theorem fs_get : ∀ (l : List (Nat × Nat)) (k : Nat) (t : Nat × Nat), l[k]? = some t → (fs l)[k * 2]? = some (.int .u64 (t.1 : Int)) ∧ (fs l)[k * 2 + 1]? = some (.int .u64 (t.2 : Int))
  | [], k, t, h => by simp at h
  | u :: r, 0, t, h => by simp at h; subst h; exact ⟨rfl, rfl⟩
  | u :: r, k + 1, t, h => by
    have := fs_get r k t (by simpa using h)
    have e : (k + 1) * 2 = k * 2 + 1 + 1 := by omega
    rw [e]
    simpa [fs] using this
theorem fs_one : ∀ (l : List (Nat × Nat)), ∀ u ∈ fs l, u.oneCell' = true
  | [], u, h => by cases h
  | t :: r, u, h => by
    simp only [fs, List.mem_cons] at h
    rcases h with rfl | rfl | h
    · rfl
    · rfl
    · exact fs_one r u h
/-- A row of stretches in memory. -/
def Spn (w : World) (v : Value) (l : List (Nat × Nat)) : Prop :=
  ∃ ad cap, v = .slice ad l.length cap ∧ ∀ k t, l[k]? = some t → ∃ g off, ad = some ⟨g, off, none⟩ ∧ g < w.heap.size ∧ w.cell? ⟨g, off + k * 2, none⟩ = some (.int .u64 (t.1 : Int)) ∧ w.cell? ⟨g, off + k * 2 + 1, none⟩ = some (.int .u64 (t.2 : Int))
theorem Spn.nw {w w' : World} {v : Value} {l : List (Nat × Nat)} (h : Spn w v l) (n : Nw w w') : Spn w' v l := by
  obtain ⟨ad, cap, rfl, h⟩ := h
  refine ⟨ad, cap, rfl, fun k t ht => ?_⟩
  obtain ⟨g, off, rfl, h1, h2, h3⟩ := h k t ht
  exact ⟨g, off, rfl, Nat.lt_of_lt_of_le h1 n.size, n.cellOf h2, n.cellOf h3⟩
theorem Spn.of {w : World} {base : Nat} {v : Value} {l : List (Nat × Nat)} (h : w.ownsRow base 90 2 v l.length (fs l)) : Spn w v l := by
  have hlt := h.lt
  rcases h.2 with ⟨rfl, hn⟩ | ⟨g, cap, cur, rfl, _⟩
  · have : l = [] := List.length_eq_zero_iff.1 hn
    subst this
    exact ⟨none, 0, rfl, fun k t ht => by simp at ht⟩
  · refine ⟨_, _, rfl, fun k t ht => ⟨g, 0, rfl, (hlt g rfl).2, ?_, ?_⟩⟩
    · have := h.cells (g := g) rfl (k * 2) _ (fs_get l k t ht).1
      rw [addZ] at this
      rw [Nat.zero_add]; exact this
    · have := h.cells (g := g) rfl (k * 2 + 1) _ (fs_get l k t ht).2
      rw [addZ] at this
      rw [Nat.zero_add]; exact this
theorem Spn.len {w : World} {v : Value} {l : List (Nat × Nat)} (h : Spn w v l) : ∃ ad cap, v = .slice ad l.length cap := by
  obtain ⟨ad, cap, rfl, _⟩ := h; exact ⟨ad, cap, rfl⟩

end Go.Proofs.YtlaiomgebkeldaaDoor
