/- Which of four letters may stand, letter by letter. -/
import Derived.Test.YtdcnoepgnncjoaaDoorA7
namespace Go.Proofs.YtdcnoepgnncjoaaDoor
set_option linter.unusedVariables false
set_option linter.unusedSimpArgs false

/-- May the letter at place k stand, if those ahead of it do? -/
def okA (G : List UInt8) (k : Nat) : Prop := if C G k = 61 then (2 ≤ k ∧ (k = 2 → ix abc (C G 1) % 16 = 0) ∧ (k = 3 → C G 2 = 61 ∨ ix abc (C G 2) % 4 = 0)) else (0 ≤ ix abc (C G k) ∧ (k = 3 → C G 2 ≠ 61))
theorem C_0 (a : UInt8) (l : List UInt8) : C (a :: l) 0 = a := rfl
theorem C_1 (a b : UInt8) (l : List UInt8) : C (a :: b :: l) 1 = b := rfl
theorem C_2 (a b c : UInt8) (l : List UInt8) : C (a :: b :: c :: l) 2 = c := rfl
theorem C_3 (a b c d : UInt8) (l : List UInt8) : C (a :: b :: c :: d :: l) 3 = d := rfl
theorem rgt_step (G : List UInt8) (k : Nat) (h4 : G.length ≤ 4) (hk : k < G.length) (hr : k ≤ rgt G) : (okA G k → k + 1 ≤ rgt G) ∧ (¬ okA G k → rgt G = k) ∧ (0 < k → 0 ≤ ix abc (C G 0)) ∧ (1 < k → 0 ≤ ix abc (C G 1)) ∧ (2 < k → C G 2 ≠ 61 → 0 ≤ ix abc (C G 2)) := by
  have e61 : ∀ c : UInt8, c = 61 → ix abc c = -1 := fun c h => by rw [h]; exact ix_61
  unfold okA
  rcases G with _ | ⟨c0, _ | ⟨c1, _ | ⟨c2, _ | ⟨c3, _ | ⟨c4, r⟩⟩⟩⟩⟩
  · simp at hk
  · obtain rfl : k = 0 := by simp at hk; omega
    have h0 := e61 c0
    clear e61
    simp only [rgt, C_0, C_1, C_2, C_3] at hr ⊢
    generalize ix abc c0 = x0 at *
    grind
  · have hk' : k = 0 ∨ k = 1 := by simp at hk; omega
    have h0 := e61 c0
    have h1 := e61 c1
    clear e61
    rcases hk' with rfl | rfl
    all_goals
      simp only [rgt, C_0, C_1, C_2, C_3] at hr ⊢
      generalize ix abc c0 = x0 at *
      generalize ix abc c1 = x1 at *
      grind
  · have hk' : k = 0 ∨ k = 1 ∨ k = 2 := by simp at hk; omega
    have h0 := e61 c0
    have h1 := e61 c1
    have h2 := e61 c2
    clear e61
    rcases hk' with rfl | rfl | rfl
    all_goals
      simp only [rgt, C_0, C_1, C_2, C_3] at hr ⊢
      generalize ix abc c0 = x0 at *
      generalize ix abc c1 = x1 at *
      generalize ix abc c2 = x2 at *
      grind
  · have hk' : k = 0 ∨ k = 1 ∨ k = 2 ∨ k = 3 := by simp at hk; omega
    have h0 := e61 c0
    have h1 := e61 c1
    have h2 := e61 c2
    have h3 := e61 c3
    clear e61
    rcases hk' with rfl | rfl | rfl | rfl
    all_goals
      simp only [rgt, C_0, C_1, C_2, C_3] at hr ⊢
      generalize ix abc c0 = x0 at *
      generalize ix abc c1 = x1 at *
      generalize ix abc c2 = x2 at *
      generalize ix abc c3 = x3 at *
      grind
  · simp at h4
#print axioms rgt_step
end Go.Proofs.YtdcnoepgnncjoaaDoor
