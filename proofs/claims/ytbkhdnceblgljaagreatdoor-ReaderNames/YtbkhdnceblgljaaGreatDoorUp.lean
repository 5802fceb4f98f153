/- tile: the tiles of a log: their order, their sums, which there are (pure). -/
import Derived.Test.YtbkhdnceblgljaaGreatDoorUo
namespace Go.Proofs.YtbkhdnceblgljaaGreatDoor
open Go.RowKit
set_option linter.unusedVariables false
set_option linter.unusedSimpArgs false
/-- The widths of a level, together. -/
def sumW : List Ti → Nat → Nat
  | [], _ => 0
  | t :: r, v => (if t.L = v then t.W else 0) + sumW r v
theorem sumW_app : ∀ (l m : List Ti) (v : Nat), sumW (l ++ m) v = sumW l v + sumW m v
  | [], m, v => by simp [sumW]
  | t :: r, m, v => by simp only [List.cons_append, sumW, sumW_app r m v]; omega
theorem sumW_take (l : List Ti) (k v : Nat) : sumW (l.take k) v ≤ sumW l v := by
  have := sumW_app (l.take k) (l.drop k) v
  rw [List.take_append_drop] at this
  omega
theorem sumW_lv (S l : Nat) (hS : S ≤ 1048576) (hl : l ≤ 7) (v : Nat) : ∀ k, sumW (lvT S l k) v = if l = v then min (256 * k) (nod8 l S) else 0
  | 0 => by simp [lvT, sumW]
  | k + 1 => by
    rw [lvT_succ, sumW_app, sumW_lv S l hS hl v k]
    simp only [sumW, wid_small S l k hS hl]
    split <;> omega
theorem sumW_all (S : Nat) (hS : S ≤ 1048576) (v : Nat) : ∀ j, j ≤ 8 → sumW (allT S j) v = if v < j then nod8 v S else 0
  | 0, _ => by simp [allT, sumW]
  | j + 1, h => by
    simp only [allT]
    rw [sumW_app, sumW_all S hS v j (by omega), sumW_lv S j hS (by omega)]
    by_cases hv : j = v
    · subst hv
      rw [if_neg (by omega), if_pos rfl, if_pos (by omega)]
      unfold cntT
      omega
    · rw [if_neg hv]
      by_cases h2 : v < j
      · rw [if_pos h2, if_pos (by omega)]; omega
      · rw [if_neg h2, if_neg (by omega)]
/-- What stands ahead. -/
def aheadT (a b : Ti) : Prop := a.L < b.L ∨ (a.L = b.L ∧ a.I < b.I)
theorem lvT_mem {S l k : Nat} {t : Ti} (h : t ∈ lvT S l k) : t.L = l ∧ t.I < k ∧ t.W = wid l t.I S := by
  simp only [lvT, List.mem_map, List.mem_range] at h
  obtain ⟨i, hi, rfl⟩ := h
  exact ⟨rfl, hi, rfl⟩
theorem allT_mem {S : Nat} : ∀ {j : Nat} {t : Ti}, t ∈ allT S j → t.L < j ∧ t.I < cntT S t.L ∧ t.W = wid t.L t.I S
  | 0, t, h => by simp [allT] at h
  | j + 1, t, h => by
    simp only [allT, List.mem_append] at h
    rcases h with h | h
    · obtain ⟨h1, h2⟩ := allT_mem h
      exact ⟨by omega, h2⟩
    · obtain ⟨h1, h2, h3⟩ := lvT_mem h
      rw [h1]
      exact ⟨by omega, h2, h3⟩
theorem allT_has {S : Nat} : ∀ {j l i : Nat}, l < j → i < cntT S l → (⟨l, i, wid l i S⟩ : Ti) ∈ allT S j
  | 0, l, i, h, _ => by omega
  | j + 1, l, i, h, hi => by
    simp only [allT, List.mem_append]
    rcases Nat.lt_or_ge l j with q | q
    · exact .inl (allT_has q hi)
    · obtain rfl : l = j := by omega
      refine .inr ?_
      simp only [lvT, List.mem_map, List.mem_range]
      exact ⟨i, hi, rfl⟩
theorem allT_pw (S : Nat) : ∀ j, (allT S j).Pairwise aheadT
  | 0 => List.Pairwise.nil
  | j + 1 => by
    simp only [allT]
    refine List.pairwise_append.2 ⟨allT_pw S j, ?_, fun a ha b hb => ?_⟩
    · unfold lvT
      refine List.pairwise_map.2 (List.Pairwise.imp ?_ (List.pairwise_lt_range (n := cntT S j)))
      intro a b h
      exact .inr ⟨rfl, h⟩
    · have h1 := (allT_mem ha).1
      have h2 := (lvT_mem hb).1
      exact .inl (by omega)
theorem allT_next {S j i : Nat} {a b : Ti} (ha : (allT S j)[i]? = some a) (hb : (allT S j)[i + 1]? = some b) : aheadT a b := by
  obtain ⟨h1, rfl⟩ := List.getElem?_eq_some_iff.1 ha
  obtain ⟨h2, rfl⟩ := List.getElem?_eq_some_iff.1 hb
  exact List.pairwise_iff_getElem.1 (allT_pw S j) i (i + 1) h1 h2 (by omega)
/-- Is it among the first k? -/
noncomputable def mtT (l : List Ti) (x : Ti) (k : Nat) : Bool := by classical exact decide (x ∈ l.take k)
theorem mtT_zero (l : List Ti) (x : Ti) : mtT l x 0 = false := by
  classical
  simp [mtT]
theorem mtT_yes {l : List Ti} {x : Ti} {k : Nat} (h : l[k]? = some x) : mtT l x (k + 1) = true := by
  classical
  unfold mtT
  rw [decide_eq_true_eq, List.take_add_one, h]
  simp
theorem mtT_no {l : List Ti} {x t : Ti} {k : Nat} (h : l[k]? = some t) (hne : x ≠ t) : mtT l x (k + 1) = mtT l x k := by
  classical
  unfold mtT
  rw [decide_eq_decide, List.take_add_one, h]
  simp [hne]
theorem mtT_more {l : List Ti} {x : Ti} {k : Nat} (h : mtT l x k = true) : mtT l x (k + 1) = true := by
  classical
  unfold mtT at h ⊢
  rw [decide_eq_true_eq] at h ⊢
  rw [List.take_add_one]
  exact List.mem_append_left _ h
theorem mtT_all (l : List Ti) (x : Ti) : mtT l x l.length = true ↔ x ∈ l := by
  classical
  unfold mtT
  rw [decide_eq_true_eq, List.take_length]
/-- The sums' cells. -/
def smc (l : List Ti) : Array Value := #[.int .u64 (sumW l 0 : Int), .int .u64 (sumW l 1 : Int), .int .u64 (sumW l 2 : Int), .int .u64 (sumW l 3 : Int), .int .u64 (sumW l 4 : Int), .int .u64 (sumW l 5 : Int), .int .u64 (sumW l 6 : Int), .int .u64 (sumW l 7 : Int)]
theorem smc_at (l : List Ti) (v : Nat) (h : v ≤ 7) : (smc l)[v]? = some (.int .u64 (sumW l v : Int)) := by
  have : v = 0 ∨ v = 1 ∨ v = 2 ∨ v = 3 ∨ v = 4 ∨ v = 5 ∨ v = 6 ∨ v = 7 := by omega
  rcases this with rfl | rfl | rfl | rfl | rfl | rfl | rfl | rfl <;> rfl
theorem smc_snoc (l : List Ti) (t : Ti) (h : t.L ≤ 7) : (smc l).setIfInBounds t.L (.int .u64 ((sumW l t.L : Int) + (t.W : Int))) = smc (l ++ [t]) := by
  have e : ∀ v, sumW (l ++ [t]) v = sumW l v + (if t.L = v then t.W else 0) := fun v => by rw [sumW_app]; simp [sumW]
  have : t.L = 0 ∨ t.L = 1 ∨ t.L = 2 ∨ t.L = 3 ∨ t.L = 4 ∨ t.L = 5 ∨ t.L = 6 ∨ t.L = 7 := by omega
  unfold smc
  simp only [e]
  rcases this with h | h | h | h | h | h | h | h <;> simp [h]
theorem wid_full {S l i : Nat} (h : 0 < wid l i S) : l ≤ 7 ∧ wid l i S ≤ 256 := by
  unfold wid at h ⊢
  split at h
  · omega
  · rename_i q
    rw [if_neg q]
    omega
end Go.Proofs.YtbkhdnceblgljaaGreatDoor
