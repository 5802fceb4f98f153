/- The lines of a text, as a function on lists. -/
import Derived.Lib.IndexMore
namespace Go.Proofs.YtebbgpnhkpbefaaGreatDoor
set_option linter.unusedVariables false
set_option linter.unusedSimpArgs false

/-- The lines of what is left, cur standing ahead of it. -/
def lns : List UInt8 → List UInt8 → List (List UInt8)
  | _, [] => []
  | cur, c :: r => if c = 10 then cur :: lns [] r else lns (cur ++ [c]) r
/-- Empty, or with a line feed at the end. -/
def Lf (s : List UInt8) : Prop := s = [] ∨ s.getLast? = some 10
theorem Lf.tail {c : UInt8} {r : List UInt8} (h : Lf (c :: r)) (hr : r ≠ []) : Lf r := by
  rcases h with h | h
  · cases h
  · refine .inr ?_
    cases r with
    | nil => exact absurd rfl hr
    | cons d r => simpa using h
theorem Lf.one {c : UInt8} (h : Lf [c]) : c = 10 := by rcases h with h | h <;> simp at h; exact h
theorem lns_cut : ∀ (s cur : List UInt8) (i : Nat), Go.Lib.indexByte s 10 = i → lns cur s = (cur ++ s.take i) :: lns [] (s.drop (i + 1))
  | [], cur, i, h => by simp [Go.Lib.indexByte] at h
  | c :: r, cur, i, h => by
    unfold Go.Lib.indexByte at h
    by_cases hc : c = 10
    · subst hc
      simp at h
      obtain rfl : i = 0 := by omega
      simp [lns]
    · have hc' : (c == 10) = false := by simp [hc]
      rw [hc'] at h
      have hge := Go.Lib.indexByte_ge r 10
      by_cases hm : Go.Lib.indexByte r 10 = -1
      · simp [hm] at h
      · have hm' : (Go.Lib.indexByte r 10 == -1) = false := by simp [hm]
        rw [hm'] at h
        simp at h
        obtain ⟨k, rfl⟩ : ∃ k, i = k + 1 := ⟨i - 1, by omega⟩
        rw [lns, if_neg hc, lns_cut r (cur ++ [c]) k (by omega)]
        simp
theorem lf_index : ∀ (s : List UInt8), s ≠ [] → Lf s → ∃ i : Nat, Go.Lib.indexByte s 10 = i ∧ i < s.length ∧ Lf (s.drop (i + 1))
  | [], h, _ => absurd rfl h
  | c :: r, _, hl => by
    by_cases hc : c = 10
    · subst hc
      refine ⟨0, by simp [Go.Lib.indexByte], by simp, ?_⟩
      by_cases hr : r = []
      · subst hr; exact .inl rfl
      · simpa using hl.tail hr
    · have hr : r ≠ [] := fun e => hc (by subst e; exact hl.one)
      obtain ⟨i, hi, hlt, hd⟩ := lf_index r hr (hl.tail hr)
      refine ⟨i + 1, ?_, by simp; omega, by simpa using hd⟩
      unfold Go.Lib.indexByte
      have hc' : (c == 10) = false := by simp [hc]
      have hm' : (Go.Lib.indexByte r 10 == -1) = false := by rw [hi]; simp
      rw [hc', hm', hi]
      simp
theorem lns_append : ∀ (s cur t : List UInt8), s ≠ [] → Lf s → lns cur (s ++ t) = lns cur s ++ lns [] t
  | [], _, _, h, _ => absurd rfl h
  | c :: r, cur, t, _, hl => by
    by_cases hr : r = []
    · subst hr
      have := hl.one
      subst this
      simp [lns]
    · have ih := fun cur => lns_append r cur t hr (hl.tail hr)
      simp only [List.cons_append, lns]
      split
      · rw [ih]; rfl
      · rw [ih]
theorem lns_app (s t : List UInt8) (h : Lf s) : lns [] (s ++ t) = lns [] s ++ lns [] t := by
  by_cases hs : s = []
  · subst hs; simp [lns]
  · exact lns_append s [] t hs h
theorem lns_join : ∀ (s cur : List UInt8), s ≠ [] → Lf s → (lns cur s).flatMap (· ++ [10]) = cur ++ s
  | [], _, h, _ => absurd rfl h
  | c :: r, cur, _, hl => by
    by_cases hr : r = []
    · subst hr
      have := hl.one
      subst this
      simp [lns]
    · have ih := fun cur => lns_join r cur hr (hl.tail hr)
      simp only [lns]
      split
      · rename_i hc; subst hc; simp [ih]
      · rw [ih]; simp
theorem lns_back (s : List UInt8) (h : Lf s) : (lns [] s).flatMap (· ++ [10]) = s := by
  by_cases hs : s = []
  · subst hs; rfl
  · simpa using lns_join s [] hs h
theorem lns_no : ∀ (s cur : List UInt8), 10 ∉ cur → ∀ x ∈ lns cur s, 10 ∉ x
  | [], _, _, x, hx => by simp [lns] at hx
  | c :: r, cur, hcur, x, hx => by
    simp only [lns] at hx
    split at hx
    · rcases List.mem_cons.1 hx with rfl | h
      · exact hcur
      · exact lns_no r [] (by simp) x h
    · rename_i hc
      exact lns_no r (cur ++ [c]) (by simp [hcur]; exact fun e => hc e.symm) x hx
theorem lns_short : ∀ (s cur : List UInt8), (lns cur s).length ≤ s.length
  | [], _ => by simp [lns]
  | c :: r, cur => by
    simp only [lns]
    split
    · have := lns_short r []; simp; exact this
    · have := lns_short r (cur ++ [c]); simp; omega
theorem suffix_lf (s : List UInt8) : [(10 : UInt8)].isSuffixOf s = decide (s.getLast? = some 10) := by
  rw [Bool.eq_iff_iff]
  simp only [List.isSuffixOf_iff_suffix, decide_eq_true_eq]
  constructor
  · rintro ⟨t, rfl⟩; simp
  · intro h
    have hn : s ≠ [] := by intro e; subst e; simp at h
    refine ⟨s.dropLast, ?_⟩
    rw [List.getLast?_eq_some_getLast hn] at h
    have := List.dropLast_concat_getLast hn
    rw [Option.some.inj h] at this
    exact this
end Go.Proofs.YtebbgpnhkpbefaaGreatDoor
