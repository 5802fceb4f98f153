/- Stretches put in order; the two sides of a proof. -/
import Derived.Test.YtigbjpphmbmbiaaDoorN1
namespace Go.Proofs.YtigbjpphmbmbiaaDoor
set_option linter.unusedVariables false
/- ### which ones are not used yet -/
def unu : List (Nat × Nat) → List Bool → List (Nat × Nat)
  | s :: r, u :: q => if u then unu r q else s :: unu r q
  | _, _ => []
theorem unu_all : ∀ l : List (Nat × Nat), unu l (List.replicate l.length false) = l
  | [] => rfl
  | s :: r => by simp only [List.length_cons, List.replicate_succ, unu, unu_all r]; simp
theorem unu_mem : ∀ {l : List (Nat × Nat)} {us : List Bool} {t : Nat × Nat}, t ∈ unu l us → ∃ i : Nat, l[i]? = some t ∧ us[i]? = some false
  | [], us, t, h => by cases us <;> simp [unu] at h
  | s :: r, [], t, h => by simp [unu] at h
  | s :: r, u :: q, t, h => by
    cases u with
    | true =>
      obtain ⟨i, h1, h2⟩ := unu_mem (l := r) (us := q) (by simpa [unu] using h)
      exact ⟨i + 1, by simpa using h1, by simpa using h2⟩
    | false =>
      have h' : t ∈ s :: unu r q := by simpa [unu] using h
      rcases List.mem_cons.1 h' with rfl | h'
      · exact ⟨0, rfl, rfl⟩
      · obtain ⟨i, h1, h2⟩ := unu_mem h'
        exact ⟨i + 1, by simpa using h1, by simpa using h2⟩
theorem unu_set : ∀ {l : List (Nat × Nat)} {us : List Bool} {i : Nat} {t : Nat × Nat}, l[i]? = some t → us[i]? = some false → List.Perm (unu l us) (t :: unu l (us.set i true))
  | [], us, i, t, h, _ => by simp at h
  | s :: r, [], i, t, _, h => by simp at h
  | s :: r, u :: q, 0, t, h, h2 => by
    simp at h h2
    subst h
    subst h2
    simp [unu]
  | s :: r, u :: q, i + 1, t, h, h2 => by
    have ih := unu_set (l := r) (us := q) (i := i) (t := t) (by simpa using h) (by simpa using h2)
    cases u with
    | true => simpa [unu] using ih
    | false =>
      simp only [List.set_cons_succ, unu, Bool.false_eq_true, if_false]
      exact (ih.cons s).trans (List.Perm.swap _ _ _)
theorem tls_find {a c : Nat} {l : List (Nat × Nat)} {us : List Bool} (h : Tls a c (unu l us)) (hne : unu l us ≠ []) : ∃ (i : Nat) (t : Nat × Nat), l[i]? = some t ∧ us[i]? = some false ∧ t.1 = a ∧ a < t.2 := by
  obtain ⟨r, hp, hc⟩ := h
  cases r with
  | nil => exact absurd (List.Perm.eq_nil hp) hne
  | cons t r =>
    obtain ⟨i, h1, h2⟩ := unu_mem (hp.symm.subset (by simp : t ∈ t :: r))
    exact ⟨i, t, h1, h2, hc.1, by have := hc.2.1; exact this⟩
theorem tls_take {a c : Nat} {l : List (Nat × Nat)} {us : List Bool} {i : Nat} {t : Nat × Nat} (h : Tls a c (unu l us)) (h1 : l[i]? = some t) (h2 : us[i]? = some false) (ht : t.1 = a) : Tls t.2 c (unu l (us.set i true)) := by
  obtain ⟨r, hp, hc⟩ := h
  have hq := (unu_set h1 h2).symm.trans hp
  cases r with
  | nil => exact absurd (List.Perm.eq_nil hq) (by simp)
  | cons u r =>
    have hm : t ∈ u :: r := hq.subset (by simp)
    have hu : t = u := by
      rcases List.mem_cons.1 hm with h3 | h3
      · exact h3
      · have := Chn.mem hc.2.2 t h3
        have := hc.1
        have := hc.2.1
        omega
    subst hu
    exact ⟨r, List.Perm.cons_inv hq, hc.2.2⟩
theorem tls_nil {a c : Nat} (h : Tls a c []) : a = c := by
  obtain ⟨r, hp, hc⟩ := h
  have := List.Perm.eq_nil hp.symm
  subst this
  exact hc
theorem unu_len {l : List (Nat × Nat)} {us : List Bool} {i : Nat} {t : Nat × Nat} (h1 : l[i]? = some t) (h2 : us[i]? = some false) : (unu l us).length = (unu l (us.set i true)).length + 1 := by
  have := (unu_set h1 h2).length_eq
  simpa using this

/- ### the least beginning -/
theorem fst_app (o : Nat) (l : List (Nat × Nat)) (t : Nat × Nat) : fst o (l ++ [t]) = if t.1 < fst o l then t.1 else fst o l := by unfold fst; rw [List.foldl_append]; rfl
theorem fst_le : ∀ (l : List (Nat × Nat)) (o : Nat), fst o l ≤ o ∧ ∀ t ∈ l, fst o l ≤ t.1
  | [], o => ⟨Nat.le_refl _, fun t h => by cases h⟩
  | s :: r, o => by
    have e : fst o (s :: r) = fst (if s.1 < o then s.1 else o) r := rfl
    rw [e]
    obtain ⟨h1, h2⟩ := fst_le r (if s.1 < o then s.1 else o)
    have h3 : (if s.1 < o then s.1 else o) ≤ o ∧ (if s.1 < o then s.1 else o) ≤ s.1 := by split <;> omega
    refine ⟨by omega, fun t ht => ?_⟩
    rcases List.mem_cons.1 ht with rfl | ht
    · omega
    · exact h2 t ht
theorem fst_in : ∀ (l : List (Nat × Nat)) (o : Nat), fst o l = o ∨ ∃ t ∈ l, fst o l = t.1
  | [], o => .inl rfl
  | s :: r, o => by
    have e : fst o (s :: r) = fst (if s.1 < o then s.1 else o) r := rfl
    rw [e]
    rcases fst_in r (if s.1 < o then s.1 else o) with h | ⟨t, ht, h⟩
    · by_cases hs : s.1 < o
      · simp only [if_pos hs] at h ⊢
        exact .inr ⟨s, by simp, h⟩
      · simp only [if_neg hs] at h ⊢
        exact .inl h
    · exact .inr ⟨t, by simp [ht], h⟩
theorem fst_tls {b o : Nat} {l : List (Nat × Nat)} (h : Tls b o l) (hbo : b < o) : fst o l = b := by
  obtain ⟨r, hp, hc⟩ := h
  cases r with
  | nil => have : b = o := hc; omega
  | cons t r =>
    have hm : t ∈ l := hp.symm.subset (by simp)
    have h1 := (fst_le l o).2 t hm
    have h2 : t.1 = b := hc.1
    rcases fst_in l o with h3 | ⟨u, hu, h3⟩
    · omega
    · have := Chn.mem hc u (hp.subset hu)
      omega
/-- What is said of a proof. -/
theorem prf_says {o n : Nat} (h0 : 0 < o) (hn : o ≤ n) :
    Tls o n ((prf o 0 n true).filter (fun t => decide (o ≤ t.1))) ∧ Tls (fst o ((prf o 0 n true).filter (fun t => !decide (o ≤ t.1)))) o ((prf o 0 n true).filter (fun t => !decide (o ≤ t.1))) ∧
      (fst o ((prf o 0 n true).filter (fun t => !decide (o ≤ t.1))) = 0 ∨ fst o ((prf o 0 n true).filter (fun t => !decide (o ≤ t.1))) = o) ∧ ∀ t ∈ prf o 0 n true, t.1 < t.2 ∧ ¬ (t.1 < o ∧ o < t.2) := by
  obtain ⟨h1, h2, h3⟩ := prf_two n o 0 n true (by omega) h0 hn
  refine ⟨h1, ?_, ?_, h3⟩
  · rcases h2 with h2 | ⟨_, h2⟩
    · rw [fst_tls h2 h0]; exact h2
    · rw [h2]; exact ⟨[], .refl _, rfl⟩
  · rcases h2 with h2 | ⟨_, h2⟩
    · exact .inl (fst_tls h2 h0)
    · rw [h2]; exact .inr rfl
end Go.Proofs.YtigbjpphmbmbiaaDoor
