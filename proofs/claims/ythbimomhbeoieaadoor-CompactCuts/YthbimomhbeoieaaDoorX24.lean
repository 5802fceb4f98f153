/- compact: ranges of the same leaves are the same. -/
import Derived.Test.YthbimomhbeoieaaDoorX23
namespace Go.Proofs.YthbimomhbeoieaaDoor
open Go.RowKit Go.Shelf
set_option linter.unusedVariables false
set_option linter.unusedSimpArgs false
theorem gd_uniq (f : Nat → List UInt8) : ∀ (T U : List Tre), ats T = ats U → Gd f T → Gd f U → T = U
  | [], [], _, _, _ => rfl
  | [], _ :: _, h, _, _ => by simp [ats] at h
  | _ :: _, [], h, _, _ => by simp [ats] at h
  | t :: T, u :: U, h, hT, hU => by
    simp only [ats, List.map_cons, List.cons.injEq, Prod.mk.injEq] at h
    obtain ⟨⟨e1, e2⟩, e3⟩ := h
    have h1 := hT t (by simp)
    have h2 := hU u (by simp)
    rw [e1, e2, ← h2] at h1
    have ih := gd_uniq f T U e3 (fun x hx => hT x (by simp [hx])) (fun x hx => hU x (by simp [hx]))
    rw [ih]
    congr 1
    cases t; cases u
    simp only at e1 e2 h1
    rw [e1, e2, h1]
theorem pshAll_gd (f : Nat → List UInt8) : ∀ (U T : List Tre) (B a c : Nat), Cvd B a T → (∀ x ∈ T, x.ok) → (∀ x ∈ U, x.ok) → Row a c (ats U) → Gd f T → Gd f U → Gd f (pshAll T U)
  | [], T, B, a, c, hT, h1, h2, hr, gT, gU => gT
  | u :: U, T, B, a, c, hT, h1, h2, hr, gT, gU => by
    have hu := h2 u (by simp)
    have hua : u.I * 2 ^ u.L = a := hr.1
    exact pshAll_gd f U (psh T u) B (a + 2 ^ u.L) c (hT.push h1 hu hua) (psh_ok h1 hu) (fun x hx => h2 x (by simp [hx])) hr.2 (psh_gd f _ T u B a rfl h1 hu hT.1 hua gT (gU u (by simp))) (fun x hx => gU x (by simp [hx]))
/-- Two ranges side by side, joined: the range of the leaves of both. -/
theorem join_apt (f : Nat → List UInt8) (n : Nat) (L M : List (List UInt8)) (h1 : ∀ x ∈ L, x.length = 32) (h2 : ∀ x ∈ M, x.length = 32) (hn : n + (L ++ M).length ≤ 9223372036854775808) (hf : ∀ i x, (L ++ M)[i]? = some x → f (n + i) = x) : pshAll (apt n L) (apt (n + L.length) M) = apt n (L ++ M) := by
  rw [List.length_append] at hn
  obtain ⟨a1, a2⟩ := apt_ok n _ L rfl h1 (by omega)
  obtain ⟨b1, b2⟩ := apt_ok (n + L.length) _ M rfl h2 (by omega)
  obtain ⟨c1, c2⟩ := apt_ok n _ (L ++ M) rfl (fun x hx => by rcases List.mem_append.1 hx with q | q; exact h1 x q; exact h2 x q) (by rw [List.length_append]; omega)
  have g1 := apt_gd f n _ L rfl h1 (by omega) (fun i x hx => hf i x (by rw [List.getElem?_append_left (List.getElem?_eq_some_iff.1 hx).1]; exact hx))
  have g2 := apt_gd f (n + L.length) _ M rfl h2 (by omega) (fun i x hx => by rw [Nat.add_assoc]; exact hf _ x (by rw [List.getElem?_append_right (by omega), Nat.add_sub_cancel_left]; exact hx))
  have g3 := apt_gd f n _ (L ++ M) rfl (fun x hx => by rcases List.mem_append.1 hx with q | q; exact h1 x q; exact h2 x q) (by rw [List.length_append]; omega) hf
  have j := Cvd.joins (apt (n + L.length) M) (apt n L) n (n + L.length) (n + L.length + M.length) a2 a1 b1 b2.1
  have jg := pshAll_gd f (apt (n + L.length) M) (apt n L) n (n + L.length) (n + L.length + M.length) a2 a1 b1 b2.1 g1 g2
  refine gd_uniq f _ _ ?_ jg g3
  rw [j.cov, c2.cov, List.length_append, Nat.add_assoc]
theorem zpt_self (T : List Tre) : zpt (ats T) (hss T) = T := by
  induction T with
  | nil => rfl
  | cons t r ih =>
    simp only [zpt, ats, hss, List.map_cons, List.zipWith_cons_cons] at ih ⊢
    rw [ih]
end Go.Proofs.YthbimomhbeoieaaDoor
