/- What the definition's path and proof say (pure). -/
import Derived.Test.YtaeocbdphfkflaaDoorAl
import Derived.Test.YtaeocbdphfkflaaDoorAcd
import Derived.Test.YtaeocbdphfkflaaDoorYvw
namespace Go.Proofs.YtaeocbdphfkflaaDoor
open Go.RowKit
set_option linter.unusedVariables false
set_option linter.unusedSimpArgs false
theorem hshp_cut (L : List (List UInt8)) {b e : Nat} (h : 2 ≤ e - b) (he : e ≤ L.length) : hshp L (b, e) = ndp (hshp L (b, b + spl (e - b))) (hshp L (b + spl (e - b), e)) := by
  have hl : (sbh L b e).length = e - b := by rw [sbh_len]; omega
  have hk := spl_lt h
  unfold hshp
  rw [mhh_cut (by rw [hl]; exact h), hl, sbh_take (by omega), sbh_drop]
theorem hshp_leaf (L : List (List UInt8)) {i : Nat} {x : List UInt8} (h : L[i]? = some x) : hshp L (i, i + 1) = x := by
  have hi := (List.getElem?_eq_some_iff.1 h).1
  have : sbh L i (i + 1) = [x] := by
    unfold sbh
    rw [List.take_add_one, h, List.drop_append, List.drop_of_length_le (by simp; omega)]
    simp [List.length_take, Nat.min_eq_left (Nat.le_of_lt hi)]
  show mhh (sbh L i (i + 1)) = x
  rw [this, mhh_one]
theorem tk_path (L : List (List UInt8)) : ∀ (N b e i : Nat), e - b ≤ N → b ≤ i → i < e → e ≤ L.length → ((pth i b e).map (hshp L)).length = (sds (i - b) (e - b)).length ∧ clm (hshp L (i, i + 1)) ((pth i b e).map (hshp L)) (sds (i - b) (e - b)) = hshp L (b, e)
  | 0, b, e, i, hN, h1, h2, he => by omega
  | N + 1, b, e, i, hN, h1, h2, he => by
    by_cases h : 2 ≤ e - b
    · have hk := spl_lt h
      have hp := spl_pos (e - b)
      by_cases hi : i < b + spl (e - b)
      · obtain ⟨ih1, ih2⟩ := tk_path L N b (b + spl (e - b)) i (by omega) h1 hi (by omega)
        rw [Nat.add_sub_cancel_left] at ih1 ih2
        rw [pth_left h hi, sds_left h (by omega), List.map_append, List.map_cons, List.map_nil]
        refine ⟨by simp only [List.length_append, ih1, List.length_cons, List.length_nil], ?_⟩
        rw [clm_snoc _ _ _ _ _ ih1, ih2, hshp_cut L h he]
        rfl
      · obtain ⟨ih1, ih2⟩ := tk_path L N (b + spl (e - b)) e i (by omega) (by omega) h2 he
        have e1 : i - (b + spl (e - b)) = i - b - spl (e - b) := by omega
        have e2 : e - (b + spl (e - b)) = e - b - spl (e - b) := by omega
        rw [e1, e2] at ih1 ih2
        rw [pth_right h hi, sds_right h (by omega), List.map_append, List.map_cons, List.map_nil]
        refine ⟨by simp only [List.length_append, ih1, List.length_cons, List.length_nil], ?_⟩
        rw [clm_snoc _ _ _ _ _ ih1, ih2, hshp_cut L h he]
        rfl
    · obtain rfl : i = b := by omega
      obtain rfl : e = i + 1 := by omega
      rw [pth_one h, sds_one _ _ (by omega)]
      exact ⟨rfl, by simp [clm]⟩
theorem spl_same {n o : Nat} (h2 : 2 ≤ n) (h1 : spl n < o) (h : o ≤ n) : spl o = spl n := by
  obtain ⟨k, hk, h3, h4⟩ := spl_ex h2
  rw [hk] at h1
  rw [hk]
  exact spl_of h1 (by omega)
theorem tk_sub (L : List (List UInt8)) (bf : List UInt8) : ∀ (N b e o : Nat) (kn : Bool), e - b ≤ N → b < o → o ≤ e → e ≤ L.length → (kn = true → bf = hshp L (b, o)) →
    ((prf o b e kn).map (hshp L)).length = (gds (o - b) (e - b)).length + (if knb (o - b) (e - b) kn then 0 else 1) ∧ sbA (o - b) (e - b) kn bf ((prf o b e kn).map (hshp L)) = (hshp L (b, o), hshp L (b, e))
  | 0, b, e, o, kn, hN, h1, h2, he, hb => by omega
  | N + 1, b, e, o, kn, hN, h1, h2, he, hb => by
    by_cases hoe : o = e
    · subst hoe
      rw [gds_same, knb_same]
      cases kn
      · rw [prf_whole]
        refine ⟨rfl, ?_⟩
        unfold sbA
        rw [knb_same, gds_same]
        rfl
      · rw [prf_known]
        refine ⟨rfl, ?_⟩
        unfold sbA
        rw [knb_same, gds_same]
        show (bf, bf) = _
        rw [hb rfl]
    · have h : 2 ≤ e - b := by omega
      have hk := spl_lt h
      have hp := spl_pos (e - b)
      by_cases hi : o ≤ b + spl (e - b)
      · obtain ⟨ih1, ih2⟩ := tk_sub L bf N b (b + spl (e - b)) o kn (by omega) h1 hi (by omega) hb
        rw [Nat.add_sub_cancel_left] at ih1 ih2
        rw [prf_left h hoe hi, List.map_append, List.map_cons, List.map_nil]
        refine ⟨?_, ?_⟩
        · rw [List.length_append, ih1, gds_left (by omega) h (by omega), knb_left kn (by omega) h (by omega)]
          simp
          omega
        · rw [sbA_left (by omega) h (by omega) ih1, ih2, hshp_cut L h he]
      · obtain ⟨ih1, ih2⟩ := tk_sub L bf N (b + spl (e - b)) e o false (by omega) (by omega) h2 he (by simp)
        have e1 : o - (b + spl (e - b)) = o - b - spl (e - b) := by omega
        have e2 : e - (b + spl (e - b)) = e - b - spl (e - b) := by omega
        rw [e1, e2] at ih1 ih2
        rw [knb_false] at ih1
        rw [prf_right h hoe hi, List.map_append, List.map_cons, List.map_nil]
        refine ⟨?_, ?_⟩
        · rw [List.length_append, ih1, gds_right (by omega) h (by omega), knb_right kn (by omega) h (by omega)]
          simp
        · rw [sbA_right (by omega) h (by omega) ih1, ih2, hshp_cut L h he]
          have h3 : spl (o - b) = spl (e - b) := spl_same h (by omega) (by omega)
          have h4 := hshp_cut L (b := b) (e := o) (by omega) (by omega)
          rw [h3] at h4
          rw [h4]
/-- The path verifies. -/
theorem tk_rt (L : List (List UInt8)) (m : Nat) (x : List UInt8) (hx : L[m]? = some x) (hl : L.length ≤ 1000) : rtA m L.length x ((pth m 0 L.length).map (hshp L)) = (hshp L (0, L.length), 0) := by
  have hm := (List.getElem?_eq_some_iff.1 hx).1
  obtain ⟨h1, h2⟩ := tk_path L L.length 0 L.length m (by omega) (by omega) hm (Nat.le_refl _)
  rw [Nat.sub_zero, Nat.sub_zero] at h1 h2
  rw [hshp_leaf L hx] at h2
  rw [rtA_yes (by omega) h1, h2]
theorem tk_ic (L : List (List UInt8)) (m : Nat) (x : List UInt8) (hx : L[m]? = some x) (hl : L.length ≤ 1000) : icA m L.length x ((pth m 0 L.length).map (hshp L)) (hshp L (0, L.length)) = 0 := by
  unfold icA
  rw [tk_rt L m x hx hl, if_pos rfl, if_pos rfl]
theorem ic_len {i n : Nat} {x r : List UInt8} {P Q : List (List UInt8)} (h : ¬ (9223372036854775808 < n ∨ n ≤ i)) (hP : P.length = (sds i n).length) (hQ : Q.length ≠ P.length) : icA i n x Q r = 10 := by
  unfold icA
  rw [rtA_no h (by omega)]
  rfl
theorem tk_cc (L : List (List UInt8)) (o : Nat) (h1 : 1 ≤ o) (ho : o ≤ L.length) (hl : L.length ≤ 1000) : ccA o L.length (hshp L (0, o)) (hshp L (0, L.length)) ((prf o 0 L.length true).map (hshp L)) = 0 := by
  obtain ⟨h2, h3⟩ := tk_sub L (hshp L (0, o)) L.length 0 L.length o true (by omega) (by omega) ho (Nat.le_refl _) (fun _ => rfl)
  rw [Nat.sub_zero, Nat.sub_zero] at h2 h3
  rw [ccA_sub (by omega), if_pos h2, h3, if_pos ⟨rfl, rfl⟩]
theorem cc_len {o n : Nat} {bf af : List UInt8} {P Q : List (List UInt8)} (h : ¬ (9223372036854775808 < n ∨ o = 0 ∨ n < o)) (hP : P.length = (gds o n).length + (if knb o n true then 0 else 1)) (hQ : Q.length ≠ P.length) : ccA o n bf af Q = 10 := by
  rw [ccA_sub h, if_neg (by omega)]
end Go.Proofs.YtaeocbdphfkflaaDoor
