/- compact: the trees' hashes are those of their leaves; folded from the right they are MTH. -/
import Derived.Test.YthbimomhbeoieaaDoorX18
import Derived.Test.YthbimomhbeoieaaDoorN1
namespace Go.Proofs.YthbimomhbeoieaaDoor
open Go.RowKit Go.Shelf
set_option linter.unusedVariables false
set_option linter.unusedSimpArgs false
/-- MTH of leaves' hashes. -/
def mhh (l : List (List UInt8)) : List UInt8 :=
  if h : 2 ≤ l.length then nod (mhh (l.take (spl l.length))) (mhh (l.drop (spl l.length)))
  else match l with
    | [] => Sh []
    | x :: _ => x
termination_by l.length
decreasing_by
  · have := spl_lt h
    rw [List.length_take]; omega
  · have := spl_pos l.length
    rw [List.length_drop]; omega
theorem mhh_cut {l : List (List UInt8)} (h : 2 ≤ l.length) : mhh l = nod (mhh (l.take (spl l.length))) (mhh (l.drop (spl l.length))) := by rw [mhh, dif_pos h]
theorem mhh_nil : mhh [] = Sh [] := by rw [mhh, dif_neg (by simp)]
theorem mhh_one (x : List UInt8) : mhh [x] = x := by rw [mhh, dif_neg (by simp)]
theorem mhh_len (l : List (List UInt8)) (hl : ∀ x ∈ l, x.length = 32) : (mhh l).length = 32 := by
  rw [mhh]
  split
  · exact nod_len _ _
  · split
    · exact Sh_len _
    · exact hl _ (by simp)
/-- So many leaves from one on. -/
def lvs (f : Nat → List UInt8) (a k : Nat) : List (List UInt8) := (List.range k).map fun j => f (a + j)
theorem lvs_len (f : Nat → List UInt8) (a k : Nat) : (lvs f a k).length = k := by simp [lvs]
theorem lvs_take (f : Nat → List UInt8) (a k m : Nat) (h : m ≤ k) : (lvs f a k).take m = lvs f a m := by
  simp [lvs, ← List.map_take, List.take_range, Nat.min_eq_left h]
theorem lvs_drop (f : Nat → List UInt8) (a k m : Nat) : (lvs f a k).drop m = lvs f (a + m) (k - m) := by
  apply List.ext_getElem
  · simp [lvs]
  · intro i h1 h2
    simp [lvs, Nat.add_assoc]
/-- The hash of so many leaves from one on. -/
def sth (f : Nat → List UInt8) (a k : Nat) : List UInt8 := mhh (lvs f a k)
theorem sth_one (f : Nat → List UInt8) (a : Nat) : sth f a 1 = f a := by
  unfold sth lvs
  rw [show List.range 1 = [0] from rfl, List.map_cons, List.map_nil, mhh_one, Nat.add_zero]
theorem sth_cut (f : Nat → List UInt8) (a n k : Nat) (h1 : 2 ^ k < n) (h2 : n ≤ 2 * 2 ^ k) : sth f a n = nod (sth f a (2 ^ k)) (sth f (a + 2 ^ k) (n - 2 ^ k)) := by
  have hp := Nat.two_pow_pos k
  unfold sth
  rw [mhh_cut (by rw [lvs_len]; omega), lvs_len, spl_of h1 h2, lvs_take _ _ _ _ (by omega), lvs_drop]
/-- Each tree's hash is that of its leaves. -/
def Gd (f : Nat → List UInt8) (T : List Tre) : Prop := ∀ t ∈ T, t.H = sth f (t.I * 2 ^ t.L) (2 ^ t.L)
theorem both_gd {f : Nat → List UInt8} {x t : Tre} (h : Sib x t) (he : x.I % 2 = 0) (hl : x.L = t.L) (hadj : t.I * 2 ^ t.L = x.I * 2 ^ x.L + 2 ^ x.L) (hx : x.H = sth f (x.I * 2 ^ x.L) (2 ^ x.L)) (ht : t.H = sth f (t.I * 2 ^ t.L) (2 ^ t.L)) : (both x t).H = sth f ((both x t).I * 2 ^ (both x t).L) (2 ^ (both x t).L) := by
  rw [both_at h he]
  show nod x.H t.H = sth f (x.I * 2 ^ x.L) (2 ^ (x.L + 1))
  have hp := Nat.two_pow_pos x.L
  have e : 2 ^ (x.L + 1) = 2 * 2 ^ x.L := by rw [Nat.pow_succ, Nat.mul_comm]
  rw [e, sth_cut f _ _ x.L (by omega) (by omega), hx, ht, hadj, ← hl, show 2 * 2 ^ x.L - 2 ^ x.L = 2 ^ x.L by omega]
theorem psh_gd (f : Nat → List UInt8) : ∀ (n : Nat) (T : List Tre) (t : Tre) (B a : Nat), T.length = n → (∀ x ∈ T, x.ok) → t.ok → Row B a (ats T) → t.I * 2 ^ t.L = a → Gd f T → t.H = sth f (t.I * 2 ^ t.L) (2 ^ t.L) → Gd f (psh T t)
  | 0, T, t, B, a, hn, hT, ht, hr, ha, hg, htg => by
    obtain rfl : T = [] := List.length_eq_zero_iff.1 hn
    rw [psh_nil]
    intro x hx
    rw [List.mem_singleton.1 hx]; exact htg
  | n + 1, T, t, B, a, hn, hT, ht, hr, ha, hg, htg => by
    rcases List.eq_nil_or_concat T with rfl | ⟨r, x, rfl⟩
    · simp at hn
    · rw [List.concat_eq_append] at hn hT hr hg ⊢
      rw [ats_app] at hr
      have hx : x.ok := hT x (by simp)
      obtain ⟨b, h1, h2, h3⟩ := row_unsnoc (ats r) B a (x.L, x.I) hr
      have hadj : t.I * 2 ^ t.L = x.I * 2 ^ x.L + 2 ^ x.L := by rw [ha, h3, ← h2]
      have hsi := sib_iff hx ht hadj
      by_cases hs : Sib x t
      · rw [psh_yes hs]
        have he := hsi.1 hs
        have hb := both_at hs he.2
        have hlen : r.length = n := by simp at hn; exact hn
        exact psh_gd f n r (both x t) B b hlen (fun y hy => hT y (by simp [hy])) (both_ok hx hs) h1 (by rw [hb]; exact h2) (fun y hy => hg y (by simp [hy])) (both_gd hs he.2 he.1 hadj (hg x (by simp)) htg)
      · rw [psh_no hs]
        intro y hy
        rcases List.mem_append.1 hy with hy | hy
        · exact hg y hy
        · rw [List.mem_singleton.1 hy]; exact htg
theorem apt_gd (f : Nat → List UInt8) (n : Nat) : ∀ (k : Nat) (L : List (List UInt8)), L.length = k → (∀ x ∈ L, x.length = 32) → n + L.length ≤ 9223372036854775808 → (∀ i x, L[i]? = some x → f (n + i) = x) → Gd f (apt n L)
  | 0, L, hk, _, _, _ => by
    obtain rfl := List.length_eq_zero_iff.1 hk
    intro t ht
    simp [apt] at ht
  | k + 1, L, hk, h32, hn, hf => by
    rcases List.eq_nil_or_concat L with rfl | ⟨r, x, rfl⟩
    · simp at hk
    · rw [List.concat_eq_append] at h32 hn hk hf ⊢
      simp only [List.length_append, List.length_cons, List.length_nil, Nat.zero_add] at hk hn
      have h32r : ∀ y ∈ r, y.length = 32 := fun y hy => h32 y (by simp [hy])
      obtain ⟨i1, i2⟩ := apt_ok n k r (by omega) h32r (by omega)
      have ih := apt_gd f n k r (by omega) h32r (by omega) (fun i y hy => hf i y (by rw [List.getElem?_append_left (List.getElem?_eq_some_iff.1 hy).1]; exact hy))
      have hx : Tre.ok ⟨0, n + r.length, x⟩ := ⟨⟨by show 0 ≤ 63; omega, by show (n + r.length + 1) * 2 ^ 0 ≤ 2 ^ 63; omega⟩, h32 x (by simp)⟩
      rw [apt_snoc]
      refine psh_gd f _ _ _ n (n + r.length) rfl i1 hx i2.1 (by show (n + r.length) * 2 ^ 0 = n + r.length; simp) ih ?_
      show x = sth f ((n + r.length) * 2 ^ 0) (2 ^ 0)
      rw [Nat.pow_zero, Nat.mul_one, sth_one]
      exact (hf r.length x (by simp)).symm
theorem fold_gd (f : Nat → List UInt8) : ∀ (T : List Tre) (a c j : Nat), 2 ^ j ∣ a → c - a < 2 ^ j → ats T = cov a c → Gd f T → T ≠ [] → fldr (hss T) = sth f a (c - a)
  | [], _, _, _, _, _, _, _, h => absurd rfl h
  | t :: r, a, c, j, hd, hs, hc, hg, _ => by
    have hac : a < c := by
      rcases Nat.lt_or_ge a c with q | q
      · exact q
      · rw [cov_nil (by omega)] at hc
        simp [ats] at hc
    have hW := lev_is hac
    obtain ⟨L, hL⟩ : ∃ L, L = lev a c := ⟨_, rfl⟩
    rw [← hL] at hW
    rw [cov_step hW] at hc
    simp only [ats, List.map_cons, List.cons.injEq, Prod.mk.injEq] at hc
    obtain ⟨⟨e1, e2⟩, e3⟩ := hc
    obtain ⟨s1, s2⟩ := isW_small hd hs hW
    have hp := Nat.two_pow_pos L
    have ha : t.I * 2 ^ t.L = a := by rw [e1, e2]; exact Nat.div_mul_cancel hW.1.1
    have hle := hW.1.2
    have ht := hg t (by simp)
    rw [ha, e1] at ht
    by_cases hr : r = []
    · subst hr
      have : c - a = 2 ^ L := by
        rcases Nat.lt_or_ge (a + 2 ^ L) c with q | q
        · rw [cov_step (lev_is q)] at e3
          simp at e3
        · omega
      rw [this]
      show t.H = _
      exact ht
    · have ih := fold_gd f r (a + 2 ^ L) c L (Nat.dvd_add hW.1.1 (Nat.dvd_refl _)) s2 e3 (fun y hy => hg y (by simp [hy])) hr
      have hlt : a + 2 ^ L < c := by
        rcases Nat.lt_or_ge (a + 2 ^ L) c with q | q
        · exact q
        · rw [cov_nil (by omega)] at e3
          cases r with
          | nil => exact absurd rfl hr
          | cons y r => simp at e3
      rw [show hss (t :: r) = t.H :: hss r from rfl, fldr_cons _ _ (by cases r with | nil => exact absurd rfl hr | cons y r => simp [hss]), ih, ht, sth_cut f a (c - a) L (by omega) (by omega)]
      congr 2
      omega
theorem lvs_eq (L : List (List UInt8)) (f : Nat → List UInt8) (hf : ∀ i x, L[i]? = some x → f i = x) (b e : Nat) (he : e ≤ L.length) : (L.take e).drop b = lvs f b (e - b) := by
  apply List.ext_getElem
  · simp [lvs]; omega
  · intro i h1 h2
    have hi : b + i < L.length := by simp at h1; omega
    simp only [List.getElem_drop, List.getElem_take, lvs, List.getElem_map, List.getElem_range]
    exact (hf (b + i) _ (List.getElem?_eq_getElem hi)).symm
end Go.Proofs.YthbimomhbeoieaaDoor
