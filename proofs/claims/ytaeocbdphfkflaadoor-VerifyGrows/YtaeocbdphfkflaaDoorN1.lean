/- Which stretches a path, a proof, a batch proof is of: plain lists. -/
import Derived.Test.YtaeocbdphfkflaaDoorM1
namespace Go.Proofs.YtaeocbdphfkflaaDoor
set_option linter.unusedVariables false
/-- How many leaves the left part of n leaves has. -/
def spl (n : Nat) : Nat := 2 ^ (n - 1).log2
theorem spl_lt {n : Nat} (h : 2 ≤ n) : spl n < n := by
  have := Nat.log2_self_le (n := n - 1) (by omega)
  unfold spl; omega
theorem spl_pos (n : Nat) : 0 < spl n := Nat.two_pow_pos _
theorem spl_ge {n : Nat} (h : 2 ≤ n) : n ≤ 2 * spl n := by
  have := Nat.lt_log2_self (n := n - 1)
  rw [Nat.pow_succ'] at this
  unfold spl; omega
theorem spl_of {n k : Nat} (h1 : 2 ^ k < n) (h2 : n ≤ 2 * 2 ^ k) : spl n = 2 ^ k := by
  unfold spl
  congr 1
  have hp := Nat.two_pow_pos k
  exact (Nat.log2_eq_iff (by omega)).2 ⟨by omega, by rw [Nat.pow_succ']; omega⟩
theorem spl_ex {n : Nat} (h : 2 ≤ n) : ∃ k, spl n = 2 ^ k ∧ 2 ^ k < n ∧ n ≤ 2 * 2 ^ k := ⟨_, rfl, spl_lt h, spl_ge h⟩
theorem spl_half {n c : Nat} (h : 2 ≤ n) (hc : n ≤ 2 ^ c) : ∃ d, c = d + 1 ∧ spl n ≤ 2 ^ d ∧ n - spl n ≤ 2 ^ d := by
  cases c with
  | zero => simp at hc; omega
  | succ d =>
    refine ⟨d, rfl, ?_, ?_⟩
    · have h1 : (n - 1).log2 < d + 1 := (Nat.log2_lt (by omega)).2 (by have := Nat.two_pow_pos (d + 1); omega)
      exact Nat.pow_le_pow_right (by decide) (by omega)
    · have h1 : (n - 1).log2 < d + 1 := (Nat.log2_lt (by omega)).2 (by have := Nat.two_pow_pos (d + 1); omega)
      have h2 : spl n ≤ 2 ^ d := Nat.pow_le_pow_right (by decide) (by omega)
      have := spl_ge h
      omega

/-- The stretches of a path. -/
def pth (i b e : Nat) : List (Nat × Nat) :=
  if h : 2 ≤ e - b then
    if i < b + spl (e - b) then pth i b (b + spl (e - b)) ++ [(b + spl (e - b), e)] else pth i (b + spl (e - b)) e ++ [(b, b + spl (e - b))]
  else []
termination_by e - b
decreasing_by
  · have := spl_lt h; omega
  · have := spl_pos (e - b); omega
theorem pth_one {i b e : Nat} (h : ¬ 2 ≤ e - b) : pth i b e = [] := by rw [pth, dif_neg h]
theorem pth_left {i b e : Nat} (h : 2 ≤ e - b) (hi : i < b + spl (e - b)) : pth i b e = pth i b (b + spl (e - b)) ++ [(b + spl (e - b), e)] := by rw [pth, dif_pos h, if_pos hi]
theorem pth_right {i b e : Nat} (h : 2 ≤ e - b) (hi : ¬ i < b + spl (e - b)) : pth i b e = pth i (b + spl (e - b)) e ++ [(b, b + spl (e - b))] := by rw [pth, dif_pos h, if_neg hi]
/-- The stretches of a proof. -/
def prf (o b e : Nat) (known : Bool) : List (Nat × Nat) :=
  if o = e then (if known then [] else [(b, e)]) else
  if h : 2 ≤ e - b then
    if o ≤ b + spl (e - b) then prf o b (b + spl (e - b)) known ++ [(b + spl (e - b), e)] else prf o (b + spl (e - b)) e false ++ [(b, b + spl (e - b))]
  else []
termination_by e - b
decreasing_by
  · have := spl_lt h; omega
  · have := spl_pos (e - b); omega
theorem prf_known {o b : Nat} : prf o b o true = [] := by rw [prf]; simp
theorem prf_whole {o b : Nat} : prf o b o false = [(b, o)] := by rw [prf]; simp
theorem prf_left {o b e : Nat} {known : Bool} (h : 2 ≤ e - b) (hne : o ≠ e) (hi : o ≤ b + spl (e - b)) : prf o b e known = prf o b (b + spl (e - b)) known ++ [(b + spl (e - b), e)] := by rw [prf, if_neg hne, dif_pos h, if_pos hi]
theorem prf_right {o b e : Nat} {known : Bool} (h : 2 ≤ e - b) (hne : o ≠ e) (hi : ¬ o ≤ b + spl (e - b)) : prf o b e known = prf o (b + spl (e - b)) e false ++ [(b, b + spl (e - b))] := by rw [prf, if_neg hne, dif_pos h, if_neg hi]
/-- The stretches of a batch proof. -/
def bat (x y b e : Nat) : List (Nat × Nat) :=
  if y ≤ b ∨ e ≤ x then [(b, e)] else if x ≤ b ∧ e ≤ y then [] else
  if h : 2 ≤ e - b then bat x y b (b + spl (e - b)) ++ bat x y (b + spl (e - b)) e else []
termination_by e - b
decreasing_by
  · have := spl_lt h; omega
  · have := spl_pos (e - b); omega
theorem bat_out {x y b e : Nat} (h : y ≤ b ∨ e ≤ x) : bat x y b e = [(b, e)] := by rw [bat, if_pos h]
theorem bat_in {x y b e : Nat} (h : ¬ (y ≤ b ∨ e ≤ x)) (h2 : x ≤ b ∧ e ≤ y) : bat x y b e = [] := by rw [bat, if_neg h, if_pos h2]
theorem bat_cut {x y b e : Nat} (h : ¬ (y ≤ b ∨ e ≤ x)) (h2 : ¬ (x ≤ b ∧ e ≤ y)) : bat x y b e = bat x y b (b + spl (e - b)) ++ bat x y (b + spl (e - b)) e := by
  rw [bat, if_neg h, if_neg h2, dif_pos (by omega)]

/-- Stretches one behind the other. -/
def Chn : Nat → Nat → List (Nat × Nat) → Prop
  | a, c, [] => a = c
  | a, c, t :: r => t.1 = a ∧ a < t.2 ∧ Chn t.2 c r
theorem Chn.app : ∀ {l m : List (Nat × Nat)} {a b c : Nat}, Chn a b l → Chn b c m → Chn a c (l ++ m)
  | [], m, a, b, c, h, k => by have : a = b := h; subst this; exact k
  | t :: r, m, a, b, c, h, k => ⟨h.1, h.2.1, Chn.app (l := r) h.2.2 k⟩
theorem Chn.one {a b : Nat} (h : a < b) : Chn a b [(a, b)] := ⟨rfl, h, rfl⟩
theorem Chn.le : ∀ {l : List (Nat × Nat)} {a c : Nat}, Chn a c l → a ≤ c
  | [], a, c, h => Nat.le_of_eq h
  | t :: r, a, c, h => by have := Chn.le (l := r) h.2.2; have := h.2.1; omega
theorem Chn.mem : ∀ {l : List (Nat × Nat)} {a c : Nat}, Chn a c l → ∀ t ∈ l, a ≤ t.1 ∧ t.1 < t.2 ∧ t.2 ≤ c
  | [], a, c, h, t, ht => by cases ht
  | u :: r, a, c, h, t, ht => by
    rcases List.mem_cons.1 ht with rfl | ht
    · have := Chn.le h.2.2
      have := h.1
      have := h.2.1
      omega
    · have := Chn.mem h.2.2 t ht
      have := h.2.1
      omega
/-- Put in order, they lie one behind the other. -/
def Tls (a c : Nat) (l : List (Nat × Nat)) : Prop := ∃ r, List.Perm l r ∧ Chn a c r

theorem pth_tls : ∀ (n i b e : Nat), e - b ≤ n → b ≤ i → i < e → Tls b e ((i, i + 1) :: pth i b e)
  | n, i, b, e, hn, hb, he => by
    by_cases h : 2 ≤ e - b
    · have h1 := spl_lt h
      have h2 := spl_pos (e - b)
      cases n with
      | zero => omega
      | succ n =>
        by_cases hi : i < b + spl (e - b)
        · rw [pth_left h hi]
          obtain ⟨r, hp, hc⟩ := pth_tls n i b (b + spl (e - b)) (by omega) hb hi
          exact ⟨r ++ [(b + spl (e - b), e)], hp.append_right _, hc.app (Chn.one (by omega))⟩
        · rw [pth_right h hi]
          obtain ⟨r, hp, hc⟩ := pth_tls n i (b + spl (e - b)) e (by omega) (by omega) he
          refine ⟨(b, b + spl (e - b)) :: r, ?_, rfl, by omega, hc⟩
          have : List.Perm ((i, i + 1) :: (pth i (b + spl (e - b)) e ++ [(b, b + spl (e - b))])) ((b, b + spl (e - b)) :: ((i, i + 1) :: pth i (b + spl (e - b)) e)) := by
            rw [← List.cons_append]
            exact List.perm_append_comm
          exact this.trans (hp.cons _)
    · rw [pth_one h]
      have : i = b := by omega
      have : e = i + 1 := by omega
      subst this
      exact ⟨_, .refl _, by show Chn b (i + 1) [(i, i + 1)]; exact ⟨by omega, by omega, rfl⟩⟩
theorem pth_bat : ∀ (n i b e : Nat), e - b ≤ n → b ≤ i → i < e → List.Perm (pth i b e) (bat i (i + 1) b e)
  | n, i, b, e, hn, hb, he => by
    by_cases h : 2 ≤ e - b
    · have h1 := spl_lt h
      have h2 := spl_pos (e - b)
      rw [bat_cut (by omega) (by omega)]
      cases n with
      | zero => omega
      | succ n =>
        by_cases hi : i < b + spl (e - b)
        · rw [pth_left h hi, bat_out (b := b + spl (e - b)) (by omega)]
          exact (pth_bat n i b (b + spl (e - b)) (by omega) hb hi).append_right _
        · rw [pth_right h hi, bat_out (b := b) (by omega)]
          exact List.perm_append_comm.trans ((pth_bat n i (b + spl (e - b)) e (by omega) (by omega) he).append_left _)
    · rw [pth_one h, bat_in (by omega) (by omega)]
theorem pth_len : ∀ (c i b e : Nat), e - b ≤ 2 ^ c → (pth i b e).length ≤ c
  | c, i, b, e, hc => by
    by_cases h : 2 ≤ e - b
    · obtain ⟨d, rfl, h1, h2⟩ := spl_half h hc
      by_cases hi : i < b + spl (e - b)
      · rw [pth_left h hi, List.length_append]
        have := pth_len d i b (b + spl (e - b)) (by omega)
        simp; omega
      · rw [pth_right h hi, List.length_append]
        have := pth_len d i (b + spl (e - b)) e (by omega)
        simp; omega
    · rw [pth_one h]; simp
/-- Of what is not cut, or cut at one end. -/
theorem bat_len1 : ∀ (c x y b e : Nat), e - b ≤ 2 ^ c → (x ≤ b ∨ e ≤ y) → (bat x y b e).length ≤ c + 1
  | c, x, y, b, e, hc, hs => by
    by_cases h : y ≤ b ∨ e ≤ x
    · rw [bat_out h]; simp
    · by_cases h2 : x ≤ b ∧ e ≤ y
      · rw [bat_in h h2]; simp
      · rw [bat_cut h h2]
        have h3 : 2 ≤ e - b := by omega
        obtain ⟨d, rfl, h4, h5⟩ := spl_half h3 hc
        have h6 := spl_lt h3
        have h7 := spl_pos (e - b)
        rw [List.length_append]
        rcases hs with hs | hs
        · by_cases hy : y ≤ b + spl (e - b)
          · have := bat_len1 d x y b (b + spl (e - b)) (by omega) (by omega)
            rw [bat_out (b := b + spl (e - b)) (by omega)]
            simp; omega
          · have := bat_len1 d x y (b + spl (e - b)) e (by omega) (by omega)
            rw [bat_in (b := b) (by omega) (by omega)]
            simp; omega
        · by_cases hy : b + spl (e - b) ≤ x
          · have := bat_len1 d x y (b + spl (e - b)) e (by omega) (by omega)
            rw [bat_out (b := b) (by omega)]
            simp; omega
          · have := bat_len1 d x y b (b + spl (e - b)) (by omega) (by omega)
            rw [bat_in (b := b + spl (e - b)) (by omega) (by omega)]
            simp; omega
theorem bat_len : ∀ (c x y b e : Nat), e - b ≤ 2 ^ c → (bat x y b e).length ≤ 2 * c + 1
  | c, x, y, b, e, hc => by
    by_cases h : y ≤ b ∨ e ≤ x
    · rw [bat_out h]; simp
    · by_cases h2 : x ≤ b ∧ e ≤ y
      · rw [bat_in h h2]; simp
      · rw [bat_cut h h2]
        have h3 : 2 ≤ e - b := by omega
        obtain ⟨d, rfl, h4, h5⟩ := spl_half h3 hc
        have h6 := spl_lt h3
        have h7 := spl_pos (e - b)
        rw [List.length_append]
        by_cases hy : y ≤ b + spl (e - b)
        · have := bat_len d x y b (b + spl (e - b)) (by omega)
          rw [bat_out (b := b + spl (e - b)) (by omega)]
          simp; omega
        · by_cases hx : b + spl (e - b) ≤ x
          · have := bat_len d x y (b + spl (e - b)) e (by omega)
            rw [bat_out (b := b) (by omega)]
            simp; omega
          · have := bat_len1 d x y b (b + spl (e - b)) (by omega) (by omega)
            have := bat_len1 d x y (b + spl (e - b)) e (by omega) (by omega)
            omega
/-- What lies ahead of the stretch, and behind it. -/
theorem bat_two : ∀ (n x y b e : Nat), e - b ≤ n → b < e → x < y → x < e → b < y → ∃ A B, bat x y b e = A ++ B ∧ Chn b (max b x) A ∧ Chn (min e y) e B
  | n, x, y, b, e, hn, hbe, hxy, hx, hy => by
    by_cases h2 : x ≤ b ∧ e ≤ y
    · rw [bat_in (by omega) h2]
      exact ⟨[], [], rfl, by show b = max b x; omega, by show min e y = e; omega⟩
    · rw [bat_cut (by omega) h2]
      have h3 : 2 ≤ e - b := by omega
      have h6 := spl_lt h3
      have h7 := spl_pos (e - b)
      cases n with
      | zero => omega
      | succ n =>
        by_cases hy2 : y ≤ b + spl (e - b)
        · obtain ⟨A, B, e1, c1, c2⟩ := bat_two n x y b (b + spl (e - b)) (by omega) (by omega) hxy (by omega) hy
          rw [bat_out (b := b + spl (e - b)) (by omega), e1]
          refine ⟨A, B ++ [(b + spl (e - b), e)], by rw [List.append_assoc], c1, ?_⟩
          have : min e y = min (b + spl (e - b)) y := by omega
          rw [this]
          exact c2.app (Chn.one (by omega))
        · by_cases hx2 : b + spl (e - b) ≤ x
          · obtain ⟨A, B, e1, c1, c2⟩ := bat_two n x y (b + spl (e - b)) e (by omega) (by omega) hxy hx (by omega)
            rw [bat_out (b := b) (by omega), e1]
            refine ⟨(b, b + spl (e - b)) :: A, B, rfl, ⟨rfl, by omega, ?_⟩, c2⟩
            have : max b x = max (b + spl (e - b)) x := by omega
            rw [this]
            exact c1
          · obtain ⟨A, B, e1, c1, c2⟩ := bat_two n x y b (b + spl (e - b)) (by omega) (by omega) hxy (by omega) hy
            obtain ⟨C, D, e2, c3, c4⟩ := bat_two n x y (b + spl (e - b)) e (by omega) (by omega) hxy hx (by omega)
            have hB : B = [] := by
              cases B with
              | nil => rfl
              | cons t r =>
                have := Chn.mem c2 t (by simp)
                omega
            have hC : C = [] := by
              cases C with
              | nil => rfl
              | cons t r =>
                have := Chn.mem c3 t (by simp)
                omega
            subst hB
            subst hC
            exact ⟨A, D, by rw [e1, e2]; simp, c1, c4⟩
theorem bat_tls {x y n : Nat} (hxy : x < y) (hy : y ≤ n) : Tls 0 n ((x, y) :: bat x y 0 n) := by
  obtain ⟨A, B, e, c1, c2⟩ := bat_two n x y 0 n (by omega) (by omega) hxy (by omega) (by omega)
  have e1 : max 0 x = x := by omega
  have e2 : min n y = y := by omega
  rw [e1] at c1
  rw [e2] at c2
  refine ⟨A ++ (x, y) :: B, ?_, c1.app ⟨rfl, hxy, c2⟩⟩
  rw [e]
  exact List.perm_middle.symm
/-- They rise. -/
def Rsg : List (Nat × Nat) → Prop
  | t :: u :: r => t.2 ≤ u.1 ∧ Rsg (u :: r)
  | _ => True
theorem Rsg.at : ∀ {l : List (Nat × Nat)} {k : Nat} {t u : Nat × Nat}, Rsg l → l[k]? = some t → l[k + 1]? = some u → t.2 ≤ u.1
  | [], k, t, u, _, h, _ => by simp at h
  | [a], k, t, u, _, _, h => by simp at h
  | a :: b :: r, 0, t, u, h, h1, h2 => by simp at h1 h2; subst h1; subst h2; exact h.1
  | a :: b :: r, k + 1, t, u, h, h1, h2 => Rsg.at (l := b :: r) (k := k) h.2 (by simpa using h1) (by simpa using h2)
theorem Chn.rsg : ∀ {l m : List (Nat × Nat)} {a c d e : Nat}, Chn a c l → c ≤ d → Chn d e m → Rsg m → Rsg (l ++ m)
  | [], m, a, c, d, e, _, _, _, hm => hm
  | [t], [], a, c, d, e, h, hcd, k, hm => trivial
  | [t], u :: m, a, c, d, e, h, hcd, k, hm => by
    have h1 : t.2 = c := h.2.2
    have h2 : u.1 = d := k.1
    exact ⟨by omega, hm⟩
  | t :: u :: r, m, a, c, d, e, h, hcd, k, hm => by
    have h1 : u.1 = t.2 := h.2.2.1
    exact ⟨by omega, Chn.rsg (l := u :: r) h.2.2 hcd k hm⟩
theorem bat_rsg {x y n : Nat} (hxy : x < y) (hy : y ≤ n) : Rsg (bat x y 0 n) := by
  obtain ⟨A, B, e, c1, c2⟩ := bat_two n x y 0 n (by omega) (by omega) hxy (by omega) (by omega)
  rw [e]
  have hB : Rsg B := by
    have := Chn.rsg (m := []) c2 (Nat.le_refl _) (d := n) (e := n) rfl trivial
    simpa using this
  exact c1.rsg (by omega) c2 hB
theorem bat_all (n : Nat) (h : 0 < n) : bat 0 n 0 n = [] := bat_in (by omega) (by omega)

/- ### a proof's two sides -/
theorem prf_len : ∀ (c o b e : Nat) (known : Bool), e - b ≤ 2 ^ c → b < o → o ≤ e → (prf o b e known).length ≤ c + 1
  | c, o, b, e, known, hc, hb, ho => by
    by_cases h : o = e
    · subst h
      cases known
      · rw [prf_whole]; simp
      · rw [prf_known]; simp
    · have h3 : 2 ≤ e - b := by omega
      obtain ⟨d, rfl, h4, h5⟩ := spl_half h3 hc
      have h6 := spl_lt h3
      have h7 := spl_pos (e - b)
      by_cases hi : o ≤ b + spl (e - b)
      · rw [prf_left h3 h hi, List.length_append]
        have := prf_len d o b (b + spl (e - b)) known (by omega) hb hi
        simp; omega
      · rw [prf_right h3 h hi, List.length_append]
        have := prf_len d o (b + spl (e - b)) e false (by omega) (by omega) ho
        simp; omega
theorem prf_two : ∀ (n o b e : Nat) (known : Bool), e - b ≤ n → b < o → o ≤ e →
    Tls o e ((prf o b e known).filter (fun t => decide (o ≤ t.1))) ∧ (Tls b o ((prf o b e known).filter (fun t => !decide (o ≤ t.1))) ∨ (known = true ∧ (prf o b e known).filter (fun t => !decide (o ≤ t.1)) = [])) ∧ ∀ t ∈ prf o b e known, t.1 < t.2 ∧ ¬ (t.1 < o ∧ o < t.2)
  | n, o, b, e, known, hn, hb, ho => by
    by_cases h : o = e
    · subst h
      cases known
      · rw [prf_whole]
        refine ⟨?_, .inl ?_, ?_⟩
        · have : ([(b, o)].filter (fun t => decide (o ≤ t.1))) = [] := by simp; omega
          rw [this]; exact ⟨[], .refl _, rfl⟩
        · have : ([(b, o)].filter (fun t => !decide (o ≤ t.1))) = [(b, o)] := by simp; omega
          rw [this]; exact ⟨[(b, o)], .refl _, rfl, hb, rfl⟩
        · intro t ht; simp at ht; subst ht; simp; omega
      · rw [prf_known]
        exact ⟨⟨[], .refl _, rfl⟩, .inr ⟨rfl, rfl⟩, fun t ht => by cases ht⟩
    · have h3 : 2 ≤ e - b := by omega
      have h6 := spl_lt h3
      have h7 := spl_pos (e - b)
      cases n with
      | zero => omega
      | succ n =>
        by_cases hi : o ≤ b + spl (e - b)
        · rw [prf_left h3 h hi]
          obtain ⟨⟨r, hp, hc⟩, h2, hm⟩ := prf_two n o b (b + spl (e - b)) known (by omega) hb hi
          have f1 : ([(b + spl (e - b), e)].filter (fun t => decide (o ≤ t.1))) = [(b + spl (e - b), e)] := by simp; omega
          have f2 : ([(b + spl (e - b), e)].filter (fun t => !decide (o ≤ t.1))) = [] := by simp; omega
          rw [List.filter_append, List.filter_append, f1, f2, List.append_nil]
          refine ⟨⟨r ++ [(b + spl (e - b), e)], hp.append_right _, hc.app (Chn.one (by omega))⟩, h2, ?_⟩
          intro t ht
          rcases List.mem_append.1 ht with ht | ht
          · exact hm t ht
          · simp at ht; subst ht; simp; omega
        · rw [prf_right h3 h hi]
          obtain ⟨h1, h2, hm⟩ := prf_two n o (b + spl (e - b)) e false (by omega) (by omega) ho
          have f1 : ([(b, b + spl (e - b))].filter (fun t => decide (o ≤ t.1))) = [] := by simp; omega
          have f2 : ([(b, b + spl (e - b))].filter (fun t => !decide (o ≤ t.1))) = [(b, b + spl (e - b))] := by simp; omega
          rw [List.filter_append, List.filter_append, f1, f2, List.append_nil]
          rcases h2 with ⟨r, hp, hc⟩ | ⟨h2, _⟩
          · refine ⟨h1, .inl ⟨(b, b + spl (e - b)) :: r, List.perm_append_comm.trans (hp.cons _), rfl, by omega, hc⟩, ?_⟩
            intro t ht
            rcases List.mem_append.1 ht with ht | ht
            · exact hm t ht
            · simp at ht; subst ht; simp; omega
          · cases h2
/-- The least beginning. -/
def fst (o : Nat) (l : List (Nat × Nat)) : Nat := l.foldl (fun m t => if t.1 < m then t.1 else m) o

/- ### what is still to be looked at -/
def Stk : Nat → List (Nat × Nat) → Prop
  | _, [] => True
  | a, s :: r => ∃ c, a ≤ c ∧ c ≤ 63 ∧ s.2 - s.1 ≤ 2 ^ c ∧ Stk (c + 1) r
theorem Stk.mono {a a' : Nat} {l : List (Nat × Nat)} (h : Stk a l) (ha : a' ≤ a) : Stk a' l := by
  cases l with
  | nil => trivial
  | cons s r => obtain ⟨c, h1, h2⟩ := h; exact ⟨c, by omega, h2⟩
theorem Stk.len : ∀ {l : List (Nat × Nat)} {a : Nat}, Stk a l → a ≤ 64 → l.length ≤ 64 - a
  | [], a, _, _ => by simp
  | s :: r, a, ⟨c, h1, h2, _, h4⟩, ha => by
    have := Stk.len (l := r) h4 (by omega)
    simp; omega
/-- What is still to be looked at, the first one besides. -/
def Todo (l : List (Nat × Nat)) : Prop := ∀ s r, l = s :: r → ∃ c, c ≤ 63 ∧ s.2 - s.1 ≤ 2 ^ c ∧ Stk c r
theorem Todo.len {l : List (Nat × Nat)} (h : Todo l) : l.length ≤ 65 := by
  cases l with
  | nil => simp
  | cons s r => obtain ⟨c, h1, _, h3⟩ := h s r rfl; have := h3.len (by omega); simp; omega
theorem Todo.pop {s : Nat × Nat} {r : List (Nat × Nat)} (h : Todo (s :: r)) : Todo r := by
  intro t q e
  subst e
  obtain ⟨c, _, _, c2, h1, h2, h3, h4⟩ := h s _ rfl
  exact ⟨c2, h2, h3, h4.mono (by omega)⟩
theorem Todo.cut {b e : Nat} {r : List (Nat × Nat)} (h : Todo ((b, e) :: r)) (h2 : 2 ≤ e - b) : Todo ((b, b + spl (e - b)) :: (b + spl (e - b), e) :: r) := by
  obtain ⟨c, h3, h4, h5⟩ := h _ r rfl
  obtain ⟨d, rfl, h6, h7⟩ := spl_half h2 h4
  intro t q e1
  injection e1 with e1 e2
  subst e1
  subst e2
  exact ⟨d, by omega, by simp only; omega, d, Nat.le_refl _, by omega, by simp only; omega, h5⟩
theorem Todo.one {n : Nat} (h : n ≤ 9223372036854775808) : Todo [(0, n)] := by
  intro s r e
  injection e with e1 e2
  subst e1
  subst e2
  exact ⟨63, Nat.le_refl _, by simpa using h, trivial⟩
/-- How much there is to be done. -/
def wgt : List (Nat × Nat) → Nat
  | [] => 0
  | s :: r => (2 * (s.2 - s.1) - 1) + wgt r
def bats (x y : Nat) (l : List (Nat × Nat)) : List (Nat × Nat) := l.flatMap (fun s => bat x y s.1 s.2)
theorem bats_cons (x y : Nat) (s : Nat × Nat) (r : List (Nat × Nat)) : bats x y (s :: r) = bat x y s.1 s.2 ++ bats x y r := by simp [bats]
theorem bats_nil (x y : Nat) : bats x y [] = [] := rfl
end Go.Proofs.YtaeocbdphfkflaaDoor
