/- Runes of a text: which texts are clear of some runes, and not broken. -/
import Derived.Lib.ValidU
import Derived.Lib.TrimUEq
namespace Go.Proofs.YtebbgpnhkpbefaaGreatDoor
open Go.Lib
set_option linter.unusedVariables false
set_option linter.unusedSimpArgs false

/-- The first rune and its width; (65533, 1): none begins there. -/
def dl (l : List UInt8) : Nat × Nat := decodeN l.length (l.getD 0 0).toNat (l.getD 1 0).toNat (l.getD 2 0).toNat (l.getD 3 0).toNat
theorem dl_eq (l : List UInt8) : decodeL l = dl l := decodeL_N l
theorem dl_pos (l : List UInt8) : 1 ≤ (dl l).2 := decodeN_ge1 _ _ _ _ _
/-- Not broken, and without such runes. -/
def clrN (bad : Nat → Bool) : Nat → List UInt8 → Bool
  | 0, l => l.isEmpty
  | n + 1, l => if l.isEmpty then true else if dl l = (65533, 1) then false else if bad (dl l).1 then false else clrN bad n (l.drop (dl l).2)
def clr (bad : Nat → Bool) (l : List UInt8) : Bool := clrN bad l.length l
theorem clrN_any (bad : Nat → Bool) : ∀ (n : Nat) (l : List UInt8), l.length ≤ n → clrN bad n l = clr bad l := by
  intro n
  induction n with
  | zero => intro l h; obtain rfl := List.length_eq_zero_iff.1 (Nat.le_zero.1 h); rfl
  | succ n ih =>
    intro l h
    cases l with
    | nil => rfl
    | cons c r =>
      unfold clr
      have hp := dl_pos (c :: r)
      have e1 := ih ((c :: r).drop (dl (c :: r)).2) (by simp only [List.length_drop, List.length_cons] at *; omega)
      simp only [List.length_cons, clrN]
      rw [e1]
      by_cases hn : r.length = n
      · subst hn
        rw [e1]
      · have hlen : ((c :: r).drop (dl (c :: r)).2).length ≤ r.length := by simp only [List.length_drop, List.length_cons] at *; omega
        have e2 : clrN bad r.length ((c :: r).drop (dl (c :: r)).2) = clr bad ((c :: r).drop (dl (c :: r)).2) := by
          have gen : ∀ (m k : Nat) (t : List UInt8), t.length ≤ m → t.length ≤ k → clrN bad m t = clrN bad k t := by
            intro m
            induction m with
            | zero =>
              intro k t h1 h2
              obtain rfl := List.length_eq_zero_iff.1 (Nat.le_zero.1 h1)
              cases k <;> rfl
            | succ m ihm =>
              intro k t h1 h2
              cases k with
              | zero => obtain rfl := List.length_eq_zero_iff.1 (Nat.le_zero.1 h2); rfl
              | succ k =>
                have hp := dl_pos t
                simp only [clrN]
                by_cases ht : t.isEmpty
                · simp [ht]
                · have hl : 0 < t.length := by cases t with
                    | nil => simp at ht
                    | cons a b => simp
                  rw [ihm k (t.drop (dl t).2) (by simp only [List.length_drop]; omega) (by simp only [List.length_drop]; omega)]
          exact gen _ _ _ hlen (Nat.le_refl _)
        rw [e2]
theorem clr_nil (bad : Nat → Bool) : clr bad [] = true := rfl
theorem clr_step (bad : Nat → Bool) (l : List UInt8) (h : l ≠ []) : clr bad l = if dl l = (65533, 1) then false else if bad (dl l).1 then false else clr bad (l.drop (dl l).2) := by
  cases l with
  | nil => exact absurd rfl h
  | cons c r =>
    have hp := dl_pos (c :: r)
    rw [clr, List.length_cons, clrN]
    rw [clrN_any bad r.length _ (by simp only [List.length_drop, List.length_cons]; omega)]
    simp
theorem clr_mono (bad bad' : Nat → Bool) (hb : ∀ r, bad r = true → bad' r = true) : ∀ (n : Nat) (l : List UInt8), l.length ≤ n → clr bad' l = true → clr bad l = true := by
  intro n
  induction n with
  | zero => intro l h _; obtain rfl := List.length_eq_zero_iff.1 (Nat.le_zero.1 h); rfl
  | succ n ih =>
    intro l h hc
    by_cases hl : l = []
    · subst hl; rfl
    · have hp := dl_pos l
      have := List.length_pos_iff.2 hl
      rw [clr_step bad' l hl] at hc
      rw [clr_step bad l hl]
      by_cases h1 : dl l = (65533, 1)
      · simp [h1] at hc
      · rw [if_neg h1] at hc ⊢
        by_cases h2 : bad' (dl l).1 = true
        · simp [h2] at hc
        · rw [if_neg h2] at hc
          rw [if_neg (fun e => h2 (hb _ e))]
          exact ih _ (by simp only [List.length_drop]; omega) hc
/-- A rune that stands in a text stands there whatever follows the text. -/
theorem decodeN_app (n m b0 b1 b2 b3 c1 c2 c3 : Nat) (hn : n ≤ m) (h1 : 1 < n → c1 = b1) (h2 : 2 < n → c2 = b2) (h3 : 3 < n → c3 = b3) (hv : decodeN n b0 b1 b2 b3 ≠ (65533, 1)) : decodeN m b0 c1 c2 c3 = decodeN n b0 b1 b2 b3 := by
  unfold decodeN at hv ⊢
  by_cases g0 : b0 < 128
  · simp [g0]
  · rw [if_neg g0] at hv ⊢
    by_cases g1 : b0 / 32 = 6 ∧ (1 < n ∧ b1 / 64 = 2)
    · rw [if_pos g1] at hv ⊢
      obtain rfl := h1 g1.2.1
      rw [if_pos (by omega), if_neg g0]
    · rw [if_neg g1] at hv ⊢
      by_cases g2 : b0 / 16 = 14 ∧ (1 < n ∧ b1 / 64 = 2) ∧ (2 < n ∧ b2 / 64 = 2)
      · rw [if_pos g2] at hv ⊢
        obtain rfl := h1 g2.2.1.1
        obtain rfl := h2 g2.2.2.1
        rw [if_neg g0, if_neg (by omega), if_pos (by omega)]
      · rw [if_neg g2] at hv ⊢
        by_cases g3 : b0 / 8 = 30 ∧ (1 < n ∧ b1 / 64 = 2) ∧ (2 < n ∧ b2 / 64 = 2) ∧ (3 < n ∧ b3 / 64 = 2)
        · rw [if_pos g3] at hv ⊢
          obtain rfl := h1 g3.2.1.1
          obtain rfl := h2 g3.2.2.1.1
          obtain rfl := h3 g3.2.2.2.1
          rw [if_neg g0, if_neg (by omega), if_neg (by omega), if_pos (by omega)]
        · rw [if_neg g3] at hv
          exact absurd rfl hv
theorem dl_app (a b : List UInt8) (ha : a ≠ []) (hv : dl a ≠ (65533, 1)) : dl (a ++ b) = dl a := by
  have hp := List.length_pos_iff.2 ha
  unfold dl at hv ⊢
  have e0 : (a ++ b).getD 0 0 = a.getD 0 0 := by
    cases a with
    | nil => exact absurd rfl ha
    | cons x y => rfl
  rw [e0]
  have gk : ∀ k, k < a.length → ((a ++ b).getD k 0).toNat = (a.getD k 0).toNat := fun k hk => by
    simp only [List.getD_eq_getElem?_getD, List.getElem?_append_left hk]
  exact decodeN_app _ _ _ _ _ _ _ _ _ (by simp) (gk 1) (gk 2) (gk 3) hv
theorem dl_len (l : List UInt8) (h : l ≠ []) : (dl l).2 ≤ l.length := by
  have := List.length_pos_iff.2 h
  unfold dl decodeN
  repeat' split
  all_goals (simp only; omega)
theorem clr_app (bad : Nat → Bool) : ∀ (n : Nat) (a b : List UInt8), a.length ≤ n → clr bad a = true → clr bad (a ++ b) = clr bad b := by
  intro n
  induction n with
  | zero => intro a b h _; obtain rfl := List.length_eq_zero_iff.1 (Nat.le_zero.1 h); rfl
  | succ n ih =>
    intro a b h hc
    by_cases ha : a = []
    · subst ha; rfl
    · have hp := dl_pos a
      have hl := dl_len a ha
      have := List.length_pos_iff.2 ha
      rw [clr_step bad a ha] at hc
      by_cases h1 : dl a = (65533, 1)
      · simp [h1] at hc
      · rw [if_neg h1] at hc
        by_cases h2 : bad (dl a).1 = true
        · simp [h2] at hc
        · rw [if_neg h2] at hc
          rw [clr_step bad (a ++ b) (by simp [ha]), dl_app a b ha h1, if_neg h1, if_neg h2, List.drop_append_of_le_length hl]
          exact ih _ b (by simp only [List.length_drop]; omega) hc
/-- A byte that goes on no rune, and at which no rune begins that may stand, spoils every text. -/
theorem decodeN_stop (n b0 b1 b2 b3 : Nat) (k : Nat) (hk : (k = 1 ∧ b1 / 64 ≠ 2) ∨ (k = 2 ∧ b2 / 64 ≠ 2) ∨ (k = 3 ∧ b3 / 64 ≠ 2) ∨ 4 ≤ k) (hv : decodeN n b0 b1 b2 b3 ≠ (65533, 1)) : (decodeN n b0 b1 b2 b3).2 ≤ k ∨ k = 0 := by
  unfold decodeN at hv ⊢
  repeat' split
  all_goals (first | (simp only; omega) | (exfalso; simp_all))
theorem clr_spoil (bad : Nat → Bool) (c : UInt8) (hc : c.toNat / 64 ≠ 2) (hb : ∀ r, dl (c :: r) = (65533, 1) ∨ bad (dl (c :: r)).1 = true) : ∀ (n : Nat) (a b : List UInt8), a.length ≤ n → clr bad (a ++ c :: b) = false := by
  intro n
  induction n with
  | zero =>
    intro a b h
    obtain rfl := List.length_eq_zero_iff.1 (Nat.le_zero.1 h)
    rw [List.nil_append, clr_step bad _ (by simp)]
    rcases hb b with e | e
    · rw [if_pos e]
    · simp [e]
  | succ n ih =>
    intro a b h
    by_cases ha : a = []
    · subst ha; exact ih [] b (by simp)
    · have hne : a ++ c :: b ≠ [] := by simp
      have hp := dl_pos (a ++ c :: b)
      have := List.length_pos_iff.2 ha
      rw [clr_step bad _ hne]
      by_cases h1 : dl (a ++ c :: b) = (65533, 1)
      · rw [if_pos h1]
      · rw [if_neg h1]
        by_cases h2 : bad (dl (a ++ c :: b)).1 = true
        · rw [if_pos h2]
        · rw [if_neg h2]
          have hg : (a ++ c :: b).getD a.length 0 = c := by simp [List.getD_eq_getElem?_getD]
          have hw : (dl (a ++ c :: b)).2 ≤ a.length := by
            have hs := decodeN_stop (a ++ c :: b).length ((a ++ c :: b).getD 0 0).toNat ((a ++ c :: b).getD 1 0).toNat ((a ++ c :: b).getD 2 0).toNat ((a ++ c :: b).getD 3 0).toNat a.length ?_ h1
            · rcases hs with hs | hs
              · exact hs
              · omega
            · by_cases l4 : 4 ≤ a.length
              · exact .inr (.inr (.inr l4))
              · have h123 : a.length = 1 ∨ a.length = 2 ∨ a.length = 3 := by omega
                rcases h123 with e | e | e
                · rw [e] at hg ⊢; rw [hg]; exact .inl ⟨rfl, hc⟩
                · rw [e] at hg ⊢; rw [hg]; exact .inr (.inl ⟨rfl, hc⟩)
                · rw [e] at hg ⊢; rw [hg]; exact .inr (.inr (.inl ⟨rfl, hc⟩))
          rw [List.drop_append_of_le_length hw]
          exact ih _ b (by simp only [List.length_drop]; omega)
theorem dl_ascii (c : UInt8) (r : List UInt8) (h : c.toNat < 128) : dl (c :: r) = (c.toNat, 1) := by simp [dl, decodeN_ascii, h]
theorem dl_ff (r : List UInt8) : dl (255 :: r) = (65533, 1) := by simp [dl, decodeN]

/-- A control. -/
def ctl (r : Nat) : Bool := decide (r ≤ 31) || (decide (127 ≤ r) && decide (r ≤ 159))
/-- A blank. -/
def blk (r : Nat) : Bool := [32, 133, 160, 5760, 8192, 8193, 8194, 8195, 8196, 8197, 8198, 8199, 8200, 8201, 8202, 8232, 8233, 8239, 8287, 12288].contains r
/-- What no name has. -/
def nob (r : Nat) : Bool := ctl r || blk r || r == 43
def nameB (l : List UInt8) : Bool := decide (1 ≤ l.length) && decide (l.length ≤ 64) && clr nob l
def plainB (l : List UInt8) : Bool := decide (l.length ≤ 4096) && clr ctl l

theorem name_plain (l : List UInt8) (h : nameB l = true) : plainB l = true := by
  simp only [nameB, plainB, Bool.and_eq_true, decide_eq_true_eq] at h ⊢
  exact ⟨by omega, clr_mono ctl nob (fun r e => by simp [nob, e]) _ l (Nat.le_refl _) h.2⟩
theorem plain_long (l : List UInt8) (h : 4096 < l.length) : plainB l = false := by
  simp only [plainB]; rw [decide_eq_false (by omega)]; rfl
theorem name_blank (a b : List UInt8) : nameB (a ++ 32 :: b) = false := by
  simp only [nameB]
  rw [clr_spoil nob 32 (by decide) (fun r => .inr (by rw [dl_ascii _ _ (by decide)]; decide)) a.length a b (Nat.le_refl _)]
  simp
theorem name_plus (a b : List UInt8) : nameB (a ++ 43 :: b) = false := by
  simp only [nameB]
  rw [clr_spoil nob 43 (by decide) (fun r => .inr (by rw [dl_ascii _ _ (by decide)]; decide)) a.length a b (Nat.le_refl _)]
  simp
theorem plain_lf (a b : List UInt8) : plainB (a ++ 10 :: b) = false := by
  simp only [plainB]
  rw [clr_spoil ctl 10 (by decide) (fun r => .inr (by rw [dl_ascii _ _ (by decide)]; decide)) a.length a b (Nat.le_refl _)]
  simp
theorem plain_ff (a b : List UInt8) : plainB (a ++ 255 :: b) = false := by
  simp only [plainB]
  rw [clr_spoil ctl 255 (by decide) (fun r => .inl (dl_ff r)) a.length a b (Nat.le_refl _)]
  simp
theorem name_app (a b : List UInt8) (ha : nameB a = true) (hb : nameB b = true) (hl : a.length + b.length ≤ 64) : nameB (a ++ b) = true := by
  simp only [nameB, Bool.and_eq_true, decide_eq_true_eq] at ha hb ⊢
  refine ⟨⟨by simp; omega, by simp; omega⟩, ?_⟩
  rw [clr_app nob a.length a b (Nat.le_refl _) ha.2, hb.2]
theorem name_not (a b : List UInt8) (ha : nameB a = true) (hb : nameB b = false) (hn : b ≠ []) : nameB (a ++ b) = false := by
  have hp := List.length_pos_iff.2 hn
  by_cases hl : (a ++ b).length ≤ 64
  · simp only [List.length_append] at hl
    have hc : clr nob b = false := by
      cases h : clr nob b with
      | false => rfl
      | true =>
        simp only [nameB, h, Bool.and_true] at hb
        rw [decide_eq_true (by omega), decide_eq_true (by omega)] at hb
        cases hb
    simp only [nameB, Bool.and_eq_true, decide_eq_true_eq] at ha ⊢
    rw [clr_app nob a.length a b (Nat.le_refl _) ha.2, hc]
    simp
  · simp only [nameB]
    rw [decide_eq_false hl]
    simp
end Go.Proofs.YtebbgpnhkpbefaaGreatDoor
