/- verify: on which side the hashes of a path and of a proof stand, from above and from below (pure). -/
import Derived.Test.YtaeocbdphfkflaaDoorYhx
import Derived.Test.YtaeocbdphfkflaaDoorN1
import Derived.Test.YtaeocbdphfkflaaDoorCg
namespace Go.Proofs.YtaeocbdphfkflaaDoor
open Go.RowKit
set_option linter.unusedVariables false
set_option linter.unusedSimpArgs false
/-- On which side, from above: true, where the hash stands on the left; told from below. -/
def sds (i n : Nat) : List Bool :=
  if h : 2 ≤ n then (if i < spl n then sds i (spl n) ++ [false] else sds (i - spl n) (n - spl n) ++ [true]) else []
termination_by n
decreasing_by
  · exact spl_lt h
  · have := spl_pos n
    omega
theorem sds_one (i n : Nat) (h : n ≤ 1) : sds i n = [] := by rw [sds, dif_neg (by omega)]
theorem sds_left {i n : Nat} (h : 2 ≤ n) (hi : i < spl n) : sds i n = sds i (spl n) ++ [false] := by rw [sds, dif_pos h, if_pos hi]
theorem sds_right {i n : Nat} (h : 2 ≤ n) (hi : ¬ i < spl n) : sds i n = sds (i - spl n) (n - spl n) ++ [true] := by rw [sds, dif_pos h, if_neg hi]
/-- The same by two numbers. -/
def bsd (a b : Nat) : List Bool :=
  if h : b = 0 then [] else if a = b ∧ a % 2 = 0 then bsd (a / 2) (b / 2) else (decide (a % 2 = 1)) :: bsd (a / 2) (b / 2)
termination_by b
theorem bsd_zero (a : Nat) : bsd a 0 = [] := by rw [bsd, dif_pos rfl]
theorem bsd_skip {a b : Nat} (h : b ≠ 0) (hs : a = b ∧ a % 2 = 0) : bsd a b = bsd (a / 2) (b / 2) := by rw [bsd, dif_neg h, if_pos hs]
theorem bsd_step {a b : Nat} (h : b ≠ 0) (hs : ¬ (a = b ∧ a % 2 = 0)) : bsd a b = (decide (a % 2 = 1)) :: bsd (a / 2) (b / 2) := by rw [bsd, dif_neg h, if_neg hs]
theorem bsd_hi : ∀ (q a b : Nat), a ≤ b → b < 2 ^ q → bsd (2 ^ q + a) (2 ^ q + b) = bsd a b ++ [true]
  | 0, a, b, h, hb => by
    have : b = 0 := by simpa using hb
    subst this
    obtain rfl : a = 0 := by omega
    rw [bsd_zero, bsd_step (by decide) (by decide), show (2 ^ 0 + 0) / 2 = 0 from rfl, bsd_zero]
    rfl
  | q + 1, a, b, h, hb => by
    rw [Nat.pow_succ] at hb ⊢
    have e1 : (2 ^ q * 2 + a) / 2 = 2 ^ q + a / 2 := by omega
    have e2 : (2 ^ q * 2 + b) / 2 = 2 ^ q + b / 2 := by omega
    have e3 : (2 ^ q * 2 + a) % 2 = a % 2 := by omega
    have hp := Nat.two_pow_pos q
    have ih := bsd_hi q (a / 2) (b / 2) (by omega) (by omega)
    by_cases hb0 : b = 0
    · subst hb0
      obtain rfl : a = 0 := by omega
      rw [bsd_skip (by omega) ⟨rfl, by omega⟩, e1, ih]
    · by_cases hs : a = b ∧ a % 2 = 0
      · rw [bsd_skip (by omega) ⟨by omega, by omega⟩, e1, e2, ih, bsd_skip hb0 hs]
      · rw [bsd_step (by omega) (by omega), e1, e2, e3, ih, bsd_step hb0 hs, List.cons_append]
theorem bsd_lo : ∀ (q a b : Nat), a < 2 ^ q → b < 2 ^ q → bsd a (2 ^ q + b) = bsd a (2 ^ q - 1) ++ [false]
  | 0, a, b, ha, hb => by
    obtain rfl : a = 0 := by simpa using ha
    obtain rfl : b = 0 := by simpa using hb
    rw [show 2 ^ 0 - 1 = 0 from rfl, bsd_zero, bsd_step (by decide) (by decide), show (2 ^ 0 + 0) / 2 = 0 from rfl, bsd_zero]
    rfl
  | q + 1, a, b, ha, hb => by
    rw [Nat.pow_succ] at ha hb ⊢
    have hp := Nat.two_pow_pos q
    have ih := bsd_lo q (a / 2) (b / 2) (by omega) (by omega)
    have e2 : (2 ^ q * 2 + b) / 2 = 2 ^ q + b / 2 := by omega
    have e3 : (2 ^ q * 2 - 1) / 2 = 2 ^ q - 1 := by omega
    rw [@bsd_step a (2 ^ q * 2 + b) (by omega) (by omega), e2, ih, @bsd_step a (2 ^ q * 2 - 1) (by omega) (by omega), e3, List.cons_append]
theorem sds_bsd : ∀ (N n i : Nat), n ≤ N → i < n → sds i n = bsd i (n - 1)
  | 0, n, i, hN, h => by omega
  | N + 1, n, i, hN, h => by
    by_cases h2 : 2 ≤ n
    · obtain ⟨k, hk, h3, h4⟩ := spl_ex h2
      have hp := Nat.two_pow_pos k
      by_cases hi : i < spl n
      · rw [sds_left h2 hi, sds_bsd N (spl n) i (by omega) hi, hk]
        have := bsd_lo k i (n - 1 - 2 ^ k) (by omega) (by omega)
        rw [show 2 ^ k + (n - 1 - 2 ^ k) = n - 1 by omega] at this
        exact this.symm
      · rw [sds_right h2 hi, sds_bsd N (n - spl n) (i - spl n) (by omega) (by omega), hk]
        have := bsd_hi k (i - 2 ^ k) (n - 1 - 2 ^ k) (by omega) (by omega)
        rw [show 2 ^ k + (n - 1 - 2 ^ k) = n - 1 by omega, show 2 ^ k + (i - 2 ^ k) = i by omega] at this
        rw [this, show n - 2 ^ k - 1 = n - 1 - 2 ^ k by omega]
    · rw [sds_one i n (by omega), show n - 1 = 0 by omega, bsd_zero]
theorem bsd_true : ∀ (N a b : Nat), b ≤ N → a ≤ b → (true ∈ bsd a b ↔ a ≠ 0)
  | N, a, 0, hN, h => by
    rw [bsd_zero]
    simp
    omega
  | 0, a, b + 1, hN, h => by omega
  | N + 1, a, b + 1, hN, h => by
    have ih := bsd_true N (a / 2) ((b + 1) / 2) (by omega) (by omega)
    by_cases hs : a = b + 1 ∧ a % 2 = 0
    · rw [bsd_skip (by omega) hs, ih]
      omega
    · rw [bsd_step (by omega) hs, List.mem_cons, ih]
      by_cases h1 : a % 2 = 1
      · simp [h1]
        omega
      · simp [h1]
        omega
theorem sds_len : ∀ (c n i : Nat), n ≤ 2 ^ c → (sds i n).length ≤ c
  | c, n, i, hn => by
    by_cases h2 : 2 ≤ n
    · obtain ⟨d, rfl, h3, h4⟩ := spl_half h2 hn
      by_cases hi : i < spl n
      · rw [sds_left h2 hi]
        have := sds_len d (spl n) i h3
        simp
        omega
      · rw [sds_right h2 hi]
        have := sds_len d (n - spl n) (i - spl n) h4
        simp
        omega
    · rw [sds_one i n (by omega)]
      simp
/-- On which side the hashes of a proof stand. -/
def gds (o n : Nat) : List Bool :=
  if h : o < n ∧ 2 ≤ n then (if o ≤ spl n then gds o (spl n) ++ [false] else gds (o - spl n) (n - spl n) ++ [true]) else []
termination_by n
decreasing_by
  · exact spl_lt h.2
  · have := spl_pos n
    omega
theorem gds_same (n : Nat) : gds n n = [] := by rw [gds, dif_neg (by omega)]
theorem gds_left {o n : Nat} (h : o < n) (h2 : 2 ≤ n) (hi : o ≤ spl n) : gds o n = gds o (spl n) ++ [false] := by rw [gds, dif_pos ⟨h, h2⟩, if_pos hi]
theorem gds_right {o n : Nat} (h : o < n) (h2 : 2 ≤ n) (hi : ¬ o ≤ spl n) : gds o n = gds (o - spl n) (n - spl n) ++ [true] := by rw [gds, dif_pos ⟨h, h2⟩, if_neg hi]
/-- The greatest tree that ends where the old leaves end. -/
def sms (m l : Nat) : Nat × Nat := if h : m % 2 = 1 then sms (m / 2) (l / 2) else (m, l)
termination_by m
theorem sms_even {m l : Nat} (h : m % 2 = 0) : sms m l = (m, l) := by rw [sms, dif_neg (by omega)]
theorem sms_odd {m l : Nat} (h : m % 2 = 1) : sms m l = sms (m / 2) (l / 2) := by rw [sms, dif_pos h]
def gbd (m l : Nat) : List Bool := bsd (sms m l).1 (sms m l).2
theorem gbd_lo : ∀ (q a b : Nat), a < 2 ^ q → b < 2 ^ q → gbd a (2 ^ q + b) = gbd a (2 ^ q - 1) ++ [false]
  | 0, a, b, ha, hb => by
    obtain rfl : a = 0 := by simpa using ha
    unfold gbd
    rw [sms_even rfl, sms_even rfl]
    exact bsd_lo 0 0 b (by decide) hb
  | q + 1, a, b, ha, hb => by
    by_cases h : a % 2 = 1
    · have hp := Nat.two_pow_pos q
      unfold gbd
      rw [sms_odd h, sms_odd h]
      rw [Nat.pow_succ] at ha hb ⊢
      have ih := gbd_lo q (a / 2) (b / 2) (by omega) (by omega)
      have e2 : (2 ^ q * 2 + b) / 2 = 2 ^ q + b / 2 := by omega
      have e3 : (2 ^ q * 2 - 1) / 2 = 2 ^ q - 1 := by omega
      rw [e2, e3]
      exact ih
    · unfold gbd
      rw [sms_even (by omega), sms_even (by omega)]
      exact bsd_lo (q + 1) a b ha hb
theorem gbd_hi : ∀ (q a b : Nat), a < b → b < 2 ^ q → gbd (2 ^ q + a) (2 ^ q + b) = gbd a b ++ [true]
  | 0, a, b, h, hb => by simp at hb; omega
  | q + 1, a, b, h, hb => by
    have e3 : (2 ^ (q + 1) + a) % 2 = a % 2 := by rw [Nat.pow_succ]; omega
    by_cases h1 : a % 2 = 1
    · unfold gbd
      rw [sms_odd (by omega), sms_odd h1]
      rw [Nat.pow_succ] at hb ⊢
      have ih := gbd_hi q (a / 2) (b / 2) (by omega) (by omega)
      have e1 : (2 ^ q * 2 + a) / 2 = 2 ^ q + a / 2 := by omega
      have e2 : (2 ^ q * 2 + b) / 2 = 2 ^ q + b / 2 := by omega
      rw [e1, e2]
      exact ih
    · unfold gbd
      rw [sms_even (by omega), sms_even (by omega)]
      exact bsd_hi (q + 1) a b (by omega) hb
theorem gbd_full : ∀ q : Nat, gbd (2 ^ q - 1) (2 ^ q - 1) = []
  | 0 => by
    unfold gbd
    rw [show 2 ^ 0 - 1 = 0 from rfl, sms_even rfl]
    exact bsd_zero 0
  | q + 1 => by
    have ih := gbd_full q
    have hp := Nat.two_pow_pos q
    unfold gbd at ih ⊢
    rw [sms_odd (by rw [Nat.pow_succ]; omega)]
    have e3 : (2 ^ (q + 1) - 1) / 2 = 2 ^ q - 1 := by rw [Nat.pow_succ]; omega
    rw [e3]
    exact ih
theorem gds_gbd : ∀ (N n o : Nat), n ≤ N → 1 ≤ o → (o < n ∨ (o = n ∧ ∃ q, n = 2 ^ q)) → gds o n = gbd (o - 1) (n - 1)
  | 0, n, o, hN, h1, h => by omega
  | N + 1, n, o, hN, h1, h => by
    rcases h with h | ⟨rfl, q, rfl⟩
    · have h2 : 2 ≤ n := by omega
      obtain ⟨k, hk, h3, h4⟩ := spl_ex h2
      have hp := Nat.two_pow_pos k
      by_cases hi : o ≤ spl n
      · rw [gds_left h h2 hi, gds_gbd N (spl n) o (by omega) h1 (by rcases Nat.lt_or_ge o (spl n) with hl | hl; exact .inl hl; exact .inr ⟨by omega, k, hk⟩), hk]
        have := gbd_lo k (o - 1) (n - 1 - 2 ^ k) (by omega) (by omega)
        rw [show 2 ^ k + (n - 1 - 2 ^ k) = n - 1 by omega] at this
        exact this.symm
      · rw [gds_right h h2 hi, gds_gbd N (n - spl n) (o - spl n) (by omega) (by omega) (.inl (by omega)), hk]
        have := gbd_hi k (o - 1 - 2 ^ k) (n - 1 - 2 ^ k) (by omega) (by omega)
        rw [show 2 ^ k + (n - 1 - 2 ^ k) = n - 1 by omega, show 2 ^ k + (o - 1 - 2 ^ k) = o - 1 by omega] at this
        rw [this, show n - 2 ^ k - 1 = n - 1 - 2 ^ k by omega, show o - 2 ^ k - 1 = o - 1 - 2 ^ k by omega]
    · rw [gds_same, gbd_full]
theorem gds_len : ∀ (c n o : Nat), n ≤ 2 ^ c → (gds o n).length ≤ c
  | c, n, o, hn => by
    by_cases h2 : o < n ∧ 2 ≤ n
    · obtain ⟨d, rfl, h3, h4⟩ := spl_half h2.2 hn
      by_cases hi : o ≤ spl n
      · rw [gds_left h2.1 h2.2 hi]
        have := gds_len d (spl n) o h3
        simp
        omega
      · rw [gds_right h2.1 h2.2 hi]
        have := gds_len d (n - spl n) (o - spl n) h4
        simp
        omega
    · rw [gds, dif_neg h2]
      simp
/-- What a path says, from below. -/
def clm : List UInt8 → List (List UInt8) → List Bool → List UInt8
  | x, h :: l, b :: s => clm (if b then ndp h x else ndp x h) l s
  | x, _, _ => x
theorem clm_snoc : ∀ (x : List UInt8) (l : List (List UInt8)) (s : List Bool) (h : List UInt8) (b : Bool), l.length = s.length → clm x (l ++ [h]) (s ++ [b]) = if b then ndp h (clm x l s) else ndp (clm x l s) h
  | x, [], [], h, b, _ => by cases b <;> rfl
  | x, [], _ :: _, h, b, e => by simp at e
  | x, _ :: _, [], h, b, e => by simp at e
  | x, y :: l, c :: s, h, b, e => by
    simp only [List.cons_append, clm]
    exact clm_snoc _ l s h b (by simpa using e)
theorem clm_len : ∀ (x : List UInt8) (l : List (List UInt8)) (s : List Bool), x.length = 32 → (clm x l s).length = 32
  | x, [], s, h => by simpa [clm] using h
  | x, _ :: _, [], h => by simpa [clm] using h
  | x, y :: l, c :: s, h => by
    rw [clm]
    exact clm_len _ l s (by cases c <;> exact ndp_len _ _)
/-- What a proof says, from below. -/
def clt : List UInt8 → List UInt8 → List (List UInt8) → List Bool → List UInt8 × List UInt8
  | x, y, h :: l, b :: s => clt (if b then ndp h x else x) (if b then ndp h y else ndp y h) l s
  | x, y, _, _ => (x, y)
theorem clt_snoc : ∀ (x y : List UInt8) (l : List (List UInt8)) (s : List Bool) (h : List UInt8) (b : Bool), l.length = s.length → clt x y (l ++ [h]) (s ++ [b]) = (if b then (ndp h (clt x y l s).1, ndp h (clt x y l s).2) else ((clt x y l s).1, ndp (clt x y l s).2 h))
  | x, y, [], [], h, b, _ => by cases b <;> rfl
  | x, y, [], _ :: _, h, b, e => by simp at e
  | x, y, _ :: _, [], h, b, e => by simp at e
  | x, y, z :: l, c :: s, h, b, e => by
    simp only [List.cons_append, clt]
    exact clt_snoc _ _ l s h b (by simpa using e)
theorem clt_len : ∀ (x y : List UInt8) (l : List (List UInt8)) (s : List Bool), x.length = 32 → y.length = 32 → (clt x y l s).1.length = 32 ∧ (clt x y l s).2.length = 32
  | x, y, [], s, h, k => by simpa [clt] using ⟨h, k⟩
  | x, y, _ :: _, [], h, k => by simpa [clt] using ⟨h, k⟩
  | x, y, z :: l, c :: s, h, k => by
    rw [clt]
    exact clt_len _ _ l s (by cases c; exact h; exact ndp_len _ _) (by cases c <;> exact ndp_len _ _)
theorem clt_snd : ∀ (x y : List UInt8) (l : List (List UInt8)) (s : List Bool), (clt x y l s).2 = clm y l s
  | x, y, [], s => by simp [clt, clm]
  | x, y, _ :: _, [] => by simp [clt, clm]
  | x, y, z :: l, c :: s => by rw [clt, clm]; exact clt_snd _ _ l s
end Go.Proofs.YtaeocbdphfkflaaDoor
namespace Go.Proofs.YtaeocbdphfkflaaDoor
open Go.RowKit
set_option linter.unusedVariables false
set_option linter.unusedSimpArgs false
theorem and1 (n : Nat) (h : n < 18446744073709551616) : bits BinOp.and IntKind.u64 (n : Int) 1 = ((n % 2 : Nat) : Int) := by
  have := bits_and_u64_nat n 1 h (by decide)
  rw [Nat.and_one_is_mod] at this
  exact this
/-- A place in memory. -/
def Plc (w : World) (b n l : Nat) : Prop := w.heap[b]? = some (.cells #[.int .u64 (n : Int), .int .u64 (l : Int)] 69 (0, 0))
theorem Plc.nw {w w' : World} {b n l : Nat} (h : Plc w b n l) (k : Nw w w') : Plc w' b n l := (k.block b (heap_lt h) (fun f => f)).trans h
theorem rise_any (b n l : Nat) (hn : n < 18446744073709551616) (hl : l < 18446744073709551616) (w : World) (h : Plc w b n l) :
    Calls Tryd.prog 45 #[.pointer (some ⟨b, 0, none⟩)] w fun e w' => e = .returned (.tuple #[]) ∧ Plc w' b (n / 2) (l / 2) ∧ Fr (fun k => k = b) w w' := by
  have c0 := cell2a h
  have c1 := cell2b h
  have f0 := frozen_of h 0
  have f1 := frozen_of h 1
  have hb := heap_lt h
  have H : Hid (Plc w b n l) := h
  clear h
  go_enter Tryd.func45, Tryd.ntmps45
  go_wp2
  go_end0
  exact ⟨rfl, hp_set (hp_set H.out rfl) rfl, (by (iterate 2 refine Fr.setCell ?_ _ _ (fun _ => rfl)); exact Fr.refl _ _)⟩
theorem top_any (b n l : Nat) (w : World) (h : Plc w b n l) :
    Calls Tryd.prog 31 #[.pointer (some ⟨b, 0, none⟩)] w fun e w' => e = .returned (.bool (decide (l = 0))) ∧ w' = w := by
  have c1 := cell2b h
  have hb := heap_lt h
  have e0 : ((l : Int) == 0) = decide (l = 0) := by
    by_cases h0 : l = 0
    · subst h0; rfl
    · rw [decide_eq_false h0]
      simpa using h0
  clear h
  go_enter Tryd.func31, Tryd.ntmps31
  go_wp2
  go_ret
  exact ⟨rfl, rfl⟩
/-- The next place on the way up, and on which side the hash stands. -/
def ups (n l : Nat) : Bool × Nat × Nat :=
  if h : l = 0 then (false, n, l) else if n = l ∧ n % 2 = 0 then ups (n / 2) (l / 2) else (decide (n % 2 = 1), n / 2, l / 2)
termination_by l
theorem ups_skip {a b : Nat} (h : b ≠ 0) (hs : a = b ∧ a % 2 = 0) : ups a b = ups (a / 2) (b / 2) := by rw [ups, dif_neg h, if_pos hs]
theorem ups_step {a b : Nat} (h : b ≠ 0) (hs : ¬ (a = b ∧ a % 2 = 0)) : ups a b = (decide (a % 2 = 1), a / 2, b / 2) := by rw [ups, dif_neg h, if_neg hs]
theorem bsd_ups : ∀ (N a b : Nat), b ≤ N → a ≤ b → b ≠ 0 → bsd a b = (ups a b).1 :: bsd (ups a b).2.1 (ups a b).2.2 ∧ (ups a b).2.1 ≤ (ups a b).2.2 ∧ (ups a b).2.2 < b
  | 0, a, b, hN, h, h0 => by omega
  | N + 1, a, b, hN, h, h0 => by
    by_cases hs : a = b ∧ a % 2 = 0
    · have ih := bsd_ups N (a / 2) (b / 2) (by omega) (by omega) (by omega)
      rw [bsd_skip h0 hs, ups_skip h0 hs]
      exact ⟨ih.1, ih.2.1, by omega⟩
    · rw [bsd_step h0 hs, ups_step h0 hs]
      exact ⟨rfl, by show a / 2 ≤ b / 2; omega, by show b / 2 < b; omega⟩
set_option maxHeartbeats 1000000 in
theorem up_top (b n : Nat) (w : World) (h : Plc w b n 0) :
    Calls Tryd.prog 30 #[.pointer (some ⟨b, 0, none⟩)] w fun e w' => e = .returned (.tuple #[.bool false, .bool false]) ∧ w' = w := by
  have Q : Hid (Calls Tryd.prog 31 #[.pointer (some ⟨b, 0, none⟩)] w fun e w' => e = .returned (.bool true) ∧ w' = w) := top_any b n 0 w h
  clear h
  go_enter Tryd.func30, Tryd.ntmps30
  go_wp2_with fail
  refine Q.out.mono ?_
  rintro e w' ⟨rfl, rfl⟩
  go_wp2
  go_ret2
  exact ⟨rfl, rfl⟩
def plv (w : World) (b : Nat) : Nat := match w.cell? ⟨b, 1, none⟩ with | some v => (intOf v).toNat | none => 0
set_option maxHeartbeats 2000000 in
theorem up_any (b n l : Nat) (hnl : n ≤ l) (h0 : l ≠ 0) (hl : l < 18446744073709551616) (w : World) (h : Plc w b n l) :
    Calls Tryd.prog 30 #[.pointer (some ⟨b, 0, none⟩)] w fun e w' => e = .returned (.tuple #[.bool (ups n l).1, .bool true]) ∧ Plc w' b (ups n l).2.1 (ups n l).2.2 ∧ Fr (fun k => k = b) w w' := by
  have Q : Hid (Calls Tryd.prog 31 #[.pointer (some ⟨b, 0, none⟩)] w fun e w' => e = .returned (.bool false) ∧ w' = w) := by
    have := top_any b n l w h
    rw [decide_eq_false h0] at this
    exact this
  obtain ⟨R, hR⟩ : ∃ R, R = ups n l := ⟨_, rfl⟩
  have HR : Hid (R = ups n l) := hR
  rw [← hR]
  have H : Hid (Plc w b n l) := h
  have HNL : Hid (n ≤ l) := hnl
  have H0 : Hid (l ≠ 0) := h0
  have HL : Hid (l < 18446744073709551616) := hl
  clear h hR hnl h0 hl
  go_enter Tryd.func30, Tryd.ntmps30
  go_wp2_with fail
  refine Q.out.mono ?_
  rintro e w0 ⟨rfl, h1⟩
  have HW : Hid (w0 = w) := h1
  clear h1
  go_wp2
  go_loopw [] (fun wr => ∃ n' l' : Nat, Plc wr b n' l' ∧ n' ≤ l' ∧ l' ≠ 0 ∧ l' ≤ l ∧ ups n' l' = ups n l ∧ Fr (fun k => k = b) w wr) (fun wr => plv wr b)
  case atStart => exact ⟨n, l, by rw [HW.out]; exact H.out, HNL.out, H0.out, Nat.le_refl _, rfl, by rw [HW.out]; exact Fr.refl _ _⟩
  case round =>
    obtain ⟨p, q, hP, hpq, hq0, hql, hup, hfr⟩ := hrel
    have HP : Hid (Plc wr b p q) := hP
    have HPQ : Hid (p ≤ q) := hpq
    have HQ0 : Hid (q ≠ 0) := hq0
    have HQL : Hid (q ≤ l) := hql
    have HUP : Hid (ups p q = ups n l) := hup
    have HFR : Hid (Fr (fun k => k = b) w wr) := hfr
    have c0 := cell2a hP
    have c1 := cell2b hP
    have f0 := frozen_of hP 0
    have f1 := frozen_of hP 1
    have hb := heap_lt hP
    have hm := and1 p (by have := HL.out; omega)
    have QR : Hid (∀ V n' l', n' < 18446744073709551616 → l' < 18446744073709551616 → Plc V b n' l' → Calls Tryd.prog 45 #[.pointer (some ⟨b, 0, none⟩)] V fun e w' => e = .returned (.tuple #[]) ∧ Plc w' b (n' / 2) (l' / 2) ∧ Fr (fun k => k = b) V w') := fun V n' l' h1 h2 h3 => rise_any b n' l' h1 h2 V h3
    clear hP hpq hq0 hql hup hfr
    by_cases hs : p = q ∧ p % 2 = 0
    · obtain ⟨rfl, he⟩ := hs
      have hm0 : bits BinOp.and IntKind.u64 (p : Int) 1 = 0 := by rw [hm, he]; rfl
      have HE : Hid (p % 2 = 0) := he
      clear hm he
      go_wp2_with fail
      go_quiet (fail)
      have P2 : Hid (∀ k, Plc (wr.drewN k) b p p) := fun k => HP.out.nw ((Fr.refl _ _).drewN k)
      go_wp2_with fail
      refine (QR.out _ p p (by have := HL.out; have := HQL.out; omega) (by have := HL.out; have := HQL.out; omega) (P2.out _)).mono ?_
      rintro e w2 ⟨rfl, pl2, f2⟩
      have P3 : Hid (Plc w2 b (p / 2) (p / 2)) := pl2
      have F3 : Hid (Fr (fun k => k = b) w w2) := (HFR.out.drewN _).trans f2 (fun j _ h => h)
      have M2 : Hid (w2.cell? ⟨b, 1, none⟩ = some (.int .u64 ((p / 2 : Nat) : Int))) := cell2b pl2
      clear pl2 f2
      go_wp2
      exact ⟨⟨p / 2, p / 2, P3.out, Nat.le_refl _, by have := HQ0.out; have := HE.out; omega, by have := HQL.out; omega, by rw [← ups_skip HQ0.out ⟨rfl, HE.out⟩]; exact HUP.out, F3.out⟩, by unfold plv; rw [M2.out, c1]; simp only [intOf, Int.toNat_natCast]; have := HQ0.out; omega⟩
    · have HS : Hid (¬ (p = q ∧ p % 2 = 0)) := hs
      have HPO : Hid (∀ k, Plc (wr.drewN k) b p q) := fun k => HP.out.nw ((Fr.refl _ _).drewN k)
      have HFO : Hid (∀ k, Fr (fun j => j = b) w (wr.drewN k)) := fun k => HFR.out.drewN k
      have RR : Hid (R = (decide (p % 2 = 1), p / 2, q / 2)) := by show R = _; rw [HR.out, ← HUP.out, ups_step HQ0.out HS.out]
      clear hs
      by_cases hpq : p = q
      · subst hpq
        have ho : p % 2 = 1 := by have := HS.out; omega
        have hm1 : bits BinOp.and IntKind.u64 (p : Int) 1 = 1 := by rw [hm, ho]; rfl
        have RS : Hid (R = (true, p / 2, p / 2)) := by show R = _; rw [RR.out, decide_eq_true ho]
        clear hm ho
        go_wp2_with fail
        go_quiet (fail)
        go_wp2_with fail
        refine (QR.out _ p p (by have := HL.out; have := HQL.out; omega) (by have := HL.out; have := HQL.out; omega) (HPO.out _)).mono ?_
        rintro e w2 ⟨rfl, pl2, f2⟩
        have P3 : Hid (Plc w2 b (p / 2) (p / 2)) := pl2
        have F3 : Hid (Fr (fun k => k = b) w w2) := (HFO.out _).trans f2 (fun j _ h => h)
        clear pl2 f2
        go_wp2
        go_ret2
        rw [RS.out]
        exact ⟨rfl, P3.out, F3.out⟩
      · have hne : ((p : Int) == (q : Int)) = false := by
          simp only [beq_eq_false_iff_ne, ne_eq, Int.natCast_inj]
          exact hpq
        have e1 : (((p % 2 : Nat) : Int) == 1) = decide (p % 2 = 1) := by
          rcases Nat.mod_two_eq_zero_or_one p with h | h <;> rw [h] <;> rfl
        obtain ⟨z, hz⟩ : ∃ z : Nat, z = p % 2 := ⟨_, rfl⟩
        obtain ⟨c, hc⟩ : ∃ c : Bool, c = decide (p % 2 = 1) := ⟨_, rfl⟩
        have RS : Hid (R = (c, p / 2, q / 2)) := by show R = _; rw [RR.out, hc]
        rw [← hc] at e1
        rw [← hz] at hm e1
        clear hpq hz hc
        go_wp2_with fail
        go_quiet (fail)
        go_wp2_with fail
        refine (QR.out _ p q (by have := HL.out; have := HQL.out; have := HPQ.out; omega) (by have := HL.out; have := HQL.out; omega) (HPO.out _)).mono ?_
        rintro e w2 ⟨rfl, pl2, f2⟩
        have P3 : Hid (Plc w2 b (p / 2) (q / 2)) := pl2
        have F3 : Hid (Fr (fun k => k = b) w w2) := (HFO.out _).trans f2 (fun j _ h => h)
        clear pl2 f2
        go_wp2
        go_ret2
        rw [RS.out]
        exact ⟨rfl, P3.out, F3.out⟩
end Go.Proofs.YtaeocbdphfkflaaDoor
