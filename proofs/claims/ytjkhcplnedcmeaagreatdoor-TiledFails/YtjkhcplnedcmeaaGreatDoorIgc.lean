/- tiled: the law's digits. -/
import Derived.Test.YtjkhcplnedcmeaaGreatDoorJgx
import Derived.Test.YtjkhcplnedcmeaaGreatDoorJgd
import Derived.Test.YtjkhcplnedcmeaaGreatDoorClg
import Derived.Test.YtjkhcplnedcmeaaGreatDoorKg
import Derived.Test.YtjkhcplnedcmeaaGreatDoorIga
namespace Go.Proofs.YtjkhcplnedcmeaaGreatDoor
open Go.RowKit
set_option linter.unusedVariables false
set_option linter.unusedSimpArgs false
/-- A number's digits (up to f + 1 of them). -/
def dgF : Nat → Nat → List UInt8
  | 0, n => [UInt8.ofNat (48 + n)]
  | f + 1, n => if n < 10 then [UInt8.ofNat (48 + n)] else dgF f (n / 10) ++ [UInt8.ofNat (48 + n % 10)]
theorem dgF_len : ∀ f n, (dgF f n).length ≤ f + 1
  | 0, n => by simp [dgF]
  | f + 1, n => by
    unfold dgF
    split
    · simp
    · have := dgF_len f (n / 10)
      simp; omega
def dgS (n : Nat) : ByteArray := ⟨(dgF 3 n).toArray⟩
theorem bb_app (X Y : List UInt8) : (⟨X.toArray⟩ : ByteArray) ++ ⟨Y.toArray⟩ = ⟨(X ++ Y).toArray⟩ := by
  apply ByteArray.ext
  simp [ByteArray.data_append]
set_option maxRecDepth 100000 in
theorem digits_one (n : Nat) (hn : n < 10) (w : World) :
    Calls Tryz.prog 50 #[.int .i64 (n : Int)] w fun e w' => e = .returned (.string ⟨[UInt8.ofNat (48 + n)].toArray⟩) ∧ Nw w w' := by
  have hb8 : 48 + (n : Int) = (((UInt8.ofNat (48 + n)).toNat : Nat) : Int) := by
    rw [UInt8.toNat_ofNat']; omega
  have hcv := conv_bys (bys_block (w := w.alloc (.cells (hbs [UInt8.ofNat (48 + n)]) 5)) (heap_new _ _)) 1
  have e1 : hbs [UInt8.ofNat (48 + n)] = #[.int .u8 (((UInt8.ofNat (48 + n)).toNat : Nat) : Int)] := rfl
  rw [e1] at hcv
  have e2 : [UInt8.ofNat (48 + n)].length = 1 := rfl
  rw [e2] at hcv
  have hki : (n : Int) < 10 := by omega
  clear e1 e2
  generalize [UInt8.ofNat (48 + n)].toArray = lb at *
  generalize (UInt8.ofNat (48 + n)).toNat = c at *
  go_enter Tryz.func50, Tryz.ntmps50
  go_wp2
  go_ret
  exact ⟨rfl, (by repeat first | with_reducible exact nwr w | with_reducible refine Fr.alloc ?_ _ | with_reducible refine Fr.drew ?_ | (with_reducible refine Fr.setCell ?_ _ _ (fun h => ?_); rotate_left; focus (simp only at h; omega)))⟩
theorem digits_more (n : Nat) (X Y : ByteArray) (hn : 10 ≤ n) (hn2 : n ≤ 100000) (hX : X.size ≤ 1000) (hY : Y.size ≤ 1000) (w : World)
    (h1 : ∀ V, Nw w V → Calls Tryz.prog 50 #[.int .i64 ((n / 10 : Nat) : Int)] V fun e w' => e = .returned (.string X) ∧ Nw V w')
    (h2 : ∀ V, Nw w V → Calls Tryz.prog 50 #[.int .i64 ((n % 10 : Nat) : Int)] V fun e w' => e = .returned (.string Y) ∧ Nw V w') :
    Calls Tryz.prog 50 #[.int .i64 (n : Int)] w fun e w' => e = .returned (.string (X ++ Y)) ∧ Nw w w' := by
  have Q1 : Hid (∀ V, Nw w V → Calls Tryz.prog 50 #[.int .i64 ((n / 10 : Nat) : Int)] V fun e w' => e = .returned (.string X) ∧ Nw V w') := h1
  have Q2 : Hid (∀ V, Nw w V → Calls Tryz.prog 50 #[.int .i64 ((n % 10 : Nat) : Int)] V fun e w' => e = .returned (.string Y) ∧ Nw V w') := h2
  have hki : ¬ (n : Int) < 10 := by omega
  have hq : (n : Int) / 10 = ((n / 10 : Nat) : Int) := by omega
  have hr : (n : Int) % 10 = ((n % 10 : Nat) : Int) := by omega
  clear h1 h2
  obtain ⟨a, ha⟩ : ∃ a, a = n / 10 := ⟨_, rfl⟩
  obtain ⟨b, hb⟩ : ∃ b, b = n % 10 := ⟨_, rfl⟩
  rw [← ha] at Q1 hq
  rw [← hb] at Q2 hr
  have hab : a ≤ 100000 ∧ b ≤ 9 := by omega
  have hkd : decide (n < 10) = false := by simp; omega
  clear ha hb
  go_enter Tryz.func50, Tryz.ntmps50
  go_wp2_with fail
  refine (Q1.out _ (nwr w)).mono ?_
  rintro e w1 ⟨rfl, n1⟩
  have N1 : Hid (Nw w w1) := n1
  clear n1
  go_wp2_with fail
  refine (Q2.out _ N1.out).mono ?_
  rintro e w2 ⟨rfl, n2⟩
  have N2 : Hid (Nw w w2) := N1.out.tr n2
  clear n2
  go_wp2
  go_ret
  exact ⟨rfl, N2.out⟩
theorem digits_any : ∀ (f n : Nat), n < 10 ^ (f + 1) → f ≤ 3 → ∀ w, Calls Tryz.prog 50 #[.int .i64 (n : Int)] w fun e w' => e = .returned (.string ⟨(dgF f n).toArray⟩) ∧ Nw w w'
  | 0, n, hn, _, w => digits_one n (by omega) w
  | f + 1, n, hn, hf, w => by
    unfold dgF
    by_cases h : n < 10
    · rw [if_pos h]
      exact digits_one n h w
    · rw [if_neg h]
      have hp : 10 ^ (f + 1 + 1) = 10 ^ (f + 1) * 10 := Nat.pow_succ _ _
      have h5 : 10 ^ (f + 1 + 1) ≤ 10 ^ 5 := Nat.pow_le_pow_right (by decide) (by omega)
      have := digits_more n ⟨(dgF f (n / 10)).toArray⟩ ⟨[UInt8.ofNat (48 + n % 10)].toArray⟩ (by omega) (by omega) (by have := dgF_len f (n / 10); show (dgF f (n / 10)).toArray.size ≤ _; simp; omega) (by show [UInt8.ofNat (48 + n % 10)].toArray.size ≤ _; simp) w
        (fun V nV => digits_any f (n / 10) (by omega) (by omega) V) (fun V nV => digits_one (n % 10) (by omega) V)
      rw [bb_app] at this
      exact this
theorem digits_s (n : Nat) (hn : n < 10000) (w : World) : Calls Tryz.prog 50 #[.int .i64 (n : Int)] w fun e w' => e = .returned (.string (dgS n)) ∧ Nw w w' := digits_any 3 n (by simpa using hn) (by omega) w
theorem dgS_size (n : Nat) : (dgS n).size ≤ 4 := by
  have := dgF_len 3 n
  show (dgF 3 n).toArray.size ≤ 4
  simpa using this
end Go.Proofs.YtjkhcplnedcmeaaGreatDoor
namespace Go.Proofs.YtjkhcplnedcmeaaGreatDoor
open Go.RowKit
set_option linter.unusedVariables false
set_option linter.unusedSimpArgs false
/-- The law's leaves, and their hashes. -/
def ldS (n : Nat) : List ByteArray := (List.range n).map dgS
def lfH (x : ByteArray) : List UInt8 := Sh (0 :: x.data.toList)
def ldH (n : Nat) : List (List UInt8) := (ldS n).map lfH
theorem ldS_len (n : Nat) : (ldS n).length = n := by simp [ldS]
theorem ldH_len (n : Nat) : (ldH n).length = n := by simp [ldH, ldS_len]
theorem ldH_32 (n : Nat) : ∀ x ∈ ldH n, x.length = 32 := fun x hx => by
  obtain ⟨y, _, rfl⟩ := List.mem_map.1 hx
  exact Sh_len _
theorem ldS_succ (n : Nat) : ldS (n + 1) = ldS n ++ [dgS n] := by simp [ldS, List.range_succ]
theorem spl_powI (j : Nat) : spl (2 ^ (j + 1)) = 2 ^ j := by
  have h : 2 ≤ 2 ^ (j + 1) := by have := Nat.two_pow_pos j; rw [Nat.pow_succ]; omega
  obtain ⟨i, hi, h1, h2⟩ := spl_ex h
  have h3 : i < j + 1 := (Nat.pow_lt_pow_iff_right (by decide)).1 h1
  have h4 : i + 1 ≥ j + 1 := by
    have : 2 ^ (j + 1) ≤ 2 ^ (i + 1) := by rw [Nat.pow_succ]; omega
    exact (Nat.pow_le_pow_iff_right (by decide)).1 this
  rw [hi, show i = j by omega]
theorem mth_ovr : ∀ (j : Nat) (L : List ByteArray), L.length = 2 ^ j → mth L = ovr j (L.map lfH)
  | 0, [x], _ => mth_one x
  | j + 1, L, h => by
    have hp := Nat.two_pow_pos j
    have h2 : 2 ≤ L.length := by rw [h, Nat.pow_succ]; omega
    have h3 : L.length = 2 * 2 ^ j := by rw [h, Nat.pow_succ]; omega
    rw [mth_cut h2, h, spl_powI]
    show _ = Sh (1 :: (ovr j ((L.map lfH).take (2 ^ j)) ++ ovr j ((L.map lfH).drop (2 ^ j))))
    rw [mth_ovr j (L.take (2 ^ j)) (by rw [List.length_take]; omega), mth_ovr j (L.drop (2 ^ j)) (by rw [List.length_drop]; omega), List.map_take, List.map_drop]
theorem mth_tile (n q i W k : Nat) (hk : k < W) (hW : 256 * i + W ≤ nod8 q n) : (tlH (ldH n) q i W)[k]? = some (mth (sbl (ldS n) ((256 * i + k) * 2 ^ (8 * q)) ((256 * i + k) * 2 ^ (8 * q) + 2 ^ (8 * q)))) := by
  have hl : (rwT (ldH n) q).length = nod8 q n := by rw [rwT_len, ldH_len]
  have hin : (256 * i + k + 1) * 2 ^ (8 * q) ≤ n := by
    have h1 : 256 * i + k + 1 ≤ nod8 q n := by omega
    have h2 : nod8 q n * 2 ^ (8 * q) ≤ n := Nat.div_mul_le_self _ _
    exact Nat.le_trans (Nat.mul_le_mul_right _ h1) h2
  unfold tlH
  rw [List.getElem?_take_of_lt hk, List.getElem?_drop]
  unfold rwT
  rw [prN_at (8 * q) (ldH n) (256 * i + k) (by rw [ldH_len]; exact hin)]
  congr 1
  have hlen : (sbl (ldS n) ((256 * i + k) * 2 ^ (8 * q)) ((256 * i + k) * 2 ^ (8 * q) + 2 ^ (8 * q))).length = 2 ^ (8 * q) := by
    rw [Nat.succ_mul] at hin
    rw [sbl_len, ldS_len, Nat.min_eq_left hin, Nat.add_sub_cancel_left]
  rw [mth_ovr (8 * q) _ hlen]
  congr 1
  simp only [sbl, ldH, List.map_drop, List.map_take]
  rw [List.drop_take, Nat.add_sub_cancel_left]
/-- The texts of these tiles lie there. -/
def HldT (l : List (List UInt8)) (M : Tx) (ts : List Ti) : Prop := ∀ t ∈ ts, M ⟨(nm t.L t.I t.W).toArray⟩ = some (tlB l t.L t.I t.W)
theorem HldT.put {l : List (List UInt8)} {M : Tx} {ts : List Ti} (h : HldT l M ts) (hT : Tis l.length ts) (t : Ti) (ht : Tis l.length [t]) : HldT l (putT M ⟨(nm t.L t.I t.W).toArray⟩ (tlB l t.L t.I t.W)) (ts ++ [t]) := fun u hu => by
  by_cases e : (⟨(nm u.L u.I u.W).toArray⟩ : ByteArray) = ⟨(nm t.L t.I t.W).toArray⟩
  · have hut : Tis l.length [u] := fun v hv => by
      simp at hv; subst hv
      rcases List.mem_append.1 hu with q | q
      · exact hT _ q
      · exact ht _ q
    obtain ⟨a1, a2, a3, a4⟩ := hut u (by simp)
    obtain ⟨b1, b2, b3, b4⟩ := ht t (by simp)
    obtain ⟨e1, e2, e3⟩ := nm_inj (mayT_wid a1 a2) (mayT_wid b1 b2) e
    rw [e1, e2, e3]
    exact putT_same _ _ _
  · rcases List.mem_append.1 hu with q | q
    · rw [putT_other _ _ _ e]; exact h u q
    · simp at q; subst q; exact absurd rfl e
theorem mem_allT (S : Nat) : ∀ j t, t ∈ allT S j ↔ t.L < j ∧ t.I < cntT S t.L ∧ t.W = wid t.L t.I S
  | 0, t => by simp [allT]
  | j + 1, t => by
    obtain ⟨q, i, W⟩ := t
    simp only [allT, List.mem_append, mem_allT S j, lvT, List.mem_map, List.mem_range, Ti.mk.injEq]
    constructor
    · rintro (⟨h1, h2, h3⟩ | ⟨x, h1, rfl, rfl, rfl⟩)
      · exact ⟨by omega, h2, h3⟩
      · exact ⟨by omega, h1, rfl⟩
    · rintro ⟨h1, h2, h3⟩
      by_cases e : q = j
      · subst e
        exact .inr ⟨i, h2, rfl, rfl, h3.symm⟩
      · exact .inl ⟨by omega, h2, h3⟩
theorem tis_all {S : Nat} (hS : S ≤ 1048576) (j : Nat) (hj : j ≤ 8) : Tis S (allT S j) := fun t ht => by
  obtain ⟨h1, h2, h3⟩ := (mem_allT S j t).1 ht
  have h4 := cntT_le S t.L hS
  refine ⟨h3.symm, ?_, by omega, by omega⟩
  rw [h3]
  unfold cntT at h2
  unfold wid
  split <;> omega
theorem hldT_all {l : List (List UInt8)} {M : Tx} (hl : l.length ≤ 1048576) (h : HldT l M (allT l.length 8)) : HldA l M := fun q i W hw h0 => by
  refine h ⟨q, i, W⟩ ((mem_allT _ _ _).2 ⟨?_, ?_, hw.symm⟩)
  · show q < 8
    have h3 := (wid_in q i _ W hw h0).1
    rcases Nat.lt_or_ge q 8 with h4 | h4
    · exact h4
    · exfalso
      have : nod8 q l.length = 0 := by
        unfold nod8
        have : 2 ^ 64 ≤ 2 ^ (8 * q) := Nat.pow_le_pow_right (by decide) (by omega)
        exact Nat.div_eq_of_lt (by omega)
      omega
  · show i < cntT _ q
    have h3 := (wid_in q i _ W hw h0).1
    unfold cntT
    omega
end Go.Proofs.YtjkhcplnedcmeaaGreatDoor
