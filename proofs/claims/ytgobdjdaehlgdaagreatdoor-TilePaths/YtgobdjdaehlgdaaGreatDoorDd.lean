/- tile: the document's digits; a tile that is read out of a name, roughly (pure). -/
import Derived.Test.YtgobdjdaehlgdaaGreatDoorDc
namespace Go.Proofs.YtgobdjdaehlgdaaGreatDoor
open Go.RowKit
open Go.Lib (decDigits nDigits)
set_option linter.unusedVariables false
set_option linter.unusedSimpArgs false
/-- The digits of a text as a number. -/
def dgs (n : Nat) : List UInt8 → Nat
  | [] => n
  | c :: r => if 48 ≤ c.toNat ∧ c.toNat ≤ 57 then dgs ((n * 10 + (c.toNat - 48)) % 18446744073709551616) r else dgs n r
theorem dgs_lt : ∀ (l : List UInt8) (n : Nat), n < 18446744073709551616 → dgs n l < 18446744073709551616
  | [], n, h => h
  | c :: r, n, h => by
    unfold dgs
    split
    · exact dgs_lt r _ (Nat.mod_lt _ (by decide))
    · exact dgs_lt r _ h
theorem dgs_app : ∀ (l m : List UInt8) (n : Nat), dgs n (l ++ m) = dgs (dgs n l) m
  | [], m, n => rfl
  | c :: r, m, n => by
    rw [List.cons_append]
    conv => lhs; unfold dgs
    conv => rhs; arg 1; unfold dgs
    split
    · exact dgs_app r m _
    · exact dgs_app r m _
theorem dgs_no (l : List UInt8) (n : Nat) (h : ∀ c ∈ l, ¬ (48 ≤ c.toNat ∧ c.toNat ≤ 57)) : dgs n l = n := by
  induction l generalizing n with
  | nil => rfl
  | cons c r ih =>
    unfold dgs
    rw [if_neg (h c (by simp))]
    exact ih n (fun x hx => h x (by simp [hx]))
theorem dgs_dec : ∀ u : Nat, u < 18446744073709551616 → dgs 0 (decDigits u) = u := by
  intro u
  induction u using Nat.strongRecOn with
  | ind u ih =>
    intro hu
    rw [Go.Lib.decDigits]
    by_cases h : u < 10
    · rw [dif_pos h]
      have hd := dig_of u h
      have h1 := hd.1
      unfold digU at h1
      unfold dgs dgs
      rw [if_pos h1, hd.2]
      omega
    · rw [dif_neg h, dgs_app, ih (u / 10) (by omega) (by omega)]
      have hd := dig_of (u % 10) (by omega)
      have h1 := hd.1
      unfold digU at h1
      unfold dgs dgs
      rw [if_pos h1, hd.2]
      omega
theorem dgs_zeros (k : Nat) (l : List UInt8) : dgs 0 (List.replicate k 48 ++ l) = dgs 0 l := by
  induction k with
  | zero => rfl
  | succ k ih =>
    rw [List.replicate_succ, List.cons_append]
    conv => lhs; unfold dgs
    rw [if_pos (by decide)]
    exact ih
theorem dgs_thr : ∀ (k : Nat) (l : List UInt8) (n : Nat), l.length ≤ k → dgs n (thrL l) = dgs n l
  | 0, l, n, h => by rw [thrL_le l (by omega)]
  | k + 1, l, n, h => by
    by_cases h3 : l.length ≤ 3
    · rw [thrL_le l h3]
    · rw [thrL_gt l (by omega), dgs_app, dgs_app, dgs_app, dgs_thr k (l.drop 3) _ (by rw [List.length_drop]; omega)]
      rw [dgs_no [120] n (by decide), dgs_no [47] _ (by decide), ← dgs_app, List.take_append_drop]
/-- The parts of a name, roughly. -/
def roL (X : List UInt8) : Nat := dgs 0 ((X.drop 5).take 1) % 256
def roA (X : List UInt8) : List UInt8 := (X.drop 7).takeWhile (fun c => c != 112)
def roB (X : List UInt8) : List UInt8 := (X.drop 7).dropWhile (fun c => c != 112)
def roI (X : List UInt8) : Nat := dgs 0 (roA X)
def roW (X : List UInt8) : Nat := if roB X = [] then 256 else dgs 0 (roB X) % 1000
theorem dw_skip : ∀ (P S : List UInt8), (112 : UInt8) ∉ P → (P ++ S).takeWhile (fun c => c != 112) = P ++ S.takeWhile (fun c => c != 112) ∧ (P ++ S).dropWhile (fun c => c != 112) = S.dropWhile (fun c => c != 112)
  | [], S, h => ⟨rfl, rfl⟩
  | c :: r, S, h => by
    have hc : (c != 112) = true := by simp; intro e; exact h (by simp [e])
    have := dw_skip r S (fun e => h (by simp [e]))
    constructor
    · rw [List.cons_append, List.takeWhile_cons, if_pos hc, this.1, List.cons_append]
    · rw [List.cons_append, List.dropWhile_cons, if_pos hc, this.2]
theorem ro_nm {L I W : Nat} (h : mayT L I (W : Int)) : roL (nm L I W) = L ∧ roI (nm L I W) = I ∧ roW (nm L I W) = W := by
  obtain ⟨_, hL, hI, hW1, hW⟩ := nm_len h
  have hdl : (decDigits L).length = 1 := by
    have h1 : (decDigits L).length ≤ 1 := by rw [Go.Lib.decDigits_length]; exact nDigits_lt 0 L (by omega)
    have h2 : 1 ≤ (decDigits L).length := by rw [Go.Lib.decDigits_length]; exact Go.Lib.nDigits_pos L
    omega
  have hdL := dgs_dec L (by omega)
  have hdI : dgs 0 (thrL (pad3 (decDigits I))) = I := by rw [dgs_thr _ _ _ (Nat.le_refl _), pad3, dgs_zeros]; exact dgs_dec I (by omega)
  have hdW := dgs_dec W (by omega)
  have h112 : (112 : UInt8) ∉ thrL (pad3 (decDigits I)) := fun e => by
    rcases thr_memU 112 _ _ (Nat.le_refl _) e with h | h | h
    · have := pad3_dig I 112 h; unfold digU at this; revert this; decide
    · exact absurd h (by decide)
    · exact absurd h (by decide)
  obtain ⟨a, ha⟩ : ∃ a, decDigits L = [a] := by
    match decDigits L, hdl with
    | [a], _ => exact ⟨a, rfl⟩
  obtain ⟨T, hT⟩ : ∃ T, T = thrL (pad3 (decDigits I)) := ⟨_, rfl⟩
  have e : nm L I W = [116, 105, 108, 101, 47, a, 47] ++ (T ++ (if W < 256 then [46, 112, 47] ++ decDigits W else [])) := by
    unfold nm; rw [ha, hT]; simp
  rw [← hT] at h112 hdI
  rw [ha] at hdL
  have e5 : ((nm L I W).drop 5).take 1 = [a] := by rw [e]; rfl
  have e7 : (nm L I W).drop 7 = T ++ (if W < 256 then [46, 112, 47] ++ decDigits W else []) := by rw [e]; rfl
  have hs := dw_skip T (if W < 256 then [46, 112, 47] ++ decDigits W else []) h112
  refine ⟨by unfold roL; rw [e5, hdL]; omega, ?_, ?_⟩
  · unfold roI roA
    rw [e7, hs.1, dgs_app, hdI]
    by_cases hlt : W < 256
    · rw [if_pos hlt]; exact dgs_no _ _ (by intro c hc; have : c = 46 := by simpa using hc
                                            subst this; decide)
    · rw [if_neg hlt]; rfl
  · unfold roW roB
    rw [e7, hs.2]
    by_cases hlt : W < 256
    · rw [if_pos hlt]
      have : ([46, 112, 47] ++ decDigits W).dropWhile (fun c => c != 112) = [112, 47] ++ decDigits W := rfl
      rw [this, if_neg (by simp), dgs_app, dgs_no [112, 47] 0 (by decide), hdW]
      omega
    · rw [if_neg hlt, List.dropWhile_nil, if_pos rfl]; omega
theorem u64w (x : Nat) (h : x < 18446744073709551616) (c : Nat) (hc : c ≤ 9) : (((x : Int) * 10 % 18446744073709551616 + (c : Int)) % 18446744073709551616) = (((x * 10 + c) % 18446744073709551616 : Nat) : Int) := by omega
set_option maxHeartbeats 400000 in
theorem rdig_any (s : ByteArray) (hs : s.size ≤ 9223372036854775807) (w : World) :
    Calls Tryz.prog 86 #[.string s] w fun e w' => e = .returned (.int .u64 (dgs 0 s.data.toList : Nat)) ∧ w' = w := by
  have hlen := bytes_len s
  have HC : Hid (∀ k (h : k < s.size), s[k]'h = TX.C s.data.toList k) := fun k h => TX.C_get s k h
  obtain ⟨l, hl⟩ : ∃ l, l = s.data.toList := ⟨_, rfl⟩
  rw [← hl] at HC hlen ⊢
  clear hl
  have HLEN : Hid (l.length = s.size) := hlen
  clear hlen
  go_enter Tryz.func86, Tryz.ntmps86
  go_wp2
  go_loop [3, 4] (fun n i => ∃ j m : Nat, j ≤ s.size ∧ i = .int .i64 (j : Int) ∧ n = .int .u64 (m : Int) ∧ m < 18446744073709551616 ∧ dgs m (l.drop j) = dgs 0 l) (fun _ i => s.size - (intOf i).toNat)
  case atStart => exact ⟨0, 0, by omega, rfl, rfl, by omega, by simp⟩
  case round =>
    obtain ⟨j, m, hj, rfl, rfl, hm, hd⟩ := hrel
    have HD : Hid (dgs m (l.drop j) = dgs 0 l) := hd
    clear hd
    by_cases hlt : j < s.size
    · have hck := HC.out j hlt
      have hdr := TX.drop_C l j (by rw [HLEN.out]; omega)
      have HDR : Hid (l.drop j = TX.C l j :: l.drop (j + 1)) := hdr
      have hc255 : (TX.C l j).toNat < 256 := UInt8.toNat_lt _
      clear hdr
      generalize TX.C l j = c at hck HDR hc255
      by_cases h48 : 48 ≤ c.toNat
      · have h48i : (48 : Int) ≤ (c.toNat : Int) := by omega
        by_cases h57 : c.toNat ≤ 57
        · have h57i : (c.toNat : Int) ≤ 57 := by omega
          have HD2 : Hid (dgs ((m * 10 + (c.toNat - 48)) % 18446744073709551616) (l.drop (j + 1)) = dgs 0 l) := by
            show _ = _
            rw [← HD.out, HDR.out]
            conv => rhs; unfold dgs
            rw [if_pos ⟨h48, h57⟩]
          go_wp2
          refine ⟨⟨j + 1, _, by omega, by go_num, ?_, Nat.mod_lt _ (by decide), HD2.out⟩, by simp [intOf]; omega⟩
          have := u64w m hm (c.toNat - 48) (by omega)
          rw [w64, w64, show (c.toNat : Int) - 48 = ((c.toNat - 48 : Nat) : Int) by omega, this]
        · have h57i : ¬ (c.toNat : Int) ≤ 57 := by omega
          have HD2 : Hid (dgs m (l.drop (j + 1)) = dgs 0 l) := by
            show _ = _
            rw [← HD.out, HDR.out]
            conv => rhs; unfold dgs
            rw [if_neg (by omega)]
          go_wp2
          exact ⟨⟨j + 1, m, by omega, by go_num, rfl, hm, HD2.out⟩, by simp [intOf]; omega⟩
      · have h48i : ¬ (48 : Int) ≤ (c.toNat : Int) := by omega
        have HD2 : Hid (dgs m (l.drop (j + 1)) = dgs 0 l) := by
          show _ = _
          rw [← HD.out, HDR.out]
          conv => rhs; unfold dgs
          rw [if_neg (by omega)]
        go_wp2
        exact ⟨⟨j + 1, m, by omega, by go_num, rfl, hm, HD2.out⟩, by simp [intOf]; omega⟩
    · obtain rfl : j = s.size := by omega
      have HD2 : Hid (m = dgs 0 l) := by
        show _ = _
        rw [← HD.out, List.drop_of_length_le (by rw [HLEN.out]; exact Nat.le_refl _)]; rfl
      go_wp2
      go_ret
      exact ⟨by rw [show dgs 0 l = m from HD2.out.symm]; rfl, rfl⟩
end Go.Proofs.YtgobdjdaehlgdaaGreatDoor
