/- What was put is read as it was; what is cut off within is not read. -/
import Derived.Test.YtebbgpnhkpbefaaDoorcY3
import Derived.Test.YtebbgpnhkpbefaaDoorcP2
namespace Go.Proofs.YtebbgpnhkpbefaaDoor
open Go.RowKit
set_option linter.unusedVariables false
set_option linter.unusedSimpArgs false

theorem varB_pos (n : Nat) : 0 < (varB n).length := by
  by_cases h : n < 128
  · rw [varB_lt h]; simp
  · rw [varB_ge h]; simp
/-- A number's form that is cut off is none. -/
theorem rv_cut : ∀ (m n i : Nat), m < (varB n).length → rvGo i ((varB n).take m) = none
  | 0, n, i, _ => by simp [rvGo_nil]
  | m + 1, n, i, h => by
    by_cases hl : n < 128
    · rw [varB_lt hl] at h; simp at h
    · rw [varB_ge hl] at h ⊢
      have e : (UInt8.ofNat (n % 128 + 128)).toNat = n % 128 + 128 := by rw [UInt8.toNat_ofNat']; omega
      have ih := rv_cut m (n / 128) (i + 1) (by simpa using h)
      rw [List.take_succ_cons]
      by_cases hb : (0 < i ∧ (UInt8.ofNat (n % 128 + 128)).toNat = 0) ∨ (i = 9 ∧ 1 < (UInt8.ofNat (n % 128 + 128)).toNat)
      · exact rvGo_bad hb
      · rw [rvGo_on hb (by rw [e]; omega), ih]; rfl

/-- What the form of a thing is, by its kind. -/
theorem fm0 {kd n wd : Int} {t : ByteArray} {lh F : List UInt8} (h : fmT kd n wd t lh = some F) (h4 : kd % 4 = 0) : 1 ≤ wd ∧ wd ≤ 8 ∧ n < 256 ^ wd.toNat ∧ F = fixB wd.toNat n.toNat := by
  unfold fmT at h
  rw [if_pos h4] at h
  split at h
  · rename_i hc; cases h; exact ⟨hc.1, hc.2.1, hc.2.2, rfl⟩
  · cases h
theorem fm1 {kd n wd : Int} {t : ByteArray} {lh F : List UInt8} (h : fmT kd n wd t lh = some F) (h4 : kd % 4 = 1) : F = varB n.toNat := by
  unfold fmT at h
  rw [if_neg (by omega), if_pos h4] at h
  cases h; rfl
theorem fm2 {kd n wd : Int} {t : ByteArray} {lh F : List UInt8} (h : fmT kd n wd t lh = some F) (h4 : kd % 4 = 2) : F = varB t.size ++ t.data.toList := by
  unfold fmT at h
  rw [if_neg (by omega), if_neg (by omega), if_pos h4] at h
  cases h; rfl
theorem fm3 {kd n wd : Int} {t : ByteArray} {lh F : List UInt8} (h : fmT kd n wd t lh = some F) (h4 : kd % 4 = 3) : F = lh := by
  unfold fmT at h
  rw [if_neg (by omega), if_neg (by omega), if_neg (by omega)] at h
  cases h; rfl
theorem fm_pos {kd n wd : Int} {t : ByteArray} {lh F : List UInt8} (h : fmT kd n wd t lh = some F) (hl : lh.length = 32) : 0 < F.length := by
  have h4 : kd % 4 = 0 ∨ kd % 4 = 1 ∨ kd % 4 = 2 ∨ kd % 4 = 3 := by omega
  rcases h4 with h4 | h4 | h4 | h4
  · obtain ⟨a, b, c, rfl⟩ := fm0 h h4; rw [fixB_len]; omega
  · rw [fm1 h h4]; exact varB_pos _
  · rw [fm2 h h4, List.length_append]; have := varB_pos t.size; omega
  · rw [fm3 h h4]; omega

/-- What was read of a thing that was put. -/
def Vm (kd n : Int) (t : ByteArray) (lh : List UInt8) (V : Array Value) : Prop :=
  ((kd % 4 = 0 ∨ kd % 4 = 1) → V[2]? = some (.int .u64 n)) ∧ (kd % 4 = 2 → V[4]? = some (.string t)) ∧ (kd % 4 = 3 → ∀ j, j < 32 → V[5 + j]? = (bc lh)[j]?)

theorem tH_at (l : List UInt8) (j : Nat) : (tH l)[5 + j]? = (bc l)[j]? := by
  unfold tH
  rw [List.getElem?_toArray, List.getElem?_append_right (by simp)]
  simp

theorem bytes_ext {s t : ByteArray} (h : s.data.toList = t.data.toList) : s = t := by
  apply ByteArray.ext
  exact Array.ext' h

theorem took_k {B b : Nat} {s : ByteArray} {p : Nat} {q : Int} {w : World} {a : Nat → Addr} {A : Array Value} {kd n wd : Int} {t : ByteArray} {lh F rest : List UInt8} (hS : Sent B w a) (hb : B ≤ b) (h : Rd w b s p .nilIface q) (hs : s.size ≤ 1000000000000)
    (hT : Tf A kd n wd t lh) (hfm : fmT kd n wd t lh = some F) (hwt : kd % 4 = 2 → wd = t.size) (htb : t.size ≤ 1048576) (hd : s.data.toList.drop p = F ++ rest) :
    Calls Tryd.prog 7 #[.pointer (some ⟨b, 0, none⟩), .agg A] w fun e w' => ∃ V, e = .returned (.agg V) ∧ V.size = 37 ∧ (∀ u ∈ V.toList, u.oneCell' = true) ∧ Vm kd n t lh V ∧ Rd w' b s ((p + F.length : Nat) : Int) .nilIface q ∧ Fr (fun j => j = b) w w' := by
  have hbl := heap_lt h
  have hsm : s.size ≤ maxLen := by unfold maxLen; omega
  have hdl := drop_len s p
  rw [hd, List.length_append] at hdl
  have hFp := fm_pos hfm hT.hl
  have hn1 := hT.n1
  have hn2 := hT.n2
  obtain ⟨N, rfl⟩ : ∃ N : Nat, n = N := ⟨n.toNat, by omega⟩
  have hA := hT.g
  have htk : (s.data.toList.drop p).take F.length = F := by rw [hd]; simp
  have h4 : kd % 4 = 0 ∨ kd % 4 = 1 ∨ kd % 4 = 2 ∨ kd % 4 = 3 := by omega
  rcases h4 with h4 | h4 | h4 | h4
  · obtain ⟨w1, w8, hN, hF⟩ := fm0 hfm h4
    obtain ⟨m, rfl⟩ : ∃ m : Nat, wd = m := ⟨wd.toNat, by omega⟩
    rw [Int.toNat_natCast, Int.toNat_natCast] at hF
    have hN' : N < 256 ^ m := (pow_cast N m).1 hN
    have hFl : F.length = m := by rw [hF, fixB_len]
    rw [hFl] at htk
    refine (took0 b A kd m w (fun v w' => v = N ∧ Rd w' b s ((p + F.length : Nat) : Int) .nilIface q) hbl hA.size hA.k hA.w hA.k1 hA.k2 h4 (fun w1 f1 => ?_) (fun v w' w'' S hv hf hS => ⟨hv.1, hv.2.fr hf hS⟩)).mono ?_
    · refine (rfixed_yes b s p m q w1 (h.fr f1 (fun f => f)) (by omega) (by omega) (by omega) hsm).mono ?_
      rintro e w' ⟨rfl, h', hf⟩
      exact ⟨_, rfl, ⟨by rw [htk, hF, fix_put m N hN'], by rw [hFl]; exact h'⟩, hf⟩
    · rintro e w' ⟨v, rfl, ⟨rfl, h1⟩, h2⟩
      exact ⟨_, rfl, rfl, tZ_one _ _ _ _, ⟨fun _ => rfl, fun h => by omega, fun h => by omega⟩, h1, h2⟩
  · have hF := fm1 hfm h4
    rw [Int.toNat_natCast] at hF
    have hv : rvGo 0 (s.data.toList.drop p) = some (N, F.length) := by rw [hd, hF]; exact rv_put 9 0 N rest (by omega) (by omega) (fun h => by omega)
    refine (took1 b A kd w (fun v w' => v = N ∧ Rd w' b s ((p + F.length : Nat) : Int) .nilIface q) hbl hA.size hA.k hA.k1 hA.k2 h4 (fun w1 f1 => ?_) (fun v w' w'' S hv hf hS => ⟨hv.1, hv.2.fr hf hS⟩)).mono ?_
    · refine (rvar_yes b s p N F.length q w1 (h.fr f1 (fun f => f)) (by omega) hsm hv).mono ?_
      rintro e w' ⟨rfl, h', _, hf⟩
      exact ⟨_, rfl, ⟨rfl, h'⟩, hf⟩
    · rintro e w' ⟨v, rfl, ⟨rfl, h1⟩, h2⟩
      exact ⟨_, rfl, rfl, tZ_one _ _ _ _, ⟨fun _ => rfl, fun h => by omega, fun h => by omega⟩, h1, h2⟩
  · have hF := fm2 hfm h4
    have hw := hwt h4
    subst hw
    have hts : t.data.toList.length = t.size := by rw [Array.length_toList]; rfl
    have hFl : F.length = (varB t.size).length + t.size := by rw [hF, List.length_append, hts]
    have hv : rvGo 0 (s.data.toList.drop p) = some (t.size, (varB t.size).length) := by rw [hd, hF, List.append_assoc]; exact rv_put 9 0 t.size _ (by omega) (by omega) (fun h => by omega)
    have hsub : sub s (p + (varB t.size).length) t.size = t := by
      apply bytes_ext
      rw [sub_list, ← List.drop_drop, hd, hF, List.append_assoc, List.drop_left, ← hts, List.take_left]
    refine (took2 b A kd t.size w (fun v w' => v = t ∧ Rd w' b s ((p + F.length : Nat) : Int) .nilIface q) hbl hA.size hA.k hA.w hA.k1 hA.k2 h4 (fun w1 f1 => ?_) (fun v w' w'' S hv hf hS => ⟨hv.1, hv.2.fr hf hS⟩)).mono ?_
    · refine (rtext_yes b s p t.size (varB t.size).length t.size q w1 (h.fr f1 (fun f => f)) (by omega) (by omega) hv (by omega) (by omega) (by omega)).mono ?_
      rintro e w' ⟨rfl, h', hf⟩
      exact ⟨_, rfl, ⟨hsub, by rw [hFl, ← Nat.add_assoc]; exact h'⟩, hf⟩
    · rintro e w' ⟨v, rfl, ⟨rfl, h1⟩, h2⟩
      exact ⟨_, rfl, rfl, tZ_one _ _ _ _, ⟨fun h => by omega, fun _ => rfl, fun h => by omega⟩, h1, h2⟩
  · have hF := fm3 hfm h4
    subst hF
    have hl := hT.hl
    rw [hl] at htk
    refine (took3 b A kd w (fun v w' => v = F ∧ Rd w' b s ((p + F.length : Nat) : Int) .nilIface q) hbl hA.size hA.k hA.k1 hA.k2 h4 (fun w1 f1 => ?_) (fun v w' w'' S hv hf hS => ⟨hv.1, hv.2.fr hf hS⟩)).mono ?_
    · refine (rhash_yes b s p q w1 (h.fr f1 (fun f => f)) (by omega) hsm).mono ?_
      rintro e w' ⟨rfl, h', hf⟩
      exact ⟨_, by rw [htk]; exact hl, rfl, ⟨htk, by rw [hl]; exact h'⟩, hf⟩
    · rintro e w' ⟨v, hv, rfl, ⟨rfl, h1⟩, h2⟩
      exact ⟨_, rfl, by simp [tH, bc_len, hv], tH_one _, ⟨fun h => by omega, fun h => by omega, fun _ j _ => tH_at _ j⟩, h1, h2⟩

/-- A thing that is cut off: a fault. -/
theorem took_cut {B b : Nat} {s : ByteArray} {p m : Nat} {q : Int} {w : World} {a : Nat → Addr} {A : Array Value} {kd n wd : Int} {t : ByteArray} {lh F : List UInt8} (hS : Sent B w a) (hb : B ≤ b) (h : Rd w b s p .nilIface q) (hp : p ≤ s.size) (hs : s.size ≤ 1000000000000)
    (hT : Tf A kd n wd t lh) (hfm : fmT kd n wd t lh = some F) (hwt : kd % 4 = 2 → wd = t.size) (htb : t.size ≤ 1048576) (hm : m < F.length) (hd : s.data.toList.drop p = F.take m) :
    Calls Tryd.prog 7 #[.pointer (some ⟨b, 0, none⟩), .agg A] w fun e w' => ∃ V, e = .returned (.agg V) ∧ (∃ p' q' : Int, Rd w' b s p' (sen (a 2)) q') ∧ Fr (fun j => j = b) w w' := by
  have hbl := heap_lt h
  have hsm : s.size ≤ maxLen := by unfold maxLen; omega
  have hNB := hS.hB
  have hsz := hS.hsz
  have hdl := drop_len s p
  rw [hd, List.length_take] at hdl
  have hn1 := hT.n1
  have hn2 := hT.n2
  obtain ⟨N, rfl⟩ : ∃ N : Nat, n = N := ⟨n.toNat, by omega⟩
  have hA := hT.g
  have h4 : kd % 4 = 0 ∨ kd % 4 = 1 ∨ kd % 4 = 2 ∨ kd % 4 = 3 := by omega
  rcases h4 with h4 | h4 | h4 | h4
  · obtain ⟨w1, w8, hN, hF⟩ := fm0 hfm h4
    obtain ⟨m', rfl⟩ : ∃ m' : Nat, wd = m' := ⟨wd.toNat, by omega⟩
    rw [Int.toNat_natCast, Int.toNat_natCast] at hF
    have hFl : F.length = m' := by rw [hF, fixB_len]
    refine (took0 b A kd m' w (fun v w' => ∃ p' q' : Int, Rd w' b s p' (sen (a 2)) q') hbl hA.size hA.k hA.w hA.k1 hA.k2 h4 (fun w1 f1 => ?_) (fun v w' w'' S hv hf hS => by obtain ⟨p', q', hv⟩ := hv; exact ⟨p', q', hv.fr hf hS⟩)).mono ?_
    · have hS1 := hS.fr f1 (fun _ _ f => f)
      have fs := f1.size
      refine (rfixed_short b s p m' q (a 2) w1 (h.fr f1 (fun f => f)) hp (by omega) (by omega) (by omega) hsm hS1.c2 (by omega) (by omega)).mono ?_
      rintro e w' ⟨rfl, ⟨p', h'⟩, hf⟩
      exact ⟨_, rfl, ⟨p', _, h'⟩, hf⟩
    · rintro e w' ⟨v, rfl, h1, h2⟩; exact ⟨_, rfl, h1, h2⟩
  · have hF := fm1 hfm h4
    rw [Int.toNat_natCast] at hF
    have hv : rvGo 0 (s.data.toList.drop p) = none := by rw [hd, hF]; exact rv_cut m N 0 (by rw [← hF]; exact hm)
    refine (took1 b A kd w (fun v w' => ∃ p' q' : Int, Rd w' b s p' (sen (a 2)) q') hbl hA.size hA.k hA.k1 hA.k2 h4 (fun w1 f1 => ?_) (fun v w' w'' S hv hf hS => by obtain ⟨p', q', hv⟩ := hv; exact ⟨p', q', hv.fr hf hS⟩)).mono ?_
    · have hS1 := hS.fr f1 (fun _ _ f => f)
      have fs := f1.size
      refine (rvar_no b s p q (a 2) w1 (h.fr f1 (fun f => f)) hp hsm hv hS1.c2 (by omega) (by omega)).mono ?_
      rintro e w' ⟨rfl, ⟨p', h'⟩, hf⟩
      exact ⟨_, rfl, ⟨p', _, h'⟩, hf⟩
    · rintro e w' ⟨v, rfl, h1, h2⟩; exact ⟨_, rfl, h1, h2⟩
  · have hF := fm2 hfm h4
    have hw := hwt h4
    subst hw
    have hts : t.data.toList.length = t.size := by rw [Array.length_toList]; rfl
    have hFl : F.length = (varB t.size).length + t.size := by rw [hF, List.length_append, hts]
    refine (took2 b A kd t.size w (fun v w' => ∃ p' q' : Int, Rd w' b s p' (sen (a 2)) q') hbl hA.size hA.k hA.w hA.k1 hA.k2 h4 (fun w1 f1 => ?_) (fun v w' w'' S hv hf hS => by obtain ⟨p', q', hv⟩ := hv; exact ⟨p', q', hv.fr hf hS⟩)).mono ?_
    · have hS1 := hS.fr f1 (fun _ _ f => f)
      have fs := f1.size
      by_cases hmk : m < (varB t.size).length
      · have hv : rvGo 0 (s.data.toList.drop p) = none := by rw [hd, hF, List.take_append_of_le_length (by omega)]; exact rv_cut m t.size 0 hmk
        refine (rtext_form b s p t.size q (a 2) w1 (h.fr f1 (fun f => f)) hp hsm (by omega) hv hS1.c2 (by omega) (by omega)).mono ?_
        rintro e w' ⟨rfl, ⟨p', h'⟩, hf⟩
        exact ⟨_, rfl, ⟨p', _, h'⟩, hf⟩
      · have hv : rvGo 0 (s.data.toList.drop p) = some (t.size, (varB t.size).length) := by
          rw [hd, hF, List.take_append, List.take_of_length_le (by omega)]
          exact rv_put 9 0 t.size _ (by omega) (by omega) (fun h => by omega)
        refine (rtext_short b s p t.size (varB t.size).length t.size q (a 2) w1 (h.fr f1 (fun f => f)) hp (by omega) hv (by omega) (by omega) (by omega) hS1.c2 (by omega) (by omega)).mono ?_
        rintro e w' ⟨rfl, ⟨p', h'⟩, hf⟩
        exact ⟨_, rfl, ⟨p', _, h'⟩, hf⟩
    · rintro e w' ⟨v, rfl, h1, h2⟩; exact ⟨_, rfl, h1, h2⟩
  · have hF := fm3 hfm h4
    subst hF
    have hl := hT.hl
    refine (took3 b A kd w (fun v w' => ∃ p' q' : Int, Rd w' b s p' (sen (a 2)) q') hbl hA.size hA.k hA.k1 hA.k2 h4 (fun w1 f1 => ?_) (fun v w' w'' S hv hf hS => by obtain ⟨p', q', hv⟩ := hv; exact ⟨p', q', hv.fr hf hS⟩)).mono ?_
    · have hS1 := hS.fr f1 (fun _ _ f => f)
      have fs := f1.size
      refine (rhash_short b s p q (a 2) w1 (h.fr f1 (fun f => f)) hp (by omega) hsm hS1.c2 (by omega) (by omega)).mono ?_
      rintro e w' ⟨rfl, ⟨p', h'⟩, hf⟩
      exact ⟨List.replicate 32 0, by simp, rfl, ⟨p', _, h'⟩, hf⟩
    · rintro e w' ⟨v, hv, rfl, h1, h2⟩; exact ⟨_, rfl, h1, h2⟩

/-- Where the things that were taken lie, and their forms. -/
theorem flatA_get : ∀ (ks : List Kt) (k : Nat) (x : Kt), (∀ y ∈ ks, y.A.size = 37) → ks[k]? = some x → ∀ j u, x.A[j]? = some u → (flatA ks)[k * 37 + j]? = some u
  | [], k, x, _, h, _, _, _ => by simp at h
  | y :: r, 0, x, hs, h, j, u, hj => by
    simp at h
    subst h
    have h37 := hs y (by simp)
    have hjl : j < 37 := by
      have := (Array.getElem?_eq_some_iff.1 hj).1
      omega
    show ((y.A.toList) ++ flatA r)[0 * 37 + j]? = some u
    rw [List.getElem?_append_left (by rw [Array.length_toList]; omega), Nat.zero_mul, Nat.zero_add]
    simpa using hj
  | y :: r, k + 1, x, hs, h, j, u, hj => by
    have h37 := hs y (by simp)
    have := flatA_get r k x (fun z hz => hs z (by simp [hz])) (by simpa using h) j u hj
    show ((y.A.toList) ++ flatA r)[(k + 1) * 37 + j]? = some u
    rw [List.getElem?_append_right (by rw [Array.length_toList]; omega), Array.length_toList, h37, show (k + 1) * 37 + j - 37 = k * 37 + j by omega]
    exact this
theorem flatF_take : ∀ (ks : List Kt) (k : Nat) (x : Kt), ks[k]? = some x → (flatF ks).drop (flatF (ks.take k)).length = x.F ++ flatF (ks.drop (k + 1)) ∧ (flatF (ks.take (k + 1))).length = (flatF (ks.take k)).length + x.F.length
  | [], k, x, h => by simp at h
  | y :: r, 0, x, h => by
    simp at h
    subst h
    simp [flatF]
  | y :: r, k + 1, x, h => by
    obtain ⟨h1, h2⟩ := flatF_take r k x (by simpa using h)
    have e : flatF (y :: r) = y.F ++ flatF r := by simp [flatF]
    have e1 : ∀ l, flatF (y :: l) = y.F ++ flatF l := fun l => by simp [flatF]
    rw [List.take_succ_cons, List.take_succ_cons, e1, e1, e1, List.length_append, List.length_append, ← List.drop_drop, List.drop_left, List.drop_succ_cons]
    exact ⟨h1, by omega⟩
end Go.Proofs.YtebbgpnhkpbefaaDoor
