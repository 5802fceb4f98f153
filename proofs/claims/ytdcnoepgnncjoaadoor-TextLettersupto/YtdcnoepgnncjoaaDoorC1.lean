/- The document's own number of a letter, digits of a number. -/
import Derived.Test.YtdcnoepgnncjoaaDoorH3
import Derived.Test.YtdcnoepgnncjoaaDoorE6
import Derived.Test.YtdcnoepgnncjoaaDoorA13
namespace Go.Proofs.YtdcnoepgnncjoaaDoor
open Go.RowKit
set_option linter.unusedVariables false
set_option linter.unusedSimpArgs false

/-- An index behind k. -/
def ish (k : Nat) (m : Int) : Int := if m = -1 then -1 else m + k
theorem ix_step (L : List UInt8) (c : UInt8) (k : Nat) (h : k < L.length) : ish k (ix (L.drop k) c) = if C L k = c then (k : Int) else ish (k + 1) (ix (L.drop (k + 1)) c) := by
  rw [drop_C L k h]
  generalize L.drop (k + 1) = r
  have hg := ix_ge r c
  have e : ix (C L k :: r) c = if C L k == c then 0 else (if ix r c == -1 then -1 else ix r c + 1) := rfl
  rw [e]
  generalize ix r c = m at hg
  unfold ish
  by_cases hc : C L k = c
  · simp [hc]
  · simp only [beq_iff_eq, hc, if_false]
    by_cases hm : m = -1
    · simp [hm]
    · rw [if_neg hm, if_neg hm, if_neg (by omega)]
      omega
set_option maxHeartbeats 1000000 in
theorem number_any (s : ByteArray) (c : UInt8) (w : World) (hs : s.size ≤ 1048576) :
    Calls Tryd.prog 31 #[.string s, .int .u8 (c.toNat : Nat)] w fun e w' => e = .returned (.int .i64 (ix s.data.toList c)) ∧ w' = w := by
  have hlen : s.data.toList.length = s.size := by rw [Array.length_toList]; rfl
  have HC : Hid (∀ k (h : k < s.size), s[k]'h = C s.data.toList k) := fun k h => C_get s k h
  have HST : Hid (∀ k, k < s.size → ish k (ix (s.data.toList.drop k) c) = if C s.data.toList k = c then (k : Int) else ish (k + 1) (ix (s.data.toList.drop (k + 1)) c)) := fun k h => ix_step _ c k (by omega)
  have H0 : Hid (ix s.data.toList c = ish 0 (ix (s.data.toList.drop 0) c)) := by
    unfold Hid ish
    rw [List.drop_zero]
    split <;> simp [*]
  have HE : Hid (ish s.size (ix (s.data.toList.drop s.size) c) = -1) := by
    unfold Hid
    rw [List.drop_of_length_le (by omega)]; rfl
  generalize s.data.toList = L at H0 HC HST HE hlen
  clear hlen
  go_enter Tryd.func31, Tryd.ntmps31
  go_wp2
  go_loop [5] (fun i => ∃ k : Nat, k ≤ s.size ∧ i = .int .i64 k ∧ ix L c = ish k (ix (L.drop k) c)) (fun i => s.size - (intOf i).toNat)
  case atStart => exact ⟨0, by omega, rfl, H0.out⟩
  case round =>
    obtain ⟨k, hk, rfl, hix⟩ := hrel
    have HIX : Hid (ix L c = ish k (ix (L.drop k) c)) := hix
    clear hix
    by_cases hlt : k < s.size
    · have hck := HC.out k hlt
      by_cases hc : C L k = c
      · have hceq : (((C L k).toNat : Int) == (c.toNat : Int)) = true := by rw [hc]; simp
        have HIX2 : Hid (ix L c = k) := by unfold Hid; rw [HIX.out, HST.out k hlt, if_pos hc]
        clear hc
        go_wp2
        go_ret
        exact ⟨by rw [HIX2.out]; rfl, rfl⟩
      · have hceq : (((C L k).toNat : Int) == (c.toNat : Int)) = false := by
          rw [beq_eq_false_iff_ne]
          intro e
          apply hc
          apply UInt8.toNat_inj.1
          omega
        have HIX2 : Hid (ix L c = ish (k + 1) (ix (L.drop (k + 1)) c)) := by unfold Hid; rw [HIX.out, HST.out k hlt, if_neg hc]
        clear hc
        go_wp2
        exact ⟨⟨k + 1, by omega, by go_num, HIX2.out⟩, by simp [intOf]; omega⟩
    · obtain rfl : k = s.size := by omega
      have HIX2 : Hid (ix L c = -1) := by unfold Hid; rw [HIX.out, HE.out]
      go_wp2
      go_ret
      exact ⟨by rw [HIX2.out]; rfl, rfl⟩
/-- How long a list is. -/
def slLen : Value → Nat
  | .slice _ n _ => n
  | _ => 0
theorem dd_step (u m : Nat) (l : List UInt8) (h : Lib.decDigits u = (if m = 0 ∧ l ≠ [] then [] else Lib.decDigits m) ++ l.reverse) (hc : ¬ (m = 0 ∧ l ≠ [])) :
    Lib.decDigits u = (if m / 10 = 0 ∧ l ++ [UInt8.ofNat (48 + m % 10)] ≠ [] then [] else Lib.decDigits (m / 10)) ++ (l ++ [UInt8.ofNat (48 + m % 10)]).reverse := by
  rw [if_neg hc] at h
  rw [h, List.reverse_append]
  rw [Lib.decDigits]
  by_cases h10 : m < 10
  · rw [dif_pos h10, if_pos ⟨by omega, by simp⟩, Nat.mod_eq_of_lt h10]; rfl
  · rw [dif_neg h10, if_neg (by omega)]; simp
theorem drop_rev (l : List UInt8) (k : Nat) (h : k < l.length) : (l.drop k).reverse = (l.drop (k + 1)).reverse ++ [l.getD k 0] := by
  rw [List.drop_eq_getElem_cons h, List.reverse_cons, List.getD_eq_getElem?_getD, List.getElem?_eq_getElem h]; rfl
set_option maxRecDepth 100000 in
set_option maxHeartbeats 2000000 in
theorem refdec_any (u : Nat) (hu : u < 18446744073709551616) (w : World) :
    Calls Tryd.prog 21 #[.int .u64 u] w fun e w' => e = .returned (.string ⟨(Lib.decDigits u).toArray⟩) ∧ Nw w w' := by
  obtain ⟨i0, hi, hz0, hz1, hz2⟩ := info_parts8
  have hz2i := hz2
  clear hz2
  go_enter Tryd.func21, Tryd.ntmps21
  go_wp2
  go_loopw [0, 3] (fun n b wr => ∃ (m : Nat) (l : List UInt8), n = .int .u64 m ∧ Own w.heap.size wr b l ∧ Below w.heap.size w wr ∧ l.length ≤ 20 ∧ m < 10 ^ (20 - l.length) ∧ m < 18446744073709551616 ∧ Lib.decDigits u = (if m = 0 ∧ l ≠ [] then [] else Lib.decDigits m) ++ l.reverse) (fun n b _ => (intOf n).toNat + (if slLen b = 0 then 1 else 0))
  case atStart => exact ⟨u, [], rfl, World.ownsRow_nil _ _ _ _, Below.refl _ _, by simp, by simp; omega, hu, by simp⟩
  case round =>
    obtain ⟨m, l, rfl, ho, hb, hl, hm, hm64, hd⟩ := hrel
    obtain ⟨wo, hwo⟩ : ∃ x, x = wr := ⟨_, rfl⟩
    subst hwo
    have HM : Hid (m < 10 ^ (20 - l.length)) := hm
    have HD : Hid (Lib.decDigits u = (if m = 0 ∧ l ≠ [] then [] else Lib.decDigits m) ++ l.reverse) := hd
    clear hm hd
    have hsz : w.heap.size ≤ wo.heap.size := hb.size
    obtain ⟨ca, cc, rfl⟩ := ownsRow_form ho
    by_cases hc : m = 0 ∧ l ≠ []
    · obtain ⟨hm0, hne⟩ := hc
      have HD2 : Hid (Lib.decDigits u = l.reverse) := by unfold Hid; rw [HD.out, if_pos ⟨hm0, hne⟩]; rfl
      have hmz : ¬ (0 : Int) < (m : Int) := by omega
      clear hm0
      have hl0 : ¬ l.length = 0 := fun e => hne (List.eq_nil_of_length_eq_zero e)
      have hlz : ((l.length : Int) == 0) = false := by rw [beq_eq_false_iff_ne]; omega
      have HC : Hid (∀ k, k < l.length → ∃ g, ca = some ⟨g, 0, none⟩ ∧ wo.cell? ⟨g, k, none⟩ = some (.int .u8 ((l.getD k 0).toNat : Nat))) := by
        intro k hk
        rcases ho.2 with ⟨h, hn⟩ | ⟨g, cap, cur, h, _⟩
        · omega
        · simp only [Value.slice.injEq] at h
          obtain ⟨rfl, _, rfl⟩ := h
          refine ⟨g, rfl, ?_⟩
          have := ho.cells (g := g) rfl k (.int .u8 ((l.getD k 0).toNat : Nat)) (by simp [bc, List.getD_eq_getElem?_getD, List.getElem?_eq_getElem hk])
          rw [addZ] at this
          exact this
      clear HD HM hne
      go_wp2
      go_loopw [4, 5] (fun b i wq => ∃ (k : Nat), k ≤ l.length ∧ i = .int .i64 ((k : Int) - 1) ∧ Own wo.heap.size wq b (l.drop k).reverse ∧ Below wo.heap.size wo wq) (fun _ i _ => (intOf i + 1).toNat)
      case atStart => exact ⟨l.length, by omega, rfl, by rw [List.drop_length]; exact World.ownsRow_nil _ _ _ _, Below.refl _ _⟩
      case round =>
        obtain ⟨k, hk, rfl, hoq, hbq⟩ := hrel
        have hsq : wo.heap.size ≤ wr.heap.size := hbq.size
        by_cases hk0 : k = 0
        · subst hk0
          have hz : ¬ (0 : Int) ≤ ((0 : Nat) : Int) - 1 := by omega
          rw [List.drop_zero] at hoq
          obtain ⟨R, hR⟩ : ∃ R, R = l.reverse := ⟨_, rfl⟩
          have HR : Hid (R = l.reverse) := hR
          rw [← hR] at hoq
          clear hR
          have hcv := conv_own hoq
          obtain ⟨qa, qc, rfl⟩ := ownsRow_form hoq
          go_wp2
          go_ret
          exact ⟨by rw [HD2.out, ← HR.out]; rfl, Fr.ofBelow (hb.trans (hbq.mono hsz))⟩
        · obtain ⟨j, rfl⟩ : ∃ j, k = j + 1 := ⟨k - 1, by omega⟩
          obtain ⟨g, rfl, hcell⟩ := HC.out j (by omega)
          have hnwq : Nw wo wr := Fr.ofBelow hbq
          have hcell2 := hnwq.cellOf hcell
          have HDR : Hid ((l.drop j).reverse = (l.drop (j + 1)).reverse ++ [l.getD j 0]) := drop_rev l j (by omega)
          have hrl : (l.drop (j + 1)).reverse.length ≤ 20 := by simp; omega
          rw [show (((j + 1 : Nat) : Int) - 1) = (j : Int) by omega]
          generalize (l.drop (j + 1)).reverse = R at hoq HDR hrl
          obtain ⟨qa, qc, rfl⟩ := ownsRow_form hoq
          generalize l.getD j 0 = cj at hcell2 HDR
          go_wp2_with (at_builtin; refine wpList_append_own _ rfl _ _ 43 rfl wo.heap.size 5 i0 (.int .u8 0) 1 1 Tryd.underlying43 hi hz0 hz1 hz2i rfl (by decide) _ _ _ rfl (hoq.alloc _) ⟨wr.heap.size, 0, none⟩ 1 1 [.int .u8 _] rfl rfl (one_new _ _ _) (by simp [Value.oneCell']) (by unfold maxLen; omega) (by omega) (by simp; omega) ?_; intro v' w3 hown' hgrow _; obtain ⟨ga, gc, rfl⟩ := ownsRow_form hown')
          obtain ⟨h5, h6⟩ := own_put hbq hoq rfl hown' rfl hgrow (Nat.le_refl _)
          exact ⟨⟨j, by omega, by go_num, by rw [HDR.out]; exact h5, h6⟩, by simp [intOf]⟩
    · have hdd := dd_step u m l HD.out hc
      have HD2 : Hid (Lib.decDigits u = (if m / 10 = 0 ∧ l ++ [UInt8.ofNat (48 + m % 10)] ≠ [] then [] else Lib.decDigits (m / 10)) ++ (l ++ [UInt8.ofNat (48 + m % 10)]).reverse) := hdd
      clear hdd HD
      have hl19 : l.length ≤ 19 := by
        rcases Nat.lt_or_ge l.length 20 with h | h
        · omega
        · exfalso
          have h20 : l.length = 20 := by omega
          have hm := HM.out
          rw [h20] at hm
          exact hc ⟨by simp at hm; omega, fun e => by rw [e] at h20; simp at h20⟩
      have HM2 : Hid (m / 10 < 10 ^ (20 - (l.length + 1))) := by
        unfold Hid
        apply Nat.div_lt_of_lt_mul
        have hm := HM.out
        rw [show 20 - l.length = (20 - (l.length + 1)) + 1 by omega, Nat.pow_succ] at hm
        omega
      clear HM
      have hd8 : (48 + (m : Int) % 10) = ((UInt8.ofNat (48 + m % 10)).toNat : Int) := by
        rw [UInt8.toNat_ofNat', Nat.mod_eq_of_lt (by omega)]; omega
      have hif : (0 < m) ∨ (m = 0 ∧ l.length = 0) := by
        rcases Nat.eq_zero_or_pos m with h | h
        · refine .inr ⟨h, ?_⟩
          rcases Nat.eq_zero_or_pos l.length with h2 | h2
          · exact h2
          · exact absurd ⟨h, fun e => by rw [e] at h2; simp at h2⟩ hc
        · exact .inl h
      clear hc
      generalize UInt8.ofNat (48 + m % 10) = d8 at HD2 hd8
      rcases hif with hpos | ⟨rfl, hl0⟩
      · have hpz : (0 : Int) < (m : Int) := by omega
        go_wp2_with (at_builtin; refine wpList_append_own _ rfl _ _ 43 rfl w.heap.size 5 i0 (.int .u8 0) 1 1 Tryd.underlying43 hi hz0 hz1 hz2i rfl (by decide) _ _ _ rfl (ho.alloc _) ⟨wo.heap.size, 0, none⟩ 1 1 [.int .u8 _] rfl rfl (one_new _ _ _) (by simp [Value.oneCell']) (by unfold maxLen; omega) (by omega) (by simp; omega) ?_; intro v' w3 hown' hgrow _; obtain ⟨ga, gc, rfl⟩ := ownsRow_form hown')
        obtain ⟨h5, h6⟩ := own_put (c := d8) hb ho (by omega) hown' rfl hgrow (Nat.le_refl _)
        exact ⟨⟨m / 10, l ++ [d8], by go_num, h5, h6, by simp; omega, by rw [List.length_append]; exact HM2.out, by omega, HD2.out⟩, by simp [intOf, slLen]; omega⟩
      · have hpz : ¬ (0 : Int) < ((0 : Nat) : Int) := by omega
        obtain rfl : l = [] := List.eq_nil_of_length_eq_zero hl0
        go_wp2_with (at_builtin; refine wpList_append_own _ rfl _ _ 43 rfl w.heap.size 5 i0 (.int .u8 0) 1 1 Tryd.underlying43 hi hz0 hz1 hz2i rfl (by decide) _ _ _ rfl (ho.alloc _) ⟨wo.heap.size, 0, none⟩ 1 1 [.int .u8 _] rfl rfl (one_new _ _ _) (by simp [Value.oneCell']) (by unfold maxLen; omega) (by omega) (by simp; omega) ?_; intro v' w3 hown' hgrow _; obtain ⟨ga, gc, rfl⟩ := ownsRow_form hown')
        obtain ⟨h5, h6⟩ := own_put (c := d8) hb ho (by omega) hown' rfl hgrow (Nat.le_refl _)
        exact ⟨⟨0, [] ++ [d8], by go_num, h5, h6, by simp, by rw [List.length_append]; exact HM2.out, by omega, HD2.out⟩, by simp [intOf, slLen]⟩
end Go.Proofs.YtdcnoepgnncjoaaDoor
