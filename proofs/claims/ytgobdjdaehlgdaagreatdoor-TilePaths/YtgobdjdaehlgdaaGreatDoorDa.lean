/- The document's digits of a number. -/
import Derived.Test.YtgobdjdaehlgdaaGreatDoorRh
import Derived.Laws.AppendOwn
import Derived.Lib.ItoaLen
namespace Go.Proofs.YtgobdjdaehlgdaaGreatDoor.Rf
open Go.RowKit
set_option linter.unusedVariables false
set_option linter.unusedSimpArgs false
/-- How long a list is. -/
def slLen : Value → Nat
  | .slice _ n _ => n
  | _ => 0
theorem dd_step (u m : Nat) (l : List UInt8) (h : Lib.decDigits u = (if m = 0 ∧ l ≠ [] then [] else Lib.decDigits m) ++ l.reverse) (hc : ¬ (m = 0 ∧ l ≠ [])) :
    Lib.decDigits u = (if m / 10 = 0 ∧ l ++ [UInt8.ofNat (48 + m % 10)] ≠ [] then [] else Lib.decDigits (m / 10)) ++ (l ++ [UInt8.ofNat (48 + m % 10)]).reverse := by
  rw [if_neg hc] at h
  rw [h, List.reverse_append]
  rw [Lib.decDigits]
  by_cases h10 : m < 10
  · rw [dif_pos h10, if_pos ⟨by omega, by simp⟩, Nat.mod_eq_of_lt h10]; rfl
  · rw [dif_neg h10, if_neg (by omega)]; simp
theorem drop_rev (l : List UInt8) (k : Nat) (h : k < l.length) : (l.drop k).reverse = (l.drop (k + 1)).reverse ++ [l.getD k 0] := by
  rw [List.drop_eq_getElem_cons h, List.reverse_cons, List.getD_eq_getElem?_getD, List.getElem?_eq_getElem h]; rfl
set_option maxRecDepth 100000 in
set_option maxHeartbeats 2000000 in
theorem refdec_any (u : Nat) (hu : u < 18446744073709551616) (w : World) :
    Calls Tryz.prog 128 #[.int .u64 u] w fun e w' => e = .returned (.string ⟨(Lib.decDigits u).toArray⟩) ∧ Nw w w' := by
  obtain ⟨i0, hi, hz0, hz1, hz2⟩ := info_parts8
  have hz2i := hz2
  clear hz2
  go_enter Tryz.func128, Tryz.ntmps128
  go_wp2
  go_loopw [0, 3] (fun n b wr => ∃ (m : Nat) (l : List UInt8), n = .int .u64 m ∧ Own w.heap.size wr b l ∧ Below w.heap.size w wr ∧ l.length ≤ 20 ∧ m < 10 ^ (20 - l.length) ∧ m < 18446744073709551616 ∧ Lib.decDigits u = (if m = 0 ∧ l ≠ [] then [] else Lib.decDigits m) ++ l.reverse) (fun n b _ => (intOf n).toNat + (if slLen b = 0 then 1 else 0))
  case atStart => exact ⟨u, [], rfl, World.ownsRow_nil _ _ _ _, Below.refl _ _, by simp, by simp; omega, hu, by simp⟩
  case round =>
    obtain ⟨m, l, rfl, ho, hb, hl, hm, hm64, hd⟩ := hrel
    obtain ⟨wo, hwo⟩ : ∃ x, x = wr := ⟨_, rfl⟩
    subst hwo
    have HM : Hid (m < 10 ^ (20 - l.length)) := hm
    have HD : Hid (Lib.decDigits u = (if m = 0 ∧ l ≠ [] then [] else Lib.decDigits m) ++ l.reverse) := hd
    clear hm hd
    have hsz : w.heap.size ≤ wo.heap.size := hb.size
    obtain ⟨ca, cc, rfl⟩ := ownsRow_form ho
    by_cases hc : m = 0 ∧ l ≠ []
    · obtain ⟨hm0, hne⟩ := hc
      have HD2 : Hid (Lib.decDigits u = l.reverse) := by unfold Hid; rw [HD.out, if_pos ⟨hm0, hne⟩]; rfl
      have hmz : ¬ (0 : Int) < (m : Int) := by omega
      clear hm0
      have hl0 : ¬ l.length = 0 := fun e => hne (List.eq_nil_of_length_eq_zero e)
      have hlz : ((l.length : Int) == 0) = false := by rw [beq_eq_false_iff_ne]; omega
      have HC : Hid (∀ k, k < l.length → ∃ g, ca = some ⟨g, 0, none⟩ ∧ wo.cell? ⟨g, k, none⟩ = some (.int .u8 ((l.getD k 0).toNat : Nat))) := by
        intro k hk
        rcases ho.2 with ⟨h, hn⟩ | ⟨g, cap, cur, h, _⟩
        · omega
        · simp only [Value.slice.injEq] at h
          obtain ⟨rfl, _, rfl⟩ := h
          refine ⟨g, rfl, ?_⟩
          have := ho.cells (g := g) rfl k (.int .u8 ((l.getD k 0).toNat : Nat)) (by simp [bc, List.getD_eq_getElem?_getD, List.getElem?_eq_getElem hk])
          rw [addZ] at this
          exact this
      clear HD HM hne
      go_wp2
      go_loopw [4, 5] (fun b i wq => ∃ (k : Nat), k ≤ l.length ∧ i = .int .i64 ((k : Int) - 1) ∧ Own wo.heap.size wq b (l.drop k).reverse ∧ Below wo.heap.size wo wq) (fun _ i _ => (intOf i + 1).toNat)
      case atStart => exact ⟨l.length, by omega, rfl, by rw [List.drop_length]; exact World.ownsRow_nil _ _ _ _, Below.refl _ _⟩
      case round =>
        obtain ⟨k, hk, rfl, hoq, hbq⟩ := hrel
        have hsq : wo.heap.size ≤ wr.heap.size := hbq.size
        by_cases hk0 : k = 0
        · subst hk0
          have hz : ¬ (0 : Int) ≤ ((0 : Nat) : Int) - 1 := by omega
          rw [List.drop_zero] at hoq
          obtain ⟨R, hR⟩ : ∃ R, R = l.reverse := ⟨_, rfl⟩
          have HR : Hid (R = l.reverse) := hR
          rw [← hR] at hoq
          clear hR
          have hcv := conv_own hoq
          obtain ⟨qa, qc, rfl⟩ := ownsRow_form hoq
          go_wp2
          go_ret
          exact ⟨by rw [HD2.out, ← HR.out]; rfl, Fr.ofBelow (hb.trans (hbq.mono hsz))⟩
        · obtain ⟨j, rfl⟩ : ∃ j, k = j + 1 := ⟨k - 1, by omega⟩
          obtain ⟨g, rfl, hcell⟩ := HC.out j (by omega)
          have hnwq : Nw wo wr := Fr.ofBelow hbq
          have hcell2 := hnwq.cellOf hcell
          have HDR : Hid ((l.drop j).reverse = (l.drop (j + 1)).reverse ++ [l.getD j 0]) := drop_rev l j (by omega)
          have hrl : (l.drop (j + 1)).reverse.length ≤ 20 := by simp; omega
          rw [show (((j + 1 : Nat) : Int) - 1) = (j : Int) by omega]
          generalize (l.drop (j + 1)).reverse = R at hoq HDR hrl
          obtain ⟨qa, qc, rfl⟩ := ownsRow_form hoq
          generalize l.getD j 0 = cj at hcell2 HDR
          go_wp2_with (at_builtin; refine wpList_append_own _ rfl _ _ 92 rfl wo.heap.size 5 i0 (.int .u8 0) 1 1 Tryz.underlying92 hi hz0 hz1 hz2i rfl (by decide) _ _ _ rfl (hoq.alloc _) ⟨wr.heap.size, 0, none⟩ 1 1 [.int .u8 _] rfl rfl (one_new _ _ _) (by simp [Value.oneCell']) (by unfold maxLen; omega) (by omega) (by simp; omega) ?_; intro v' w3 hown' hgrow _; obtain ⟨ga, gc, rfl⟩ := ownsRow_form hown')
          obtain ⟨h5, h6⟩ := own_put hbq hoq rfl hown' rfl hgrow (Nat.le_refl _)
          exact ⟨⟨j, by omega, by go_num, by rw [HDR.out]; exact h5, h6⟩, by simp [intOf]⟩
    · have hdd := dd_step u m l HD.out hc
      have HD2 : Hid (Lib.decDigits u = (if m / 10 = 0 ∧ l ++ [UInt8.ofNat (48 + m % 10)] ≠ [] then [] else Lib.decDigits (m / 10)) ++ (l ++ [UInt8.ofNat (48 + m % 10)]).reverse) := hdd
      clear hdd HD
      have hl19 : l.length ≤ 19 := by
        rcases Nat.lt_or_ge l.length 20 with h | h
        · omega
        · exfalso
          have h20 : l.length = 20 := by omega
          have hm := HM.out
          rw [h20] at hm
          exact hc ⟨by simp at hm; omega, fun e => by rw [e] at h20; simp at h20⟩
      have HM2 : Hid (m / 10 < 10 ^ (20 - (l.length + 1))) := by
        unfold Hid
        apply Nat.div_lt_of_lt_mul
        have hm := HM.out
        rw [show 20 - l.length = (20 - (l.length + 1)) + 1 by omega, Nat.pow_succ] at hm
        omega
      clear HM
      have hd8 : (48 + (m : Int) % 10) = ((UInt8.ofNat (48 + m % 10)).toNat : Int) := by
        rw [UInt8.toNat_ofNat', Nat.mod_eq_of_lt (by omega)]; omega
      have hif : (0 < m) ∨ (m = 0 ∧ l.length = 0) := by
        rcases Nat.eq_zero_or_pos m with h | h
        · refine .inr ⟨h, ?_⟩
          rcases Nat.eq_zero_or_pos l.length with h2 | h2
          · exact h2
          · exact absurd ⟨h, fun e => by rw [e] at h2; simp at h2⟩ hc
        · exact .inl h
      clear hc
      generalize UInt8.ofNat (48 + m % 10) = d8 at HD2 hd8
      rcases hif with hpos | ⟨rfl, hl0⟩
      · have hpz : (0 : Int) < (m : Int) := by omega
        go_wp2_with (at_builtin; refine wpList_append_own _ rfl _ _ 92 rfl w.heap.size 5 i0 (.int .u8 0) 1 1 Tryz.underlying92 hi hz0 hz1 hz2i rfl (by decide) _ _ _ rfl (ho.alloc _) ⟨wo.heap.size, 0, none⟩ 1 1 [.int .u8 _] rfl rfl (one_new _ _ _) (by simp [Value.oneCell']) (by unfold maxLen; omega) (by omega) (by simp; omega) ?_; intro v' w3 hown' hgrow _; obtain ⟨ga, gc, rfl⟩ := ownsRow_form hown')
        obtain ⟨h5, h6⟩ := own_put (c := d8) hb ho (by omega) hown' rfl hgrow (Nat.le_refl _)
        exact ⟨⟨m / 10, l ++ [d8], by go_num, h5, h6, by simp; omega, by rw [List.length_append]; exact HM2.out, by omega, HD2.out⟩, by simp [intOf, slLen]; omega⟩
      · have hpz : ¬ (0 : Int) < ((0 : Nat) : Int) := by omega
        obtain rfl : l = [] := List.eq_nil_of_length_eq_zero hl0
        go_wp2_with (at_builtin; refine wpList_append_own _ rfl _ _ 92 rfl w.heap.size 5 i0 (.int .u8 0) 1 1 Tryz.underlying92 hi hz0 hz1 hz2i rfl (by decide) _ _ _ rfl (ho.alloc _) ⟨wo.heap.size, 0, none⟩ 1 1 [.int .u8 _] rfl rfl (one_new _ _ _) (by simp [Value.oneCell']) (by unfold maxLen; omega) (by omega) (by simp; omega) ?_; intro v' w3 hown' hgrow _; obtain ⟨ga, gc, rfl⟩ := ownsRow_form hown')
        obtain ⟨h5, h6⟩ := own_put (c := d8) hb ho (by omega) hown' rfl hgrow (Nat.le_refl _)
        exact ⟨⟨0, [] ++ [d8], by go_num, h5, h6, by simp, by rw [List.length_append]; exact HM2.out, by omega, HD2.out⟩, by simp [intOf, slLen]⟩
end Go.Proofs.YtgobdjdaehlgdaaGreatDoor.Rf
