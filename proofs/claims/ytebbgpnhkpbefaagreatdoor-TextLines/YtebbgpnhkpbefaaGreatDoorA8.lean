/- What FromDecimal answers. -/
import Derived.Test.YtebbgpnhkpbefaaGreatDoorA7
namespace Go.Proofs.YtebbgpnhkpbefaaGreatDoor
open Go.RowKit
set_option linter.unusedVariables false
set_option linter.unusedSimpArgs false

abbrev tensB : ByteArray := ⟨#[48, 49, 50, 51, 52, 53, 54, 55, 56, 57]⟩
theorem idx_tens (c : UInt8) (w : World) : Calls Tryz.prog 116 #[.string tensB, .int .u8 c.toNat] w fun e w' => e = .returned (.int .i64 (ix tens c)) ∧ w' = w := by
  have h := Tryz.strings_IndexByte tensB c.toNat w
  have e : ((c.toNat : Int)).toNat.toUInt8 = c := by simp
  rw [e] at h
  exact h
theorem drop_C (l : List UInt8) (k : Nat) (h : k < l.length) : l.drop k = C l k :: l.drop (k + 1) := by
  unfold C
  rw [List.getD_eq_getElem?_getD, List.getElem?_eq_getElem h]
  exact List.drop_eq_getElem_cons h
theorem size_zero (s : ByteArray) (h : s.size = 0) : s = ⟨#[]⟩ := by
  obtain ⟨d⟩ := s
  congr 1
  exact Array.eq_empty_of_size_eq_zero h

theorem em_list (s : ByteArray) : s.toList = s.data.toList := by
  exact ByteArray.toList_eq s
theorem em_no (s : ByteArray) (h : s.size ≠ 0) : s.toList.isEmpty = false := by
  rw [em_list, List.isEmpty_eq_false_iff]
  intro e
  apply h
  have : s.data.toList.length = 0 := by rw [e]; rfl
  rw [Array.length_toList] at this
  exact this

set_option maxRecDepth 100000 in
set_option maxHeartbeats 2000000 in
theorem fromdec_any {B : Nat} {w : World} {a : Nat → Addr} (hS : Sent B w a) (s : ByteArray) (hs : s.size ≤ 9223372036854775807) :
    Calls Tryz.prog 71 #[.string s] w fun e w' => ∃ v, e = .returned (.tuple #[.int .u64 ((rd 0 s (fromdec s.data.toList)).1 : Nat), v]) ∧ EV w' a v (rd 0 s (fromdec s.data.toList)).2.1 (rd 0 s (fromdec s.data.toList)).2.2 ∧ Nw w w' := by
  obtain ⟨L, hL⟩ : ∃ L, L = s.data.toList := ⟨_, rfl⟩
  have hlen : L.length = s.size := by rw [hL, Array.length_toList]; rfl
  have hC : Hid (∀ k (h : k < s.size), s[k]'h = C L k) := fun k h => by rw [hL]; exact C_get s k h
  rw [← hL]
  clear hL
  by_cases hbig : 1048576 < s.size
  · rw [rd_long _ _ _ hbig]
    have hc := hS.c3
    have hbz : (1048576 : Int) < (s.size : Int) := by omega
    go_enter Tryz.func71, Tryz.ntmps71
    go_wp2
    go_quiet (fail)
    go_wp2
    go_ret2
    exact ⟨_, rfl, .inr (.inl ⟨3, by omega, rfl, rfl, rfl⟩), (Fr.refl _ _).drewN _⟩
  · have hbz : ¬ (1048576 : Int) < (s.size : Int) := by omega
    by_cases h0 : s.size = 0
    · have hn : L = [] := List.eq_nil_of_length_eq_zero (by omega)
      have hw := wrong_any hS 0
      obtain rfl := size_zero s h0
      go_enter Tryz.func71, Tryz.ntmps71
      go_wp2_with (go_at_call 15; refine hw.mono ?_; rintro e w3 ⟨v, rfl, hev, hnw3⟩)
      go_ret2
      rw [rd_err _ _ _ hbig 0 (by rw [hn]; rfl)]
      exact ⟨v, rfl, hev, hnw3⟩
    · have hne := em_no s h0
      have hfd : fromdec L = undec 0 0 L := by unfold fromdec; rw [if_neg (fun e => h0 (by rw [← hlen, e]; rfl))]
      rw [hfd]
      clear hfd
      go_enter Tryz.func71, Tryz.ntmps71
      go_wp2
      go_loop [4, 16] (fun n i => ∃ k m : Nat, k ≤ s.size ∧ i = .int .i64 k ∧ n = .int .u64 m ∧ m ≤ 18446744073709551615 ∧ undec 0 0 L = undec k m (L.drop k)) (fun _ i => s.size - (intOf i).toNat)
      case atStart => exact ⟨0, 0, by omega, rfl, rfl, by omega, rfl⟩
      case round =>
        obtain ⟨k, m, hk, rfl, rfl, hm, hsp⟩ := hrel
        by_cases hlt : k < s.size
        · have hck := hC.out k hlt
          have hx1 := ix_lt tens (C L k)
          rw [show (tens.length : Int) = 10 from rfl] at hx1
          have hx0 := ix_ge tens (C L k)
          have hcall := idx_tens (C L k) w
          have hwr := wrong_any hS (k : Int)
          have hun : undec k m (L.drop k) = if ix tens (C L k) < 0 ∨ (0 < k ∧ m = 0) ∨ 18446744073709551615 < 10 * m + (ix tens (C L k)).toNat then .error k else undec (k + 1) (10 * m + (ix tens (C L k)).toNat) (L.drop (k + 1)) := by
            rw [drop_C L k (by omega), undec]
          rw [hun] at hsp
          clear hun
          generalize ix tens (C L k) = X at hx1 hx0 hcall hsp
          by_cases hbad : X < 0 ∨ (0 < k ∧ m = 0) ∨ 18446744073709551615 < 10 * m + X.toNat
          · rw [if_pos hbad] at hsp
            have HSP : Hid (undec 0 0 L = .error k) := hsp
            clear hsp
            have tac : ∀ (v : Value) (w3 : World), EV w3 a v 3 (some (k : Int)) → Nw w w3 → ∃ v', Ending.returned (.tuple #[.int .u64 0, v]) = .returned (.tuple #[.int .u64 ((rd 0 s (undec 0 0 L)).1 : Nat), v']) ∧ EV w3 a v' (rd 0 s (undec 0 0 L)).2.1 (rd 0 s (undec 0 0 L)).2.2 ∧ Nw w w3 := by
              intro v w3 h1 h2
              rw [rd_err _ _ _ hbig _ HSP.out]
              exact ⟨v, rfl, h1, h2⟩
            by_cases c1 : X < 0
            · clear hbad
              go_wp2_with (first
                | (go_at_call 116; refine hcall.mono ?_; rintro e w2 ⟨rfl, rfl⟩)
                | (go_at_call 15; refine hwr.mono ?_; rintro e w3 ⟨v, rfl, hev, hnw3⟩))
              go_ret2
              exact tac v w3 hev hnw3
            · by_cases c2 : 0 < k ∧ m = 0
              · obtain ⟨c2, rfl⟩ := c2
                clear hbad
                have c2z : (0 : Int) < (k : Int) := by omega
                go_wp2_with (first
                  | (go_at_call 116; refine hcall.mono ?_; rintro e w2 ⟨rfl, rfl⟩)
                  | (go_at_call 15; refine hwr.mono ?_; rintro e w3 ⟨v, rfl, hev, hnw3⟩))
                go_ret2
                exact tac v w3 hev hnw3
              · have hov : (18446744073709551615 - X) / 10 < (m : Int) := by omega
                clear hbad
                rcases (show k = 0 ∨ (0 < k ∧ m ≠ 0) by omega) with rfl | ⟨k0, m0⟩
                · go_wp2_with (first
                    | (go_at_call 116; refine hcall.mono ?_; rintro e w2 ⟨rfl, rfl⟩)
                    | (go_at_call 15; refine hwr.mono ?_; rintro e w3 ⟨v, rfl, hev, hnw3⟩))
                  go_ret2
                  exact tac v w3 hev hnw3
                · have c2z : (0 : Int) < (k : Int) := by omega
                  have m0z : ((m : Int) == 0) = false := by rw [beq_eq_false_iff_ne]; omega
                  clear c2
                  go_wp2_with (first
                    | (go_at_call 116; refine hcall.mono ?_; rintro e w2 ⟨rfl, rfl⟩)
                    | (go_at_call 15; refine hwr.mono ?_; rintro e w3 ⟨v, rfl, hev, hnw3⟩))
                  go_ret2
                  exact tac v w3 hev hnw3
          · rw [if_neg hbad] at hsp
            have HSP : Hid (undec 0 0 L = undec (k + 1) (10 * m + X.toNat) (L.drop (k + 1))) := hsp
            clear hsp
            have c1 : ¬ X < 0 := by omega
            have hov : ¬ (18446744073709551615 - X) / 10 < (m : Int) := by omega
            have hm10 : 10 * m + X.toNat ≤ 18446744073709551615 := by omega
            have hmx : 10 * (m : Int) + X ≤ 18446744073709551615 := by omega
            have HX : Hid (10 * (m : Int) + X = ((10 * m + X.toNat : Nat) : Int)) := by unfold Hid; omega
            rcases (show k = 0 ∨ (0 < k ∧ m ≠ 0) by omega) with rfl | ⟨k0, m0⟩
            · clear hbad
              go_wp2_with (go_at_call 116; refine hcall.mono ?_; rintro e w2 ⟨rfl, rfl⟩)
              exact ⟨⟨1, 10 * m + X.toNat, by omega, rfl, by rw [HX.out], hm10, HSP.out⟩, by simp [intOf]; omega⟩
            · have c2z : (0 : Int) < (k : Int) := by omega
              have m0z : ((m : Int) == 0) = false := by rw [beq_eq_false_iff_ne]; omega
              clear hbad
              go_wp2_with (go_at_call 116; refine hcall.mono ?_; rintro e w2 ⟨rfl, rfl⟩)
              exact ⟨⟨k + 1, 10 * m + X.toNat, by omega, by go_num, by rw [HX.out], hm10, HSP.out⟩, by simp [intOf]; omega⟩
        · obtain rfl : k = s.size := by omega
          have HSP : Hid (undec 0 0 L = .ok m) := by
            unfold Hid
            rw [hsp, List.drop_of_length_le (by omega)]; rfl
          clear hsp
          go_wp2
          go_ret2
          rw [rd_ok _ _ _ hbig _ HSP.out]
          exact ⟨_, rfl, .inl ⟨rfl, rfl, rfl⟩, Fr.refl _ _⟩
end Go.Proofs.YtebbgpnhkpbefaaGreatDoor
