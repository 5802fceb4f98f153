/- The document's reader: Var. -/
import Derived.Test.YtebbgpnhkpbefaaDoorcK2
import Derived.Test.YtebbgpnhkpbefaaDoorcR2
namespace Go.Proofs.YtebbgpnhkpbefaaDoor
open Go.RowKit
set_option linter.unusedVariables false
set_option linter.unusedSimpArgs false

theorem fvar_bad (c : Nat) (s : ByteArray) (p code pl : Int) (w : World) (h : Rf w c s p code pl) (hc : code ≠ 0) :
    Calls Tryd.prog 26 #[.pointer (some ⟨c, 0, none⟩)] w fun e w' => e = .returned (.int .u64 0) ∧ w' = w := by
  have hb := bad_yes c s p code pl w h hc
  go_enter Tryd.func26, Tryd.ntmps26
  go_wp2_with (go_at_call 29; refine hb.mono ?_; rintro e w' ⟨rfl, rfl⟩)
  go_ret
  exact ⟨rfl, rfl⟩

set_option maxRecDepth 100000 in
set_option maxHeartbeats 4000000 in
theorem fvar_any (c : Nat) (s : ByteArray) (p : Nat) (pl : Int) (w : World) (h : Rf w c s p 0 pl) (hp : p ≤ s.size) (hs : s.size ≤ 140737488355328) :
    Calls Tryd.prog 26 #[.pointer (some ⟨c, 0, none⟩)] w fun e w' => e = .returned (.int .u64 (rvVal (rvGo 0 (s.data.toList.drop p)))) ∧ (match rvGo 0 (s.data.toList.drop p) with | some x => Rf w' c s ((p + x.2 : Nat) : Int) 0 pl | none => Rf w' c s p 3 p) ∧ Fr (fun j => j = c) w w' := by
  have hb := bad_no c s p pl w h
  obtain ⟨R, hR⟩ : ∃ R, R = rvGo 0 (s.data.toList.drop p) := ⟨_, rfl⟩
  rw [← hR]
  have HR0 : Hid (R = rvGo 0 (s.data.toList.drop p)) := hR
  clear hR
  go_enter Tryd.func26, Tryd.ntmps26
  go_wp2_with (go_at_call 29; refine hb.mono ?_; rintro e w' ⟨rfl, rfl⟩)
  clear hb
  go_loopw [3, 4, 5] (fun n sc i wr => ∃ (m j : Nat), n = .int .u64 m ∧ sc = .int .u64 ((128 ^ j : Nat) : Int) ∧ i = .int .i64 j ∧ j ≤ 9 ∧ m < 128 ^ j ∧ p + j ≤ s.size ∧ Rf wr c s p 0 pl ∧ Fr (fun _ => False) w' wr ∧ R = (rvGo j (s.data.toList.drop (p + j))).map fun x => (m + 128 ^ j * x.1, j + x.2)) (fun _ _ i _ => (10 - intOf i).toNat)
  case atStart => exact ⟨0, 0, rfl, rfl, rfl, by omega, by simp, hp, h, Fr.refl _ _, by rw [HR0.out]; cases rvGo 0 (s.data.toList.drop (p + 0)) <;> simp_all⟩
  case round =>
    obtain ⟨m, j, rfl, rfl, rfl, hj, hm, hpj, hRf, hf, hrel⟩ := hrel
    have HR : Hid (R = (rvGo j (s.data.toList.drop (p + j))).map fun x => (m + 128 ^ j * x.1, j + x.2)) := hrel
    clear hrel
    obtain ⟨c0, c1, c2, c3, f1, f2, f3⟩ := hRf.parts
    have hj10 : (j : Int) < 10 := by omega
    rcases hd : s.data.toList.drop (p + j) with _ | ⟨b, r⟩
    · have hle := drop_none s _ hd
      obtain rfl : R = none := by rw [HR.out, hd, rvGo_nil]; rfl
      clear hd
      have hge : decide ((p : Int) + j < s.size) = false := decide_eq_false (by omega)
      go_wp2_with fail
      go_quiet (fail)
      go_wp2_with fail
      refine (placed_any 3 p _).mono ?_
      rintro e w4 ⟨rfl, f4⟩
      have f4' := ((Fr.refl (fun _ => False) wr).drewN _).trans f4 (fun _ _ q => q)
      go_wp2_with fail
      refine (fail_no c s p pl 3 p w4 (hRf.fr f4' (fun f => f))).mono ?_
      rintro e w5 ⟨rfl, h5, f5⟩
      go_wp2_with fail
      go_ret
      exact ⟨rfl, h5, ((hf.trans f4' (fun _ _ q => q)).mono (fun _ _ f => f.elim)).trans f5 (fun _ _ q => q)⟩
    · have hds := drop_size s _ _ _ hd
      have hq : p + j < s.data.toList.length := by
        have : s.data.toList.length = s.size := by rw [Array.length_toList]; rfl
        omega
      have gt : ∀ (hh : p + j < s.size), s[p + j]'hh = b := fun hh => by
        have := hd
        rw [List.drop_eq_getElem_cons hq] at this
        exact (List.cons.inj this).1
      have HD : Hid (s.data.toList.drop (p + j) = b :: r) := hd
      have HDS : Hid (s.data.toList.drop (p + j + 1) = r) := hds.2
      have hps : p + j + 1 ≤ s.size := hds.1
      have hlt' : decide ((p : Int) + j < s.size) = true := decide_eq_true (by omega)
      have hlt2 : (p : Int) + j < s.size := by omega
      clear hd hds hq
      have hcb := b.toNat_lt
      have gt2 : ∀ (hh : ((p : Int) + (j : Int)).toNat < s.size), s[((p : Int) + (j : Int)).toNat]'hh = b := fun hh => by
        have e : ((p : Int) + (j : Int)).toNat = p + j := by omega
        simp only [e]
        exact gt _
      go_wp2_with fail
      go_quiet (fail)
      go_wp2_with fail
      go_quiet (fail)
      by_cases hbad : (0 < j ∧ b.toNat = 0) ∨ (j = 9 ∧ 1 < b.toNat)
      · obtain rfl : R = none := by rw [HR.out, HD.out, rvGo_bad hbad]; rfl
        have hb' : (¬ ((j : Int) = 9) ∧ 0 < (j : Int) ∧ (b.toNat : Int) = 0) ∨ ((j : Int) = 9 ∧ ¬ (1 < (b.toNat : Int)) ∧ (b.toNat : Int) = 0) ∨ ((j : Int) = 9 ∧ 1 < (b.toNat : Int)) := by omega
        clear hbad HR HD HDS
        rcases hb' with ⟨q1, q2, q3⟩ | ⟨q1, q2, q3⟩ | ⟨q1, q2⟩
        all_goals
          go_wp2_with fail
          refine (placed_any 3 p _).mono ?_
          rintro e w4 ⟨rfl, f4⟩
          have f4' := ((Fr.refl (fun _ => False) wr).drewN _).trans f4 (fun _ _ q => q)
          go_wp2_with fail
          refine (fail_no c s p pl 3 p w4 (hRf.fr f4' (fun f => f))).mono ?_
          rintro e w5 ⟨rfl, h5, f5⟩
          go_wp2_with fail
          go_ret
          exact ⟨rfl, h5, ((hf.trans f4' (fun _ _ q => q)).mono (fun _ _ f => f.elim)).trans f5 (fun _ _ q => q)⟩
      · have h9 : j = 9 → b.toNat ≤ 1 := by omega
        have hX : 128 ^ j ≤ 9223372036854775808 := by have : (128 : Nat) ^ j ≤ 128 ^ 9 := Nat.pow_le_pow_right (by omega) hj; omega
        have hX8 : j ≤ 8 → 128 ^ j ≤ 72057594037927936 := fun h => by have : (128 : Nat) ^ j ≤ 128 ^ 8 := Nat.pow_le_pow_right (by omega) h; omega
        have hsucc : 128 ^ (j + 1) = 128 ^ j * 128 := Nat.pow_succ ..
        obtain ⟨X, hXe⟩ : ∃ X, X = 128 ^ j := ⟨_, rfl⟩
        rw [← hXe] at hX hX8 hm hsucc
        obtain ⟨Y, hYe⟩ : ∃ Y, Y = X * (b.toNat % 128) := ⟨_, rfl⟩
        have hY1 : m + Y < 18446744073709551616 := by
          by_cases h99 : j = 9
          · have := h9 h99
            have h3 : b.toNat % 128 ≤ 1 := by omega
            have : X * (b.toNat % 128) ≤ X * 1 := Nat.mul_le_mul (Nat.le_refl _) h3
            omega
          · have := hX8 (by omega)
            have h3 : b.toNat % 128 ≤ 127 := by omega
            have : X * (b.toNat % 128) ≤ X * 127 := Nat.mul_le_mul (Nat.le_refl _) h3
            omega
        have hY : (X : Int) * ((b.toNat : Int) % 128) = (Y : Int) := by rw [hYe]; push_cast; rfl
        have HY : Hid (Y = X * (b.toNat % 128)) := hYe
        have HX : Hid (X = 128 ^ j) := hXe
        have hq0 : ¬ (0 < (j : Int) ∧ (b.toNat : Int) = 0) ∧ ¬ ((j : Int) = 9 ∧ 1 < (b.toNat : Int)) := by omega
        rw [← hXe]
        clear hYe hXe
        have h3c : ((j : Int) = 9 ∧ ¬ (1 < (b.toNat : Int)) ∧ 0 < (j : Int) ∧ ¬ ((b.toNat : Int) = 0)) ∨ (¬ ((j : Int) = 9) ∧ 0 < (j : Int) ∧ ¬ ((b.toNat : Int) = 0)) ∨ (¬ ((j : Int) = 9) ∧ ¬ (0 < (j : Int))) := by omega
        by_cases h128 : b.toNat < 128
        · have h128' : (b.toNat : Int) < 128 := by omega
          obtain rfl : R = some (m + Y, j + 1) := by rw [HR.out, HD.out, rvGo_end hbad h128, HY.out, HX.out, Nat.mod_eq_of_lt h128]; rfl
          clear hbad HR HD HDS hq0
          rcases h3c with ⟨q1, q2, q3, q4⟩ | ⟨q1, q2, q3⟩ | ⟨q1, q2⟩
          all_goals
            go_wp2_with fail
            go_ret
            refine ⟨rfl, ?_, ?_⟩
            · first
                | (show Rf _ c s ((p + (j + 1) : Nat) : Int) 0 pl
                   rw [show ((p + (j + 1) : Nat) : Int) = (p : Int) + (j : Int) + 1 by omega]
                   exact (hRf.fr ((Fr.refl (fun _ => False) wr).drewN _) (fun f => f)).set1 _)
                | (show Rf _ c s ((p : Int) + 10) 0 pl
                   rw [show (p : Int) + 10 = (p : Int) + 9 + 1 by omega]
                   exact (hRf.fr ((Fr.refl (fun _ => False) wr).drewN _) (fun f => f)).set1 _)
            · exact ((hf.mono (fun _ _ f => f.elim)).drewN _).setCell ⟨c, 1, none⟩ _ (fun _ => rfl)
        · have h128' : ¬ ((b.toNat : Int) < 128) := by omega
          have hj8 : j ≤ 8 := by omega
          have hX9 := hX8 hj8
          have hR2 : R = (rvGo (j + 1) (s.data.toList.drop (p + (j + 1)))).map fun x => (m + Y + 128 ^ (j + 1) * x.1, j + 1 + x.2) := by
            rw [HR.out, HD.out, rvGo_on hbad h128, ← Nat.add_assoc, HDS.out, HY.out, HX.out]
            cases rvGo (j + 1) r with
            | none => rfl
            | some x =>
              simp only [Option.map_some, Option.some.injEq, Prod.mk.injEq]
              exact ⟨by rw [Nat.mul_add, ← Nat.add_assoc, Nat.pow_succ, Nat.mul_assoc], by omega⟩
          have HR2 : Hid (R = (rvGo (j + 1) (s.data.toList.drop (p + (j + 1)))).map fun x => (m + Y + 128 ^ (j + 1) * x.1, j + 1 + x.2)) := hR2
          have hYX : m + Y < X * 128 := by
            have h3 : b.toNat % 128 ≤ 127 := by omega
            have h4 : X * (b.toNat % 128) ≤ X * 127 := Nat.mul_le_mul (Nat.le_refl _) h3
            have := HY.out
            omega
          have q1 : ¬ ((j : Int) = 9) := by omega
          have h3d : (0 < (j : Int) ∧ ¬ ((b.toNat : Int) = 0)) ∨ ¬ (0 < (j : Int)) := by omega
          clear hR2 hbad HR HD HDS hq0 h3c
          rcases h3d with ⟨q2, q3⟩ | q2
          all_goals
            go_wp2_with fail
            go_roundw
            case rel => exact ⟨m + Y, j + 1, by go_num, by rw [hsucc]; go_num, by go_num, by omega, by rw [hsucc]; exact hYX, by omega, hRf.fr ((Fr.refl (fun _ => False) wr).drewN _) (fun f => f), hf.drewN _, HR2.out⟩
            case measure => simp [intOf]; omega
end Go.Proofs.YtebbgpnhkpbefaaDoor
