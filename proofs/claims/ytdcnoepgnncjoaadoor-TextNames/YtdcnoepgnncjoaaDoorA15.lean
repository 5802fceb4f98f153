/- The document's first rune of a text. -/
import Derived.Test.YtdcnoepgnncjoaaDoorA14
namespace Go.Proofs.YtdcnoepgnncjoaaDoor
open Go.RowKit
set_option linter.unusedVariables false
set_option linter.unusedSimpArgs false

theorem rf_cases (l : List UInt8) (b0 : Nat) (h : (C l 0).toNat = b0) : rf l =
    if b0 < 128 then (b0, 1)
    else if (194 ≤ b0 ∧ b0 ≤ 223) ∧ flw l 1 = true then ((b0 - 192) * 64 + ((C l 1).toNat - 128), 2)
    else if (224 ≤ b0 ∧ b0 ≤ 239) ∧ flw l 1 = true ∧ flw l 2 = true then
      (if (b0 - 224) * 4096 + ((C l 1).toNat - 128) * 64 + ((C l 2).toNat - 128) < 2048 ∨ (55296 ≤ (b0 - 224) * 4096 + ((C l 1).toNat - 128) * 64 + ((C l 2).toNat - 128) ∧ (b0 - 224) * 4096 + ((C l 1).toNat - 128) * 64 + ((C l 2).toNat - 128) ≤ 57343) then (0, 0) else ((b0 - 224) * 4096 + ((C l 1).toNat - 128) * 64 + ((C l 2).toNat - 128), 3))
    else if (240 ≤ b0 ∧ b0 ≤ 244) ∧ flw l 1 = true ∧ flw l 2 = true ∧ flw l 3 = true then
      (if (b0 - 240) * 262144 + ((C l 1).toNat - 128) * 4096 + ((C l 2).toNat - 128) * 64 + ((C l 3).toNat - 128) < 65536 ∨ 1114111 < (b0 - 240) * 262144 + ((C l 1).toNat - 128) * 4096 + ((C l 2).toNat - 128) * 64 + ((C l 3).toNat - 128) then (0, 0) else ((b0 - 240) * 262144 + ((C l 1).toNat - 128) * 4096 + ((C l 2).toNat - 128) * 64 + ((C l 3).toNat - 128), 4))
    else (0, 0) := by
  subst h
  unfold rf rfirst flw
  simp only [decide_eq_true_eq]
  rfl
set_option maxRecDepth 2000000 in
set_option maxHeartbeats 2000000 in
theorem first_any (s : ByteArray) (w : World) (h0 : 0 < s.size) (hs : s.size ≤ 9223372036854775807) :
    Calls Tryd.prog 58 #[.string s] w fun e w' => e = .returned (.tuple #[.int .i32 ((rf s.data.toList).1 : Nat), .int .i64 ((rf s.data.toList).2 : Nat)]) ∧ Nw w w' := by
  have hlen : s.data.toList.length = s.size := by rw [Array.length_toList]; rfl
  obtain ⟨L, hL⟩ : ∃ L, L = s.data.toList := ⟨_, rfl⟩
  have hC : Hid (∀ k (h : k < s.size), s[k]'h = C L k) := fun k h => by rw [hL]; exact C_get s k h
  have hF : Hid (∀ (k : Nat) (W : World), Calls Tryd.prog 76 #[.string s, .int .i64 (k : Int)] W fun e w' => e = .returned (.bool (flw L k)) ∧ w' = W) := fun k W => by rw [hL]; exact follows_any s k W hs
  rw [← hL] at hlen ⊢
  clear hL
  have hc0 := hC.out 0 h0
  obtain ⟨b0, hb0⟩ : ∃ b0, (C L 0).toNat = b0 := ⟨_, rfl⟩
  have hb256 : b0 < 256 := hb0 ▸ UInt8.toNat_lt _
  have hrf : Hid (rf L = _) := rf_cases L b0 hb0
  have F1 := hF.out 1 w
  have F2 := hF.out 2 w
  have F3 := hF.out 3 w
  by_cases r1 : b0 < 128
  · have z1 : (b0 : Int) < 128 := by omega
    have HR : Hid (rf L = (b0, 1)) := by unfold Hid; rw [hrf.out, if_pos r1]
    go_enter Tryd.func58, Tryd.ntmps58
    go_wp2_with fail
    go_ret2
    exact ⟨by rw [HR.out]; rfl, Fr.refl _ _⟩
  have z1 : ¬ (b0 : Int) < 128 := by omega
  by_cases r2 : 194 ≤ b0 ∧ b0 ≤ 223
  · have k3 : ¬ (224 ≤ b0 ∧ b0 ≤ 239) := by omega
    have k4 : ¬ (240 ≤ b0 ∧ b0 ≤ 244) := by omega
    have y0 : (194 : Int) ≤ b0 := by omega
    have y1 : (b0 : Int) ≤ 223 := by omega
    have y2 : ¬ (224 : Int) ≤ b0 := by omega
    have y3 : ¬ (240 : Int) ≤ b0 := by omega
    cases f1 : flw L 1 with
    | true =>
      rw [f1] at F1
      have x1 : 1 < s.size ∧ 128 ≤ (C L 1).toNat ∧ (C L 1).toNat ≤ 191 := by have := f1; unfold flw at this; rw [hlen] at this; simpa using this
      have hc1 := hC.out 1 x1.1
      obtain ⟨b1, hb1⟩ : ∃ b, (C L 1).toNat = b := ⟨_, rfl⟩
      rw [hb1] at x1
      obtain ⟨s1, p1, q1⟩ := x1
      have HR : Hid (rf L = ((b0 - 192) * 64 + (b1 - 128), 2)) := by unfold Hid; rw [hrf.out, if_neg r1, if_pos ⟨r2, f1⟩, hb1]
      have HV : Hid ((((b0 - 192) * 64 + (b1 - 128) : Nat) : Int) = ((b0 : Int) - 192) * 64 + (b1 : Int) - 128) := by unfold Hid; omega
      clear hrf f1 r2 k3 k4 r1
      go_enter Tryd.func58, Tryd.ntmps58
      go_wp2_with fail
      refine F1.mono ?_
      rintro e w1 ⟨rfl, rfl⟩
      go_wp2_with fail
      go_ret2
      refine ⟨?_, Fr.refl _ _⟩
      rw [HR.out, HV.out]; rfl
    | false =>
      rw [f1] at F1
      have HR : Hid (rf L = (0, 0)) := by unfold Hid; rw [hrf.out, if_neg r1, if_neg (fun h => by rw [f1] at h; simp at h), if_neg (fun h => k3 h.1), if_neg (fun h => k4 h.1)]
      go_enter Tryd.func58, Tryd.ntmps58
      go_wp2_with fail
      refine F1.mono ?_
      rintro e w1 ⟨rfl, rfl⟩
      go_wp2_with fail
      go_ret2
      exact ⟨by rw [HR.out]; rfl, Fr.refl _ _⟩
  by_cases r3 : 224 ≤ b0 ∧ b0 ≤ 239
  · have k4 : ¬ (240 ≤ b0 ∧ b0 ≤ 244) := by omega
    have y0 : (194 : Int) ≤ b0 := by omega
    have y1 : ¬ (b0 : Int) ≤ 223 := by omega
    have y2 : (224 : Int) ≤ b0 := by omega
    have y3 : (b0 : Int) ≤ 239 := by omega
    have y4 : ¬ (240 : Int) ≤ b0 := by omega
    cases f1 : flw L 1 with
    | true =>
      rw [f1] at F1
      cases f2 : flw L 2 with
      | true =>
        rw [f2] at F2
        have x1 : 1 < s.size ∧ 128 ≤ (C L 1).toNat ∧ (C L 1).toNat ≤ 191 := by have := f1; unfold flw at this; rw [hlen] at this; simpa using this
        have hc1 := hC.out 1 x1.1
        obtain ⟨b1, hb1⟩ : ∃ b, (C L 1).toNat = b := ⟨_, rfl⟩
        rw [hb1] at x1
        obtain ⟨s1, p1, q1⟩ := x1
        have x2 : 2 < s.size ∧ 128 ≤ (C L 2).toNat ∧ (C L 2).toNat ≤ 191 := by have := f2; unfold flw at this; rw [hlen] at this; simpa using this
        have hc2 := hC.out 2 x2.1
        obtain ⟨b2, hb2⟩ : ∃ b, (C L 2).toNat = b := ⟨_, rfl⟩
        rw [hb2] at x2
        obtain ⟨s2, p2, q2⟩ := x2
        have HR := hrf.out
        rw [if_neg r1, if_neg (fun h => r2 h.1), if_pos ⟨r3, f1, f2⟩, hb1, hb2] at HR
        have HV : (((b0 - 224) * 4096 + (b1 - 128) * 64 + (b2 - 128) : Nat) : Int) = ((b0 : Int) - 224) * 4096 + ((b1 : Int) - 128) * 64 + (b2 : Int) - 128 := by omega
        obtain ⟨m, hm⟩ : ∃ m, m = (b0 - 224) * 4096 + (b1 - 128) * 64 + (b2 - 128) := ⟨_, rfl⟩
        rw [← hm] at HR HV
        have hml : m < 65536 := by omega
        have HV' : Hid (((b0 : Int) - 224) * 4096 + ((b1 : Int) - 128) * 64 + (b2 : Int) - 128 = (m : Int)) := HV.symm
        have hv := HV'.out
        clear hrf f1 f2 r2 r3 k4 r1 HV hm
        rcases (show (m < 2048) ∨ (55296 ≤ m ∧ m ≤ 57343) ∨ (2048 ≤ m ∧ m < 55296) ∨ (57343 < m) by omega) with hq | hq | hq | hq
        · have HR' : Hid (rf L = (0, 0)) := by unfold Hid; rw [HR, if_pos (by omega)]
          have y0 : (m : Int) < 2048 := by omega
          clear HR hq
          go_enter Tryd.func58, Tryd.ntmps58
          go_wp2_with fail
          refine F1.mono ?_
          rintro e w1 ⟨rfl, rfl⟩
          go_wp2_with fail
          refine F2.mono ?_
          rintro e w2 ⟨rfl, rfl⟩
          go_wp2_with fail
          go_quiet (fail)
          go_wp2_with fail
          go_ret2
          exact ⟨by rw [HR'.out]; rfl, (Fr.refl _ _).drewN _⟩
        · have HR' : Hid (rf L = (0, 0)) := by unfold Hid; rw [HR, if_pos (by omega)]
          have y0 : ¬ (m : Int) < 2048 := by omega
          have y1 : (55296 : Int) ≤ m := by omega
          have y2 : (m : Int) ≤ 57343 := by omega
          clear HR hq
          go_enter Tryd.func58, Tryd.ntmps58
          go_wp2_with fail
          refine F1.mono ?_
          rintro e w1 ⟨rfl, rfl⟩
          go_wp2_with fail
          refine F2.mono ?_
          rintro e w2 ⟨rfl, rfl⟩
          go_wp2_with fail
          go_quiet (fail)
          go_wp2_with fail
          go_ret2
          exact ⟨by rw [HR'.out]; rfl, (Fr.refl _ _).drewN _⟩
        · have HR' : Hid (rf L = (m, 3)) := by unfold Hid; rw [HR, if_neg (by omega)]
          have y0 : (2048 : Int) ≤ m := by omega
          have y1 : (m : Int) < 55296 := by omega
          clear HR hq
          go_enter Tryd.func58, Tryd.ntmps58
          go_wp2_with fail
          refine F1.mono ?_
          rintro e w1 ⟨rfl, rfl⟩
          go_wp2_with fail
          refine F2.mono ?_
          rintro e w2 ⟨rfl, rfl⟩
          go_wp2_with fail
          go_quiet (fail)
          go_wp2_with fail
          go_ret2
          exact ⟨by rw [HR'.out]; rfl, (Fr.refl _ _).drewN _⟩
        · have HR' : Hid (rf L = (m, 3)) := by unfold Hid; rw [HR, if_neg (by omega)]
          have y0 : ¬ (m : Int) < 2048 := by omega
          have y1 : (55296 : Int) ≤ m := by omega
          have y2 : ¬ (m : Int) ≤ 57343 := by omega
          clear HR hq
          go_enter Tryd.func58, Tryd.ntmps58
          go_wp2_with fail
          refine F1.mono ?_
          rintro e w1 ⟨rfl, rfl⟩
          go_wp2_with fail
          refine F2.mono ?_
          rintro e w2 ⟨rfl, rfl⟩
          go_wp2_with fail
          go_quiet (fail)
          go_wp2_with fail
          go_ret2
          exact ⟨by rw [HR'.out]; rfl, (Fr.refl _ _).drewN _⟩
      | false =>
        rw [f2] at F2
        have HR : Hid (rf L = (0, 0)) := by unfold Hid; rw [hrf.out, if_neg r1, if_neg (fun h => r2 h.1), if_neg (fun h => by rw [f2] at h; simp at h), if_neg (fun h => k4 h.1)]
        go_enter Tryd.func58, Tryd.ntmps58
        go_wp2_with fail
        refine F1.mono ?_
        rintro e w1 ⟨rfl, rfl⟩
        go_wp2_with fail
        refine F2.mono ?_
        rintro e w2 ⟨rfl, rfl⟩
        go_wp2_with fail
        go_ret2
        exact ⟨by rw [HR.out]; rfl, Fr.refl _ _⟩
    | false =>
      rw [f1] at F1
      have HR : Hid (rf L = (0, 0)) := by unfold Hid; rw [hrf.out, if_neg r1, if_neg (fun h => r2 h.1), if_neg (fun h => by rw [f1] at h; simp at h), if_neg (fun h => k4 h.1)]
      go_enter Tryd.func58, Tryd.ntmps58
      go_wp2_with fail
      refine F1.mono ?_
      rintro e w1 ⟨rfl, rfl⟩
      go_wp2_with fail
      go_ret2
      exact ⟨by rw [HR.out]; rfl, Fr.refl _ _⟩
  by_cases r4 : 240 ≤ b0 ∧ b0 ≤ 244
  · have y0 : ¬ (b0 : Int) ≤ 223 := by omega
    have y1 : ¬ (b0 : Int) ≤ 239 := by omega
    have y2 : (194 : Int) ≤ b0 := by omega
    have y3 : (224 : Int) ≤ b0 := by omega
    have y4 : (240 : Int) ≤ b0 := by omega
    have y5 : (b0 : Int) ≤ 244 := by omega
    cases f1 : flw L 1 with
    | true =>
      rw [f1] at F1
      cases f2 : flw L 2 with
      | true =>
        rw [f2] at F2
        cases f3 : flw L 3 with
        | true =>
          rw [f3] at F3
          have x1 : 1 < s.size ∧ 128 ≤ (C L 1).toNat ∧ (C L 1).toNat ≤ 191 := by have := f1; unfold flw at this; rw [hlen] at this; simpa using this
          have hc1 := hC.out 1 x1.1
          obtain ⟨b1, hb1⟩ : ∃ b, (C L 1).toNat = b := ⟨_, rfl⟩
          rw [hb1] at x1
          obtain ⟨s1, p1, q1⟩ := x1
          have x2 : 2 < s.size ∧ 128 ≤ (C L 2).toNat ∧ (C L 2).toNat ≤ 191 := by have := f2; unfold flw at this; rw [hlen] at this; simpa using this
          have hc2 := hC.out 2 x2.1
          obtain ⟨b2, hb2⟩ : ∃ b, (C L 2).toNat = b := ⟨_, rfl⟩
          rw [hb2] at x2
          obtain ⟨s2, p2, q2⟩ := x2
          have x3 : 3 < s.size ∧ 128 ≤ (C L 3).toNat ∧ (C L 3).toNat ≤ 191 := by have := f3; unfold flw at this; rw [hlen] at this; simpa using this
          have hc3 := hC.out 3 x3.1
          obtain ⟨b3, hb3⟩ : ∃ b, (C L 3).toNat = b := ⟨_, rfl⟩
          rw [hb3] at x3
          obtain ⟨s3, p3, q3⟩ := x3
          have HR := hrf.out
          rw [if_neg r1, if_neg (fun h => r2 h.1), if_neg (fun h => r3 h.1), if_pos ⟨r4, f1, f2, f3⟩, hb1, hb2, hb3] at HR
          have HV : (((b0 - 240) * 262144 + (b1 - 128) * 4096 + (b2 - 128) * 64 + (b3 - 128) : Nat) : Int) = ((b0 : Int) - 240) * 262144 + ((b1 : Int) - 128) * 4096 + ((b2 : Int) - 128) * 64 + (b3 : Int) - 128 := by omega
          obtain ⟨m, hm⟩ : ∃ m, m = (b0 - 240) * 262144 + (b1 - 128) * 4096 + (b2 - 128) * 64 + (b3 - 128) := ⟨_, rfl⟩
          rw [← hm] at HR HV
          have hml : m < 2097152 := by omega
          have HV' : Hid (((b0 : Int) - 240) * 262144 + ((b1 : Int) - 128) * 4096 + ((b2 : Int) - 128) * 64 + (b3 : Int) - 128 = (m : Int)) := HV.symm
          have hv := HV'.out
          clear hrf f1 f2 f3 r2 r3 r4 r1 HV hm
          rcases (show (m < 65536) ∨ (1114111 < m) ∨ (65536 ≤ m ∧ m ≤ 1114111) by omega) with hq | hq | hq
          · have HR' : Hid (rf L = (0, 0)) := by unfold Hid; rw [HR, if_pos (by omega)]
            have y0 : (m : Int) < 65536 := by omega
            clear HR hq
            go_enter Tryd.func58, Tryd.ntmps58
            go_wp2_with fail
            refine F1.mono ?_
            rintro e w1 ⟨rfl, rfl⟩
            go_wp2_with fail
            refine F2.mono ?_
            rintro e w2 ⟨rfl, rfl⟩
            go_wp2_with fail
            refine F3.mono ?_
            rintro e w3 ⟨rfl, rfl⟩
            go_wp2_with fail
            go_quiet (fail)
            go_wp2_with fail
            go_ret2
            exact ⟨by rw [HR'.out]; rfl, (Fr.refl _ _).drewN _⟩
          · have HR' : Hid (rf L = (0, 0)) := by unfold Hid; rw [HR, if_pos (by omega)]
            have y0 : ¬ (m : Int) < 65536 := by omega
            have y1 : (1114111 : Int) < m := by omega
            clear HR hq
            go_enter Tryd.func58, Tryd.ntmps58
            go_wp2_with fail
            refine F1.mono ?_
            rintro e w1 ⟨rfl, rfl⟩
            go_wp2_with fail
            refine F2.mono ?_
            rintro e w2 ⟨rfl, rfl⟩
            go_wp2_with fail
            refine F3.mono ?_
            rintro e w3 ⟨rfl, rfl⟩
            go_wp2_with fail
            go_quiet (fail)
            go_wp2_with fail
            go_ret2
            exact ⟨by rw [HR'.out]; rfl, (Fr.refl _ _).drewN _⟩
          · have HR' : Hid (rf L = (m, 4)) := by unfold Hid; rw [HR, if_neg (by omega)]
            have y0 : ¬ (m : Int) < 65536 := by omega
            have y1 : ¬ (1114111 : Int) < m := by omega
            clear HR hq
            go_enter Tryd.func58, Tryd.ntmps58
            go_wp2_with fail
            refine F1.mono ?_
            rintro e w1 ⟨rfl, rfl⟩
            go_wp2_with fail
            refine F2.mono ?_
            rintro e w2 ⟨rfl, rfl⟩
            go_wp2_with fail
            refine F3.mono ?_
            rintro e w3 ⟨rfl, rfl⟩
            go_wp2_with fail
            go_quiet (fail)
            go_wp2_with fail
            go_ret2
            exact ⟨by rw [HR'.out]; rfl, (Fr.refl _ _).drewN _⟩
        | false =>
          rw [f3] at F3
          have HR : Hid (rf L = (0, 0)) := by unfold Hid; rw [hrf.out, if_neg r1, if_neg (fun h => r2 h.1), if_neg (fun h => r3 h.1), if_neg (fun h => by rw [f3] at h; simp at h)]
          go_enter Tryd.func58, Tryd.ntmps58
          go_wp2_with fail
          refine F1.mono ?_
          rintro e w1 ⟨rfl, rfl⟩
          go_wp2_with fail
          refine F2.mono ?_
          rintro e w2 ⟨rfl, rfl⟩
          go_wp2_with fail
          refine F3.mono ?_
          rintro e w3 ⟨rfl, rfl⟩
          go_wp2_with fail
          go_ret2
          exact ⟨by rw [HR.out]; rfl, Fr.refl _ _⟩
      | false =>
        rw [f2] at F2
        have HR : Hid (rf L = (0, 0)) := by unfold Hid; rw [hrf.out, if_neg r1, if_neg (fun h => r2 h.1), if_neg (fun h => r3 h.1), if_neg (fun h => by rw [f2] at h; simp at h)]
        go_enter Tryd.func58, Tryd.ntmps58
        go_wp2_with fail
        refine F1.mono ?_
        rintro e w1 ⟨rfl, rfl⟩
        go_wp2_with fail
        refine F2.mono ?_
        rintro e w2 ⟨rfl, rfl⟩
        go_wp2_with fail
        go_ret2
        exact ⟨by rw [HR.out]; rfl, Fr.refl _ _⟩
    | false =>
      rw [f1] at F1
      have HR : Hid (rf L = (0, 0)) := by unfold Hid; rw [hrf.out, if_neg r1, if_neg (fun h => r2 h.1), if_neg (fun h => r3 h.1), if_neg (fun h => by rw [f1] at h; simp at h)]
      go_enter Tryd.func58, Tryd.ntmps58
      go_wp2_with fail
      refine F1.mono ?_
      rintro e w1 ⟨rfl, rfl⟩
      go_wp2_with fail
      go_ret2
      exact ⟨by rw [HR.out]; rfl, Fr.refl _ _⟩
  have HRd : Hid (rf L = (0, 0)) := by unfold Hid; rw [hrf.out, if_neg r1, if_neg (fun h => r2 h.1), if_neg (fun h => r3 h.1), if_neg (fun h => r4 h.1)]
  by_cases r5 : b0 < 194
  · have y0 : ¬ (194 : Int) ≤ b0 := by omega
    have y1 : ¬ (224 : Int) ≤ b0 := by omega
    have y2 : ¬ (240 : Int) ≤ b0 := by omega
    go_enter Tryd.func58, Tryd.ntmps58
    go_wp2_with fail
    go_ret2
    exact ⟨by rw [HRd.out]; rfl, Fr.refl _ _⟩
  · have y0 : (194 : Int) ≤ b0 := by omega
    have y1 : ¬ (b0 : Int) ≤ 223 := by omega
    have y2 : (224 : Int) ≤ b0 := by omega
    have y3 : ¬ (b0 : Int) ≤ 239 := by omega
    have y4 : (240 : Int) ≤ b0 := by omega
    have y5 : ¬ (b0 : Int) ≤ 244 := by omega
    go_enter Tryd.func58, Tryd.ntmps58
    go_wp2_with fail
    go_ret2
    exact ⟨by rw [HRd.out]; rfl, Fr.refl _ _⟩
end Go.Proofs.YtdcnoepgnncjoaaDoor
