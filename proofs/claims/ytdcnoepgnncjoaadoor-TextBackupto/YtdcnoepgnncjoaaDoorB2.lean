/- TextBack: what is told is read as it was; what is read is told as it was read. -/
import Derived.Test.YtdcnoepgnncjoaaDoorA13
import Derived.Test.YtdcnoepgnncjoaaDoorH3
import Derived.Deep.DeepCutAuto
namespace Go.Proofs.YtdcnoepgnncjoaaDoor
open Go.RowKit
set_option linter.unusedVariables false
set_option linter.unusedSimpArgs false

theorem ba_size (l : List UInt8) : (⟨l.toArray⟩ : ByteArray).size = l.length := by show l.toArray.size = _; simp
theorem EV.some {w : World} {a : Nat → Addr} {v : Value} {code : Nat} {pl : Option Int} (h : EV w a v code pl) (hc : code ≠ 0) : ∃ t u, v = .iface t u := by
  rcases h.form with ⟨_, h⟩ | ⟨t, u, h, _⟩
  · exact absurd h hc
  · exact ⟨t, u, h⟩
theorem dd_len (k u : Nat) (h : u < 10 ^ (k + 1)) : (Lib.decDigits u).length ≤ k + 1 := by
  induction k generalizing u with
  | zero => rw [Lib.decDigits, dif_pos (by omega)]; simp
  | succ k ih =>
    rw [Lib.decDigits]
    by_cases h10 : u < 10
    · rw [dif_pos h10]; simp
    · rw [dif_neg h10, List.length_append]
      have := ih (u / 10) (by rw [Nat.pow_succ] at h; omega)
      simp; omega
/-- What a reading answers, by its error. -/
theorem rd_zero {α : Type} (z : α) (s : ByteArray) (r : Except Nat α) (h : (rd z s r).2.1 = 0) : ¬ 1048576 < s.size ∧ r = .ok (rd z s r).1 := by
  unfold rd at h ⊢
  by_cases hb : 1048576 < s.size
  · rw [if_pos hb] at h; simp at h
  · rw [if_neg hb] at h ⊢
    cases r with
    | error k => simp at h
    | ok b => exact ⟨hb, rfl⟩
set_option maxRecDepth 100000 in
set_option maxHeartbeats 4000000 in
theorem back_any {B : Nat} {w : World} {a : Nat → Addr} (hS : Sent B w a) (hT : Tabs w) (hP : Pow w) (s t : ByteArray) (n : Nat) (hs : s.size ≤ 1048576) (ht : t.size ≤ 1048576) (hn : n < 18446744073709551616) :
    Calls Tryd.prog 7 #[.string s, .int .u64 (n : Int), .string t] w fun e w' => e = .returned (.bool true) ∧ Nw w w' := by
  have hls : s.data.toList.length = s.size := by rw [Array.length_toList]; rfl
  have hlt : t.data.toList.length = t.size := by rw [Array.length_toList]; rfl
  obtain ⟨A, hA⟩ : ∃ A : ByteArray, A = ⟨(b64 s.data.toList).toArray⟩ := ⟨_, rfl⟩
  obtain ⟨X, hX⟩ : ∃ X : ByteArray, X = ⟨(hex s.data.toList).toArray⟩ := ⟨_, rfl⟩
  have hAl : A.data.toList = b64 s.data.toList := by rw [hA]
  have hXl : X.data.toList = hex s.data.toList := by rw [hX]
  have hAs : A.size = (s.size + 2) / 3 * 4 := by rw [hA, ba_size, b64_length, hls]
  have hXs : X.size = 2 * s.size := by rw [hX, ba_size, hex_length, hls]
  have z1 : ((A.size : Int) != ((s.size : Int) + 2) / 3 * 4) = false := by simp; omega
  have z2 : ((X.size : Int) != 2 * (s.size : Int)) = false := by simp; omega
  have HXS : Hid (X.size = 2 * s.size) := hXs
  have HAS : Hid (A.size = (s.size + 2) / 3 * 4) := hAs
  have HA : Hid (A = ⟨(b64 s.data.toList).toArray⟩) := hA
  have HX : Hid (X = ⟨(hex s.data.toList).toArray⟩) := hX
  have HAl : Hid (A.data.toList = b64 s.data.toList) := hAl
  have HXl : Hid (X.data.toList = hex s.data.toList) := hXl
  clear hAs hXs hA hX hAl hXl
  go_enter Tryd.func7, Tryd.ntmps7
  go_wp2_with fail
  have q1 := base64_any s w (by omega)
  rw [← HA.out] at q1
  refine q1.mono ?_
  rintro e w1 ⟨rfl, n1⟩
  clear q1
  go_wp2_with fail
  have q2 := hex_any s w1 (by omega)
  rw [← HX.out] at q2
  refine q2.mono ?_
  rintro e w2 ⟨rfl, n2⟩
  clear q2
  have f2 : Nw w w2 := n1.tr n2
  go_upto_if 40 with fail
  go_cut [] (fun wx => Nw w wx)
  case first =>
    by_cases hb : X.size ≤ 1048576
    · have hbz : (X.size : Int) ≤ 1048576 := by omega
      have hse : (⟨s.data.toList.toArray⟩ : ByteArray) = s := bytes_eta s
      have r1 : rd [] A (un64 0 false A.data.toList) = (s.data.toList, 0, none) := rd_ok _ _ _ (by have := HXS.out; have := HAS.out; omega) _ (by rw [HAl.out]; exact un64_b64 _ _)
      have r2 : rd [] X (unhex 0 X.data.toList) = (s.data.toList, 0, none) := rd_ok _ _ _ (by omega) _ (by rw [HXl.out]; exact unhex_hex _ _)
      go_wp2_with fail
      have q3 := from64_any (hS.fr f2 (fun _ _ f => f)) A (by have := HAS.out; omega)
      rw [r1] at q3
      simp only [hse] at q3
      refine q3.mono ?_
      rintro e w3 ⟨v3, rfl, ev3, n3⟩
      obtain rfl := ev3.nil
      clear q3
      have f3 : Nw w w3 := f2.tr n3
      go_wp2_with fail
      have q4 := fromhex_any (hS.fr f3 (fun _ _ f => f)) X (by omega)
      rw [r2] at q4
      simp only [hse] at q4
      refine q4.mono ?_
      rintro e w4 ⟨v4, rfl, ev4, n4⟩
      obtain rfl := ev4.nil
      clear q4
      go_wp2_with fail
      go_meet
      case rel => exact f3.tr n4
    · have hbz : ¬ (X.size : Int) ≤ 1048576 := by omega
      go_wp2_with fail
      go_meet
      case rel => exact f2
  case rest =>
    have f4 : Nw w wc := hcut
    clear hcut
    obtain ⟨D, hD⟩ : ∃ D : ByteArray, D = ⟨(Lib.decDigits n).toArray⟩ := ⟨_, rfl⟩
    have hDl : D.data.toList = Lib.decDigits n := by rw [hD]
    have hDs : D.size ≤ 20 := by rw [hD, ba_size]; exact dd_len 19 n (by omega)
    have rD : rd 0 D (fromdec D.data.toList) = (n, 0, none) := rd_ok _ _ _ (by omega) _ (by rw [hDl]; exact fromdec_dec n hn)
    go_wp2_with fail
    have q5 := decimal_any n hn _ (hP.fr f4)
    rw [← hD] at q5
    clear hD hDl
    refine q5.mono ?_
    rintro e w5 ⟨rfl, n5⟩
    clear q5
    have f5 : Nw w w5 := f4.tr n5
    go_wp2_with fail
    have q6 := fromdec_any (hS.fr f5 (fun _ _ f => f)) D (by omega)
    rw [rD] at q6
    refine q6.mono ?_
    rintro e w6 ⟨v6, rfl, ev6, n6⟩
    obtain rfl := ev6.nil
    clear q6
    have f7 : Nw w w6 := f5.tr n6
    have hnn : ((n : Int) != (n : Int)) = false := by simp
    -- letters
    obtain ⟨R7, hR7⟩ : ∃ R, R = rd [] t (un64 0 false t.data.toList) := ⟨_, rfl⟩
    have HR7 : Hid (R7 = rd [] t (un64 0 false t.data.toList)) := hR7
    go_wp2_with fail
    have q7 := from64_any (hS.fr f7 (fun _ _ f => f)) t (by omega)
    rw [← hR7] at q7
    clear hR7
    refine q7.mono ?_
    rintro e w7 ⟨v7, rfl, ev7, n7⟩
    clear q7
    have g7 : Nw w w7 := f7.tr n7
    go_upto_region 14 with fail
    go_cut [92] (fun b wx => b = .bool false ∧ Nw w wx)
    case first =>
      by_cases hc : R7.2.1 = 0
      · rw [hc] at ev7
        obtain rfl := ev7.nil
        have hz := rd_zero [] t (un64 0 false t.data.toList) (by rw [← HR7.out]; exact hc)
        rw [← HR7.out] at hz
        have hb := b64_un64 _ _ _ _ hz.2
        have hsz := congrArg List.length hb
        rw [b64_length, hlt] at hsz
        have q := base64_any ⟨R7.1.toArray⟩ w7 (by rw [ba_size]; omega)
        rw [show (⟨R7.1.toArray⟩ : ByteArray).data.toList = R7.1 from by simp, hb, bytes_eta] at q
        clear hz hb hc hsz
        go_wp2_with fail
        refine q.mono ?_
        rintro e w' ⟨rfl, n'⟩
        go_wp2_with fail
        go_meet
        case rel => exact ⟨rfl, g7.tr n'⟩
      · obtain ⟨ty, u, rfl⟩ := ev7.some hc
        go_wp2_with fail
        go_meet
        case rel => exact ⟨rfl, g7⟩
    case rest =>
    obtain ⟨rfl, f8⟩ := hcut
    -- digits
    obtain ⟨R8, hR8⟩ : ∃ R, R = rd [] t (unhex 0 t.data.toList) := ⟨_, rfl⟩
    have HR8 : Hid (R8 = rd [] t (unhex 0 t.data.toList)) := hR8
    go_wp2_with fail
    have q8 := fromhex_any (hS.fr f8 (fun _ _ f => f)) t (by omega)
    rw [← hR8] at q8
    clear hR8
    refine q8.mono ?_
    rintro e w8 ⟨v8, rfl, ev8, n8⟩
    clear q8
    have g8 : Nw w w8 := f8.tr n8
    go_upto_region 17 with fail
    go_cut [105] (fun b wx => b = .bool false ∧ Nw w wx)
    case first =>
      by_cases hc : R8.2.1 = 0
      · rw [hc] at ev8
        obtain rfl := ev8.nil
        have hz := rd_zero [] t (unhex 0 t.data.toList) (by rw [← HR8.out]; exact hc)
        rw [← HR8.out] at hz
        have hb := hex_unhex _ _ _ hz.2
        have hsz := congrArg List.length hb
        rw [hex_length, hlt] at hsz
        have q := hex_any ⟨R8.1.toArray⟩ w8 (by rw [ba_size]; omega)
        rw [show (⟨R8.1.toArray⟩ : ByteArray).data.toList = R8.1 from by simp, hb, bytes_eta] at q
        clear hz hb hc hsz
        go_wp2_with fail
        refine q.mono ?_
        rintro e w' ⟨rfl, n'⟩
        go_wp2_with fail
        go_meet
        case rel => exact ⟨rfl, g8.tr n'⟩
      · obtain ⟨ty, u, rfl⟩ := ev8.some hc
        go_wp2_with fail
        go_meet
        case rel => exact ⟨rfl, g8⟩
    case rest =>
    obtain ⟨rfl, f9⟩ := hcut
    -- a number
    obtain ⟨R9, hR9⟩ : ∃ R, R = rd 0 t (fromdec t.data.toList) := ⟨_, rfl⟩
    have HR9 : Hid (R9 = rd 0 t (fromdec t.data.toList)) := hR9
    go_wp2_with fail
    have q9 := fromdec_any (hS.fr f9 (fun _ _ f => f)) t (by omega)
    rw [← hR9] at q9
    clear hR9
    refine q9.mono ?_
    rintro e w9 ⟨v9, rfl, ev9, n9⟩
    clear q9
    have g9 : Nw w w9 := f9.tr n9
    by_cases hc : R9.2.1 = 0
    · rw [hc] at ev9
      obtain rfl := ev9.nil
      have hz := rd_zero 0 t (fromdec t.data.toList) (by rw [← HR9.out]; exact hc)
      rw [← HR9.out] at hz
      have hb := dec_fromdec _ _ hz.2
      have hle := fromdec_le _ _ hz.2
      have q := decimal_any R9.1 (by omega) w9 (hP.fr g9)
      rw [hb, bytes_eta] at q
      clear hz hb hc hle
      go_wp2_with fail
      refine q.mono ?_
      rintro e w10 ⟨rfl, n10⟩
      have g10 : Nw w w10 := g9.tr n10
      go_wp2_with fail
      refine (alive_any (hS.fr g10 (fun _ _ f => f)) (hT.fr g10)).mono ?_
      rintro e w11 ⟨rfl, n11⟩
      go_wp2_with fail
      go_ret
      exact ⟨rfl, g10.tr n11⟩
    · obtain ⟨ty, u, rfl⟩ := ev9.some hc
      go_wp2_with fail
      refine (alive_any (hS.fr g9 (fun _ _ f => f)) (hT.fr g9)).mono ?_
      rintro e w11 ⟨rfl, n11⟩
      go_wp2_with fail
      go_ret
      exact ⟨rfl, g9.tr n11⟩
end Go.Proofs.YtdcnoepgnncjoaaDoor
