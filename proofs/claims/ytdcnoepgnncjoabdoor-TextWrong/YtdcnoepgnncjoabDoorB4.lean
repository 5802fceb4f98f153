/- TextWrong: a text that is refused goes wrong where it is told. -/
import Derived.Test.YtdcnoepgnncjoabDoorB3
namespace Go.Proofs.YtdcnoepgnncjoabDoor
open Go.RowKit
set_option linter.unusedVariables false
set_option linter.unusedSimpArgs false

theorem neq_nil {w : World} {a : Nat → Addr} {v : Value} {code : Nat} {pl : Option Int} (h : EV w a v code pl) (i : Nat) : (∀ W : World, (eqGuard .neq 24 (.tmp i) (.const .nilIface) v .nilIface).run Tryd.prog W = .ok () W) ∧ ∀ W : World, (binOp .neq 24 v .nilIface).run Tryd.prog W = .ok (.bool (decide (code ≠ 0))) W := by
  rcases h with ⟨rfl, rfl, _⟩ | ⟨i, _, rfl, rfl, _⟩ | ⟨i, pb, q, _, rfl, _, rfl, _⟩
  · exact ⟨fun W => by go_simp, fun W => by go_simp⟩
  · exact ⟨fun W => by go_simp, fun W => by go_simp⟩
  · exact ⟨fun W => by go_simp, fun W => by go_simp⟩
theorem head_list (s : ByteArray) (k : Nat) : (s.extract 0 k).data.toList = s.data.toList.take k := by rw [extract_list]; simp
theorem head_size (s : ByteArray) (k : Nat) (h : k ≤ s.size) : (s.extract 0 k).size = k := by rw [ByteArray.size_extract]; omega
set_option maxRecDepth 100000 in
set_option maxHeartbeats 8000000 in
theorem wrong_txt {B : Nat} {w : World} {a : Nat → Addr} (hS : Sent B w a) (hT : Tabs w) (s m : ByteArray) (hs : s.size ≤ 140737488355328) (hm : m.size ≤ 140737488355328) :
    Calls Tryd.prog 3 #[.string s, .string m] w fun e w' => e = .returned (.bool true) ∧ Nw w w' := by
  have hls : s.data.toList.length = s.size := by rw [Array.length_toList]; rfl
  by_cases hbig : 60000 < s.size + m.size
  · have hbz : (60000 : Int) < (s.size : Int) + (m.size : Int) := by omega
    go_enter Tryd.func3, Tryd.ntmps3
    go_wp2_with fail
    refine (alive_any hS hT).mono ?_
    rintro e w1 ⟨rfl, n1⟩
    go_wp2_with fail
    go_ret
    exact ⟨rfl, n1⟩
  have hbz : ¬ (60000 : Int) < (s.size : Int) + (m.size : Int) := by omega
  have hsm : ¬ 1048576 < s.size := by omega
  go_enter Tryd.func3, Tryd.ntmps3
  have f1 : Nw w w := Fr.refl _ _
  go_wp2_with fail
  obtain ⟨R1, hR1⟩ : ∃ R, R = rd [] s (un64 0 false s.data.toList) := ⟨_, rfl⟩
  have HR1 : Hid (R1 = rd [] s (un64 0 false s.data.toList)) := hR1
  have q1 := from64_any (hS.fr f1 (fun _ _ f => f)) s (by omega)
  rw [← hR1] at q1
  clear hR1
  refine q1.mono ?_
  rintro e w1 ⟨v1, rfl, ev1, n1⟩
  clear q1
  have g1 : Nw w w1 := f1.tr n1
  obtain ⟨hq1, hq2⟩ := neq_nil ev1 31
  obtain ⟨bb, hbb⟩ : ∃ bb, bb = decide (R1.2.1 ≠ 0) := ⟨_, rfl⟩
  have HB1 : Hid (bb = decide (R1.2.1 ≠ 0)) := hbb
  rw [← hbb] at hq2
  clear hbb
  go_upto_if 32 with fail
  clear hq1 hq2
  go_cut [] (fun wx => Nw w wx)
  case first =>
    by_cases hc : R1.2.1 = 0
    · have hbf : bb = false := by rw [HB1.out, hc]; rfl
      rw [hbf]
      rw [hc] at ev1
      go_wp2_with fail
      go_meet
      case rel => exact g1
    · have hbt : bb = true := by rw [HB1.out]; exact decide_eq_true hc
      rw [hbt]
      have hc' := hc
      rw [HR1.out] at hc'
      obtain ⟨k, he, h2⟩ := rd_some [] s (un64 0 false s.data.toList) hsm hc'
      rw [← HR1.out] at h2
      rw [show R1.2.1 = 3 by rw [h2], show R1.2.2 = some (k : Int) by rw [h2]] at ev1
      clear hc hc' h2
      obtain ⟨j, hj, hkl', hen, hmr⟩ := un64_wrong s.data.toList 0 false k he
      obtain rfl : k = j := by omega
      rw [hls] at hkl'
      have HMR : Hid (k < s.data.toList.length → ∀ m, un64 0 false (s.data.toList.take (k + 1) ++ m) = .error k) := hmr
      clear hmr he hj
      obtain ⟨ty, u, rfl⟩ := ev1.some (by omega)
      have qp := place_any (hS.fr g1 (fun _ _ f => f)) _ s k ev1 hkl' (by omega)
      have z0 : ¬ (k : Int) < 0 := by omega
      have hsl := head_slice s k hkl'
      go_wp2_with fail
      refine qp.mono ?_
      rintro e wp ⟨rfl, np⟩
      have fp : Nw w wp := g1.tr np
      have qe := ends_any (hS.fr fp (fun _ _ f => f)) (s.extract 0 k) (by rw [head_size s k hkl']; omega) (by rw [head_list]; exact hen)
      clear hen
      generalize s.extract 0 k = pre at hsl qe
      go_wp2_with fail
      refine qe.mono ?_
      rintro e we ⟨rfl, ne⟩
      have fe : Nw w we := fp.tr ne
      by_cases hkl : k < s.size
      · have : True := trivial
        have hkz : (k : Int) < (s.size : Int) := by omega
        have hsl2 := head_slice s (k + 1) (by omega)
        rw [show ((k + 1 : Nat) : Int) = (k : Int) + 1 by omega] at hsl2
        have hadd := add_any (s.extract 0 (k + 1)) m (by rw [head_size s _ (by omega)]; omega)
        have hcs : (s.extract 0 (k + 1) ++ m).size ≤ 1048576 := by rw [cat_size, head_size s _ (by omega)]; omega
        have hrd : rd [] (s.extract 0 (k + 1) ++ m) (un64 0 false (s.extract 0 (k + 1) ++ m).data.toList) = ([], 3, some (k : Int)) := rd_err _ _ _ (by omega) _ (by rw [cat_list, head_list]; exact HMR.out (by rw [hls]; exact hkl) _)
        have qa := from64_any (hS.fr fe (fun _ _ f => f)) (s.extract 0 (k + 1) ++ m) (by omega)
        rw [hrd] at qa
        generalize s.extract 0 (k + 1) = hd at hsl2 hadd hcs qa
        clear hrd
        go_wp2_with fail
        refine qa.mono ?_
        rintro e wa ⟨va, rfl, eva, na⟩
        have fa : Nw w wa := fe.tr na
        have qi := isAt_any (hS.fr fa (fun _ _ f => f)) eva 3 (k : Int)
        rw [show atB 3 (some (k : Int)) 3 (k : Int) = true by simp [atB]] at qi
        go_wp2_with fail
        refine qi.mono ?_
        rintro e wi ⟨rfl, ni⟩
        go_wp2_with fail
        go_meet
        case rel => exact fa.tr ni
      · have hkz : ¬ (k : Int) < (s.size : Int) := by omega
        go_wp2_with fail
        go_meet
        case rel => exact fe

  case rest =>
  have f2 : Nw w wc := hcut
  clear hcut
  go_wp2_with fail
  obtain ⟨R2, hR2⟩ : ∃ R, R = rd [] s (unhex 0 s.data.toList) := ⟨_, rfl⟩
  have HR2 : Hid (R2 = rd [] s (unhex 0 s.data.toList)) := hR2
  have q2 := fromhex_any (hS.fr f2 (fun _ _ f => f)) s (by omega)
  rw [← hR2] at q2
  clear hR2
  refine q2.mono ?_
  rintro e w2 ⟨v2, rfl, ev2, n2⟩
  clear q2
  have g2 : Nw w w2 := f2.tr n2
  obtain ⟨hq1, hq2⟩ := neq_nil ev2 68
  obtain ⟨bb, hbb⟩ : ∃ bb, bb = decide (R2.2.1 ≠ 0) := ⟨_, rfl⟩
  have HB2 : Hid (bb = decide (R2.2.1 ≠ 0)) := hbb
  rw [← hbb] at hq2
  clear hbb
  go_upto_if 69 with fail
  clear hq1 hq2
  go_cut [] (fun wx => Nw w wx)
  case first =>
    by_cases hc : R2.2.1 = 0
    · have hbf : bb = false := by rw [HB2.out, hc]; rfl
      rw [hbf]
      rw [hc] at ev2
      go_wp2_with fail
      go_meet
      case rel => exact g2
    · have hbt : bb = true := by rw [HB2.out]; exact decide_eq_true hc
      rw [hbt]
      have hc' := hc
      rw [HR2.out] at hc'
      obtain ⟨k, he, h2⟩ := rd_some [] s (unhex 0 s.data.toList) hsm hc'
      rw [← HR2.out] at h2
      rw [show R2.2.1 = 3 by rw [h2], show R2.2.2 = some (k : Int) by rw [h2]] at ev2
      clear hc hc' h2
      obtain ⟨j, hj, hkl', ⟨b, hen⟩, hmr⟩ := unhex_wrong s.data.toList 0 k he
      obtain rfl : k = j := by omega
      rw [hls] at hkl'
      have HMR : Hid (k < s.data.toList.length → ∀ m, unhex 0 (s.data.toList.take (k + 1) ++ m) = .error k) := hmr
      clear hmr he hj
      obtain ⟨ty, u, rfl⟩ := ev2.some (by omega)
      have qp := place_any (hS.fr g2 (fun _ _ f => f)) _ s k ev2 hkl' (by omega)
      have z0 : ¬ (k : Int) < 0 := by omega
      have hsl := head_slice s k hkl'
      go_wp2_with fail
      refine qp.mono ?_
      rintro e wp ⟨rfl, np⟩
      have fp : Nw w wp := g2.tr np
      by_cases hodd : k % 2 = 1
      · have : True := trivial
        have hoz : (((k : Int) % 2) == 1) = true := by rw [beq_iff_eq]; omega
        have hadd0 := add_any (s.extract 0 k) ⟨#[48]⟩ (by rw [head_size s k hkl']; show k + 1 ≤ _; omega)
        have hes : (s.extract 0 k ++ (⟨#[48]⟩ : ByteArray)).size ≤ 1048576 := by rw [cat_size, head_size s k hkl']; show k + 1 ≤ _; omega
        have hrd0 : rd [] (s.extract 0 k ++ (⟨#[48]⟩ : ByteArray)) (unhex 0 (s.extract 0 k ++ (⟨#[48]⟩ : ByteArray)).data.toList) = (b, 0, none) := rd_ok _ _ _ (by omega) _ (by rw [cat_list, head_list]; rw [if_pos hodd] at hen; exact hen)
        have qe := fromhex_any (hS.fr fp (fun _ _ f => f)) (s.extract 0 k ++ (⟨#[48]⟩ : ByteArray)) (by omega)
        rw [hrd0] at qe
        clear hrd0 hen
        generalize s.extract 0 k = pre at hsl hadd0 hes qe
        go_wp2_with fail
        refine qe.mono ?_
        rintro e we ⟨ve, rfl, eve, ne⟩
        obtain rfl := eve.nil
        have fe : Nw w we := fp.tr ne
        by_cases hkl : k < s.size
        · have : True := trivial
          have hkz : (k : Int) < (s.size : Int) := by omega
          have hsl2 := head_slice s (k + 1) (by omega)
          rw [show ((k + 1 : Nat) : Int) = (k : Int) + 1 by omega] at hsl2
          have hadd := add_any (s.extract 0 (k + 1)) m (by rw [head_size s _ (by omega)]; omega)
          have hcs : (s.extract 0 (k + 1) ++ m).size ≤ 1048576 := by rw [cat_size, head_size s _ (by omega)]; omega
          have hrd : rd [] (s.extract 0 (k + 1) ++ m) (unhex 0 (s.extract 0 (k + 1) ++ m).data.toList) = ([], 3, some (k : Int)) := rd_err _ _ _ (by omega) _ (by rw [cat_list, head_list]; exact HMR.out (by rw [hls]; exact hkl) _)
          have qa := fromhex_any (hS.fr fe (fun _ _ f => f)) (s.extract 0 (k + 1) ++ m) (by omega)
          rw [hrd] at qa
          generalize s.extract 0 (k + 1) = hd at hsl2 hadd hcs qa
          clear hrd
          go_wp2_with fail
          refine qa.mono ?_
          rintro e wa ⟨va, rfl, eva, na⟩
          have fa : Nw w wa := fe.tr na
          have qi := isAt_any (hS.fr fa (fun _ _ f => f)) eva 3 (k : Int)
          rw [show atB 3 (some (k : Int)) 3 (k : Int) = true by simp [atB]] at qi
          go_wp2_with fail
          refine qi.mono ?_
          rintro e wi ⟨rfl, ni⟩
          go_wp2_with fail
          go_meet
          case rel => exact fa.tr ni
        · have hkz : ¬ (k : Int) < (s.size : Int) := by omega
          go_wp2_with fail
          go_meet
          case rel => exact fe
      · have : True := trivial
        have hoz : (((k : Int) % 2) == 1) = false := by rw [beq_eq_false_iff_ne]; omega
        have hrd0 : rd [] (s.extract 0 k) (unhex 0 (s.extract 0 k).data.toList) = (b, 0, none) := rd_ok _ _ _ (by rw [head_size s k hkl']; omega) _ (by rw [head_list]; rw [if_neg hodd, List.append_nil] at hen; exact hen)
        have qe := fromhex_any (hS.fr fp (fun _ _ f => f)) (s.extract 0 k) (by rw [head_size s k hkl']; omega)
        rw [hrd0] at qe
        clear hrd0 hen
        generalize s.extract 0 k = pre at hsl qe
        go_wp2_with fail
        refine qe.mono ?_
        rintro e we ⟨ve, rfl, eve, ne⟩
        obtain rfl := eve.nil
        have fe : Nw w we := fp.tr ne
        by_cases hkl : k < s.size
        · have : True := trivial
          have hkz : (k : Int) < (s.size : Int) := by omega
          have hsl2 := head_slice s (k + 1) (by omega)
          rw [show ((k + 1 : Nat) : Int) = (k : Int) + 1 by omega] at hsl2
          have hadd := add_any (s.extract 0 (k + 1)) m (by rw [head_size s _ (by omega)]; omega)
          have hcs : (s.extract 0 (k + 1) ++ m).size ≤ 1048576 := by rw [cat_size, head_size s _ (by omega)]; omega
          have hrd : rd [] (s.extract 0 (k + 1) ++ m) (unhex 0 (s.extract 0 (k + 1) ++ m).data.toList) = ([], 3, some (k : Int)) := rd_err _ _ _ (by omega) _ (by rw [cat_list, head_list]; exact HMR.out (by rw [hls]; exact hkl) _)
          have qa := fromhex_any (hS.fr fe (fun _ _ f => f)) (s.extract 0 (k + 1) ++ m) (by omega)
          rw [hrd] at qa
          generalize s.extract 0 (k + 1) = hd at hsl2 hadd hcs qa
          clear hrd
          go_wp2_with fail
          refine qa.mono ?_
          rintro e wa ⟨va, rfl, eva, na⟩
          have fa : Nw w wa := fe.tr na
          have qi := isAt_any (hS.fr fa (fun _ _ f => f)) eva 3 (k : Int)
          rw [show atB 3 (some (k : Int)) 3 (k : Int) = true by simp [atB]] at qi
          go_wp2_with fail
          refine qi.mono ?_
          rintro e wi ⟨rfl, ni⟩
          go_wp2_with fail
          go_meet
          case rel => exact fa.tr ni
        · have hkz : ¬ (k : Int) < (s.size : Int) := by omega
          go_wp2_with fail
          go_meet
          case rel => exact fe

  case rest =>
  have f3 : Nw w wc := hcut
  clear hcut
  go_wp2_with fail
  obtain ⟨R3, hR3⟩ : ∃ R, R = rd 0 s (fromdec s.data.toList) := ⟨_, rfl⟩
  have HR3 : Hid (R3 = rd 0 s (fromdec s.data.toList)) := hR3
  have q3 := fromdec_any (hS.fr f3 (fun _ _ f => f)) s (by omega)
  rw [← hR3] at q3
  clear hR3
  refine q3.mono ?_
  rintro e w3 ⟨v3, rfl, ev3, n3⟩
  clear q3
  have g3 : Nw w w3 := f3.tr n3
  obtain ⟨hq1, hq2⟩ := neq_nil ev3 113
  obtain ⟨bb, hbb⟩ : ∃ bb, bb = decide (R3.2.1 ≠ 0) := ⟨_, rfl⟩
  have HB3 : Hid (bb = decide (R3.2.1 ≠ 0)) := hbb
  rw [← hbb] at hq2
  clear hbb
  go_upto_if 114 with fail
  clear hq1 hq2
  go_cut [] (fun wx => Nw w wx)
  case first =>
    by_cases hc : R3.2.1 = 0
    · have hbf : bb = false := by rw [HB3.out, hc]; rfl
      rw [hbf]
      rw [hc] at ev3
      go_wp2_with fail
      go_meet
      case rel => exact g3
    · have hbt : bb = true := by rw [HB3.out]; exact decide_eq_true hc
      rw [hbt]
      have hc' := hc
      rw [HR3.out] at hc'
      obtain ⟨k, he, h2⟩ := rd_some 0 s (fromdec s.data.toList) hsm hc'
      rw [← HR3.out] at h2
      rw [show R3.2.1 = 3 by rw [h2], show R3.2.2 = some (k : Int) by rw [h2]] at ev3
      clear hc hc' h2
      obtain ⟨hkl', hen, hmr⟩ := fromdec_wrong s.data.toList k he
      rw [hls] at hkl'
      have HMR : Hid (k < s.data.toList.length → ∀ m, fromdec (s.data.toList.take (k + 1) ++ m) = .error k) := hmr
      clear hmr he
      obtain ⟨ty, u, rfl⟩ := ev3.some (by omega)
      have qp := place_any (hS.fr g3 (fun _ _ f => f)) _ s k ev3 hkl' (by omega)
      have z0 : ¬ (k : Int) < 0 := by omega
      have hsl := head_slice s k hkl'
      go_wp2_with fail
      refine qp.mono ?_
      rintro e wp ⟨rfl, np⟩
      have fp : Nw w wp := g3.tr np
      by_cases hk0 : 0 < k
      · have hk0z : (0 : Int) < (k : Int) := by omega
        obtain ⟨b, hen⟩ := hen hk0
        have hrd0 : rd 0 (s.extract 0 k) (fromdec (s.extract 0 k).data.toList) = (b, 0, none) := rd_ok _ _ _ (by rw [head_size s k hkl']; omega) _ (by rw [head_list]; exact hen)
        have qe := fromdec_any (hS.fr fp (fun _ _ f => f)) (s.extract 0 k) (by rw [head_size s k hkl']; omega)
        rw [hrd0] at qe
        clear hrd0 hen
        generalize s.extract 0 k = pre at hsl qe
        go_wp2_with fail
        refine qe.mono ?_
        rintro e we ⟨ve, rfl, eve, ne⟩
        obtain rfl := eve.nil
        have fe : Nw w we := fp.tr ne
        by_cases hkl : k < s.size
        · have : True := trivial
          have hkz : (k : Int) < (s.size : Int) := by omega
          have hsl2 := head_slice s (k + 1) (by omega)
          rw [show ((k + 1 : Nat) : Int) = (k : Int) + 1 by omega] at hsl2
          have hadd := add_any (s.extract 0 (k + 1)) m (by rw [head_size s _ (by omega)]; omega)
          have hcs : (s.extract 0 (k + 1) ++ m).size ≤ 1048576 := by rw [cat_size, head_size s _ (by omega)]; omega
          have hrd : rd 0 (s.extract 0 (k + 1) ++ m) (fromdec (s.extract 0 (k + 1) ++ m).data.toList) = (0, 3, some (k : Int)) := rd_err _ _ _ (by omega) _ (by rw [cat_list, head_list]; exact HMR.out (by rw [hls]; exact hkl) _)
          have qa := fromdec_any (hS.fr fe (fun _ _ f => f)) (s.extract 0 (k + 1) ++ m) (by omega)
          rw [hrd] at qa
          generalize s.extract 0 (k + 1) = hd at hsl2 hadd hcs qa
          clear hrd
          go_wp2_with fail
          refine qa.mono ?_
          rintro e wa ⟨va, rfl, eva, na⟩
          have fa : Nw w wa := fe.tr na
          have qi := isAt_any (hS.fr fa (fun _ _ f => f)) eva 3 (k : Int)
          rw [show atB 3 (some (k : Int)) 3 (k : Int) = true by simp [atB]] at qi
          go_wp2_with fail
          refine qi.mono ?_
          rintro e wi ⟨rfl, ni⟩
          go_wp2_with fail
          go_meet
          case rel => exact fa.tr ni
        · have hkz : ¬ (k : Int) < (s.size : Int) := by omega
          go_wp2_with fail
          go_meet
          case rel => exact fe
      · have hk0z : ¬ (0 : Int) < (k : Int) := by omega
        clear hen hsl
        by_cases hkl : k < s.size
        · have : True := trivial
          have hkz : (k : Int) < (s.size : Int) := by omega
          have hsl2 := head_slice s (k + 1) (by omega)
          rw [show ((k + 1 : Nat) : Int) = (k : Int) + 1 by omega] at hsl2
          have hadd := add_any (s.extract 0 (k + 1)) m (by rw [head_size s _ (by omega)]; omega)
          have hcs : (s.extract 0 (k + 1) ++ m).size ≤ 1048576 := by rw [cat_size, head_size s _ (by omega)]; omega
          have hrd : rd 0 (s.extract 0 (k + 1) ++ m) (fromdec (s.extract 0 (k + 1) ++ m).data.toList) = (0, 3, some (k : Int)) := rd_err _ _ _ (by omega) _ (by rw [cat_list, head_list]; exact HMR.out (by rw [hls]; exact hkl) _)
          have qa := fromdec_any (hS.fr fp (fun _ _ f => f)) (s.extract 0 (k + 1) ++ m) (by omega)
          rw [hrd] at qa
          generalize s.extract 0 (k + 1) = hd at hsl2 hadd hcs qa
          clear hrd
          go_wp2_with fail
          refine qa.mono ?_
          rintro e wa ⟨va, rfl, eva, na⟩
          have fa : Nw w wa := fp.tr na
          have qi := isAt_any (hS.fr fa (fun _ _ f => f)) eva 3 (k : Int)
          rw [show atB 3 (some (k : Int)) 3 (k : Int) = true by simp [atB]] at qi
          go_wp2_with fail
          refine qi.mono ?_
          rintro e wi ⟨rfl, ni⟩
          go_wp2_with fail
          go_meet
          case rel => exact fa.tr ni
        · have hkz : ¬ (k : Int) < (s.size : Int) := by omega
          go_wp2_with fail
          go_meet
          case rel => exact fp

  case rest =>
  have f4 : Nw w wc := hcut
  clear hcut
  go_wp2_with fail
  refine (alive_any (hS.fr f4 (fun _ _ f => f)) (hT.fr f4)).mono ?_
  rintro e w5 ⟨rfl, n5⟩
  go_wp2_with fail
  go_ret
  exact ⟨rfl, f4.tr n5⟩
end Go.Proofs.YtdcnoepgnncjoabDoor
