/- tile: the document's threes, Name, Path. -/
import Derived.Test.YtgobdjdaehlgdaaGreatDoorDb
import Derived.Test.YtgobdjdaehlgdaaGreatDoorHq
namespace Go.Proofs.YtgobdjdaehlgdaaGreatDoor
open Go.RowKit
open Go.Lib (decDigits nDigits)
set_option linter.unusedVariables false
set_option linter.unusedSimpArgs false
section
variable {w : World} {o : Oper} {a : Act} {K : Act → Prop}
theorem quiet_cellD {t : TypeId} (x : Operand) (ho : o.op = .load t x) (g off : Nat) (hx : a.eval x = .pointer (some ⟨g, off, none⟩)) (ht : ∀ W, (isAgg t).run Tryz.prog W = .ok false W) (v : Value) (hc : w.cell? ⟨g, off, none⟩ = some v) (hk : K (a.put o.dst v)) : o.quiet Tryz.prog a (fun w' => ∃ x : Grw w, w' = x.val) K := by
  refine ⟨v, ?_, hk⟩
  rintro W ⟨y, rfl⟩
  have h1 := y.cell hc
  unfold Oper.quietAt execOp
  simp only [ho, hx, Instr.loadAt, sure, loadVar, Sem.run_bind, Sem.run_pure, Sem.run_ite, ht, Result.andThen_ok, run_load, h1, if_false, Bool.false_eq_true]
  exact ⟨rfl, rfl⟩
end
theorem app_list (x y : ByteArray) : (x ++ y).data.toList = x.data.toList ++ y.data.toList := by
  rw [ByteArray.data_append, Array.toList_append]
theorem bx_of {x : ByteArray} {l : List UInt8} (h : x.data.toList = l) : x = ⟨l.toArray⟩ := by
  cases x; simp at h; subst h; simp
set_option maxRecDepth 100000 in
set_option maxHeartbeats 1000000 in
theorem rthr_any (n : Nat) (hn : n < 18446744073709551616) (w : World) :
    Calls Tryz.prog 129 #[.int .u64 (n : Int)] w fun e w' => e = .returned (.string ⟨(thrL (pad3 (decDigits n))).toArray⟩) ∧ Nw w w' := by
  obtain ⟨D, hD⟩ : ∃ D, D = decDigits n := ⟨_, rfl⟩
  have hD1 : 1 ≤ D.length := by rw [hD, Go.Lib.decDigits_length]; exact Go.Lib.nDigits_pos n
  have hD2 : D.length ≤ 20 := by rw [hD, Go.Lib.decDigits_length]; exact nDigits_lt 19 n (by omega)
  have QD : Hid (∀ V, Calls Tryz.prog 128 #[.int .u64 (n : Int)] V fun e w' => e = .returned (.string ⟨D.toArray⟩) ∧ Nw V w') := fun V => by rw [hD]; exact Rf.refdec_any n hn V
  rw [← hD]
  clear hD
  obtain ⟨d, hd⟩ : ∃ d, d = (⟨D.toArray⟩ : ByteArray) := ⟨_, rfl⟩
  have HDL : Hid (d.data.toList = D) := by show _ = _; rw [hd]
  have hds : d.size = D.length := by rw [hd, bxs]
  rw [← hd] at QD
  obtain ⟨m, hm⟩ : ∃ m, m = D.length := ⟨_, rfl⟩
  have HM : Hid (D.length = m) := hm.symm
  rw [← hm] at hD1 hD2 hds
  obtain ⟨P, hP⟩ : ∃ P, P = pad3 D := ⟨_, rfl⟩
  have HP : Hid (P = List.replicate ((3 - m % 3) % 3) 48 ++ D) := by show _ = _; rw [hP, pad3, HM.out]
  rw [← hP]
  clear hm hd hP
  go_enter Tryz.func129, Tryz.ntmps129
  go_wp2_with fail
  refine (QD.out _).mono ?_
  rintro e w1 ⟨rfl, n1⟩
  have N1 : Hid (Nw w w1) := n1
  clear n1 QD
  go_wp2
  go_loop [3] (fun s => ∃ (j : Nat) (x : ByteArray), s = .string x ∧ x.size = j + m ∧ j ≤ (3 - m % 3) % 3 ∧ x.data.toList = List.replicate j 48 ++ D) (fun s => 40 - strLen s)
  case atStart => exact ⟨0, d, rfl, by omega, by omega, by rw [HDL.out]; simp⟩
  case round =>
    obtain ⟨j, x, rfl, hx, hj, hxl⟩ := hrel
    have HXL : Hid (x.data.toList = List.replicate j 48 ++ D) := hxl
    clear hxl
    by_cases h3 : (j + m) % 3 = 0
    · have h3i : (((x.size : Int) % 3) != 0) = false := by simp; omega
      have HXP : Hid (x.data.toList = P) := by
        show _ = _
        rw [HXL.out, HP.out, show j = (3 - m % 3) % 3 by omega]
      have hxs : 3 ≤ x.size ∧ x.size ≤ 24 := by omega
      clear HXL h3
      go_wp2
      go_loop [3, 4] (fun s o => ∃ (z y : ByteArray), s = .string z ∧ o = .string y ∧ z.size ≤ 24 ∧ 1 ≤ z.size ∧ y.size + 5 * z.size ≤ 200 ∧ y.data.toList ++ thrL z.data.toList = thrL P) (fun s _ => strLen s)
      case atStart => exact ⟨x, ⟨#[]⟩, rfl, rfl, by omega, by omega, by show 0 + 5 * x.size ≤ 200; omega, by rw [HXP.out]; rfl⟩
      case round =>
        obtain ⟨z, y, rfl, rfl, hz1, hz2, hyb, hzy⟩ := hrel
        have hyb2 : y.size ≤ 200 := by omega
        have HZY : Hid (y.data.toList ++ thrL z.data.toList = thrL P) := hzy
        have hzl := bytes_len z
        clear hzy
        by_cases hlt : 3 < z.size
        · have hli : (3 : Int) < (z.size : Int) := by omega
          have e3 := thrL_gt z.data.toList (by omega)
          have HE3 : Hid (thrL z.data.toList = [120] ++ z.data.toList.take 3 ++ [47] ++ thrL (z.data.toList.drop 3)) := e3
          have hls : (z.extract 3 z.size).size = z.size - 3 := by rw [← bytes_len, ext_drop, List.length_drop, hzl]
          clear e3 hzl
          go_wp2
          refine ⟨⟨_, _, rfl, rfl, ?_, ?_, ?_, ?_⟩, ?_⟩
          · omega
          · omega
          · have e4 : (z.extract 0 3).size = 3 := by rw [← bytes_len, ext_take, List.length_take, bytes_len]; omega
            simp only [ByteArray.size_append, e4, hls]
            show y.size + 1 + 3 + 1 + _ ≤ 200
            omega
          · rw [← HZY.out, HE3.out]
            simp only [app_list, ext_take, ext_drop, List.append_assoc]
          · simp only [strLen]; omega
        · have hli : ¬ (3 : Int) < (z.size : Int) := by omega
          have HFIN : Hid (y ++ z = ⟨(thrL P).toArray⟩) := bx_of (by rw [app_list, ← HZY.out, thrL_le z.data.toList (by omega)])
          clear hzl
          go_wp2
          go_ret
          exact ⟨by rw [HFIN.out]; rfl, N1.out⟩
    · have h3i : (((x.size : Int) % 3) != 0) = true := by simp; omega
      go_wp2
      refine ⟨⟨j + 1, _, rfl, ?_, ?_, ?_⟩, ?_⟩
      · rw [ByteArray.size_append, hx]; show 1 + (j + m) = _; omega
      · omega
      · rw [app_list, HXL.out, List.replicate_succ]; rfl
      · simp only [strLen, ByteArray.size_append, hx]; show 40 - (1 + (j + m)) < _; omega
set_option maxRecDepth 100000 in
set_option maxHeartbeats 1000000 in
theorem rname_any (L I Z : Nat) (hL : L ≤ 255) (hI : I < 18446744073709551616) (hW : Z ≤ 256) (w : World) :
    Calls Tryz.prog 84 #[tl L I Z] w fun e w' => e = .returned (.string ⟨(nm L I Z).toArray⟩) ∧ Nw w w' := by
  obtain ⟨dL, hdL⟩ : ∃ d, d = (⟨(decDigits L).toArray⟩ : ByteArray) := ⟨_, rfl⟩
  obtain ⟨dW, hdW⟩ : ∃ d, d = (⟨(decDigits Z).toArray⟩ : ByteArray) := ⟨_, rfl⟩
  obtain ⟨dI, hdI⟩ : ∃ d, d = (⟨(thrL (pad3 (decDigits I))).toArray⟩ : ByteArray) := ⟨_, rfl⟩
  have QL : Hid (∀ V, Nw w V → Calls Tryz.prog 128 #[.int .u64 (L : Int)] V fun e w' => e = .returned (.string dL) ∧ Nw V w') := fun V _ => by rw [hdL]; exact Rf.refdec_any L (by omega) V
  have QW' : Hid (∀ V, Calls Tryz.prog 128 #[.int .u64 (Z : Int)] V fun e w' => e = .returned (.string dW) ∧ Nw V w') := fun V => by rw [hdW]; exact Rf.refdec_any Z (by omega) V
  have QI : Hid (∀ V, Nw w V → Calls Tryz.prog 129 #[.int .u64 (I : Int)] V fun e w' => e = .returned (.string dI) ∧ Nw V w') := fun V _ => by rw [hdI]; exact rthr_any I hI V
  have HNM : Hid (nm L I Z = [116, 105, 108, 101, 47] ++ dL.data.toList ++ [47] ++ dI.data.toList ++ (if Z < 256 then [46, 112, 47] ++ dW.data.toList else [])) := by show _ = _; rw [hdL, hdW, hdI]; rfl
  have sL : dL.size ≤ 20 := by rw [hdL, bxs, Go.Lib.decDigits_length]; exact nDigits_lt 19 L (by omega)
  have sW : dW.size ≤ 20 := by rw [hdW, bxs, Go.Lib.decDigits_length]; exact nDigits_lt 19 Z (by omega)
  have sI : dI.size ≤ 100 := by
    rw [hdI, bxs]
    obtain ⟨k, hk⟩ := pad3_lenU I
    rw [thrL_len k _ hk]
    have h1 := pad3_len (decDigits I)
    have h2 : (decDigits I).length ≤ 20 := by rw [Go.Lib.decDigits_length]; exact nDigits_lt 19 I (by omega)
    omega
  clear hdL hdW hdI
  have c0 := nwa w (.cells #[.int .u8 (L : Int), .int .u64 (I : Int), .int .i64 (Z : Int)] 56)
  have N0 : Hid (Nw w (w.alloc (.cells #[.int .u8 (L : Int), .int .u64 (I : Int), .int .i64 (Z : Int)] 56))) := c0
  obtain ⟨k0, k1, _⟩ := cell3 (heap_new w (.cells #[.int .u8 (L : Int), .int .u64 (I : Int), .int .i64 (Z : Int)] 56))
  clear c0
  go_enter Tryz.func84, Tryz.ntmps84
  go_wp2_with fail
  (refine wp_region_grown (by kernel_rfl) (by kernel_rfl) ?_; (repeat (first | go_big_quiet_skip | (go_big_quiet_want; first | (refine quiet_cellD (.tmp 4) rfl w.heap.size 0 rfl Tryz.isAgg5 (.int .u8 (L : Int)) k0 ?_; ((try simp only [Act.put, List.setIfInBounds_toArray, List.set_cons_zero, List.set_cons_succ]); go_big_quiet_on)) | (refine quiet_cellD (.tmp 10) rfl w.heap.size 1 rfl Tryz.isAgg22 (.int .u64 (I : Int)) k1 ?_; ((try simp only [Act.put, List.setIfInBounds_toArray, List.set_cons_zero, List.set_cons_succ]); go_big_quiet_on)) | (go_big_quiet_op; first | go_big_quiet_on | go_big_quiet_call (first | rfl | with_reducible exact grw_call QL.out N0.out _ | with_reducible exact grw_call QI.out N0.out _))))); refine wpQuiet_nil ?_; rintro W ⟨⟨_, nW⟩, rfl⟩)
  obtain ⟨l0, b0, m1⟩ := one_made nW
  obtain ⟨e0, e1, e2⟩ := cell3 b0
  have M1 : Hid (Nw w W) := m1
  by_cases hlt : Z < 256
  · have hli : (Z : Int) < 256 := by omega
    go_wp2_with fail
    refine (QW'.out _).mono ?_
    rintro e w2 ⟨rfl, n2⟩
    go_wp2
    go_ret
    exact ⟨congrArg (fun x => Ending.returned (Value.string x)) (bx_of (by rw [HNM.out, if_pos hlt]; simp only [app_list, List.append_assoc])), m1.tr n2⟩
  · have hli : ¬ (Z : Int) < 256 := by omega
    go_wp2
    go_ret
    exact ⟨congrArg (fun x => Ending.returned (Value.string x)) (bx_of (by rw [HNM.out, if_neg hlt]; simp only [app_list, List.append_assoc, List.append_nil])), m1⟩
end Go.Proofs.YtgobdjdaehlgdaaGreatDoor
