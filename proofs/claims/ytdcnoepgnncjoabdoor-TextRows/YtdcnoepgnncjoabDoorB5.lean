/- TextRows: lines, a line feed behind each, are the text. -/
import Derived.Test.YtdcnoepgnncjoabDoorB3
namespace Go.Proofs.YtdcnoepgnncjoabDoor
open Go.RowKit
set_option linter.unusedVariables false
set_option linter.unusedSimpArgs false

/-- A list of texts behind a list of texts of the call's own. -/
theorem wpList_texts {w : World} {ops : Array Oper} {rest : List Oper} {o : Oper} {a : Act} {Q : Exit → Act → World → Prop} (hwant : Region.wanted o (yielded ops a.tmps) = true) (s x : Operand)
    (ho : o.op = .call { callee := .builtin .append, args := #[s, x], argTypes := #[34, 34] })
    (base B2 : Nat) (v u : Value) (ls ms : List (List UInt8)) (hs : a.eval s = v) (hown : OwnS base w v ls) (hx : a.eval x = u) (hsrc : OwnS B2 w u ms)
    (hl : ls.length + ms.length ≤ 4194304) (hbase : base ≤ w.heap.size)
    (h : ∀ v' w', OwnS base w' v' (ls ++ ms) → w.grownBy w' v.ownBlock → wpList Tryd.prog ops Q rest (a.put o.dst v') w') : wpList Tryd.prog ops Q (o :: rest) a w := by
  obtain ⟨i0, hi, hz0, hz1, hz2⟩ := info_partsS
  rcases hsrc.2 with ⟨rfl, hn⟩ | ⟨g, cap, cur, rfl, _⟩
  · have hms : ms = [] := List.eq_nil_of_length_eq_zero hn
    subst hms
    refine wpList_step fun K hK => ?_
    rw [if_pos hwant]
    have hr := run_append_owned_none (P := Tryd.prog) w base 34 o.type 9 i0 1 Tryd.underlying34 hi v _ _ hown
    unfold Oper.wp execOp
    simp only [ho, resolve, invoke, builtin, Sem.run_bind, Sem.run_pure, Result.andThen_ok, List.map_toArray, List.map_cons, List.map_nil, hs, hx, hr]
    refine hK _ _ (h v w (by simpa using hown) ⟨rfl, rfl, rfl, Nat.le_refl _, fun _ _ _ => rfl⟩)
  · refine wpList_step fun K hK => ?_
    rw [if_pos hwant]
    refine wp_append_own w s x 34 ho base 9 i0 (.string ⟨#[]⟩) 1 16 Tryd.underlying34 hi hz0 hz1 hz2 rfl (by decide) v _ _ hs hown ⟨g, 0, none⟩ ms.length cap (ms.map sv) hx (by simp) (hsrc.cells rfl) ?_ (by unfold maxLen; omega) (by omega) hbase ?_
    · intro u hu
      obtain ⟨y, _, rfl⟩ := List.mem_map.1 hu
      rfl
    · intro v' w' h1 h2 _
      refine hK _ _ (h v' w' ?_ h2)
      unfold OwnS
      rw [List.length_append, List.map_append]
      exact h1
theorem lines_good {B : Nat} {w : World} {a : Nat → Addr} (hS : Sent B w a) (s : ByteArray) (hs : s.size ≤ 1048576) (h : Lf s.data.toList) :
    Calls Tryd.prog 13 #[.string s] w fun e w' => ∃ v, e = .returned (.tuple #[v, .nilIface]) ∧ OwnS w.heap.size w' v (lns [] s.data.toList) ∧ Nw w w' := by
  refine (lines_any hS s (by omega)).mono ?_
  rintro e w' ⟨v, er, rfl, ho, hev, hn⟩
  have hr : rd [] s (unls s.data.toList) = (lns [] s.data.toList, 0, none) := rd_ok _ _ _ (by omega) _ (by unfold unls; rw [if_pos h])
  rw [hr] at ho hev
  obtain rfl := hev.nil
  exact ⟨v, rfl, ho, hn⟩
theorem lines_bad {B : Nat} {w : World} {a : Nat → Addr} (hS : Sent B w a) (s : ByteArray) (hs : s.size ≤ 1048576) (h : ¬ Lf s.data.toList) :
    Calls Tryd.prog 13 #[.string s] w fun e w' => ∃ v t u, e = .returned (.tuple #[v, .iface t u]) ∧ EV w' a (.iface t u) 3 (some (s.size : Int)) ∧ Nw w w' := by
  refine (lines_any hS s (by omega)).mono ?_
  rintro e w' ⟨v, er, rfl, ho, hev, hn⟩
  have hr : rd [] s (unls s.data.toList) = ([], 3, some (s.size : Int)) := rd_err _ _ _ (by omega) _ (by unfold unls; rw [if_neg h, Array.length_toList]; rfl)
  rw [hr] at ho hev
  change EV w' a er 3 (some (s.size : Int)) at hev
  obtain ⟨t, u, rfl⟩ := hev.some (by omega)
  exact ⟨v, t, u, rfl, hev, hn⟩
theorem last_app (s t : List UInt8) (h : t ≠ []) : (s ++ t).getLast? = t.getLast? := by
  rw [List.getLast?_append, List.getLast?_eq_some_getLast h]; rfl
theorem lf_behind (s t : List UInt8) (h : t ≠ []) : Lf (s ++ t) ↔ Lf t := by
  unfold Lf
  rw [last_app s t h]
  constructor
  · rintro (h1 | h1)
    · exact absurd (List.append_eq_nil_iff.1 h1).2 h
    · exact .inr h1
  · rintro (h1 | h1)
    · exact absurd h1 h
    · exact .inr h1
/-- Lines, a line feed behind each. -/
def jnl (ls : List (List UInt8)) : List UInt8 := ls.flatMap (· ++ [10])
theorem jnl_succ (ls : List (List UInt8)) (k : Nat) (h : k < ls.length) : jnl (ls.take (k + 1)) = jnl (ls.take k) ++ ls.getD k [] ++ [10] := by
  unfold jnl
  rw [List.take_succ_eq_append_getElem h, List.flatMap_append, List.getD_eq_getElem?_getD, List.getElem?_eq_getElem h]
  simp
theorem jnl_le (ls : List (List UInt8)) (k : Nat) : (jnl (ls.take k)).length ≤ (jnl ls).length := by
  have : jnl ls = jnl (ls.take k) ++ jnl (ls.drop k) := by unfold jnl; rw [← List.flatMap_append, List.take_append_drop]
  rw [this, List.length_append]
  omega
theorem bytes_of {x y : ByteArray} (h : x.data.toList = y.data.toList) : x = y := by
  rw [← bytes_eta x, ← bytes_eta y, h]

set_option maxRecDepth 100000 in
set_option maxHeartbeats 8000000 in
theorem rows_txt {B : Nat} {w : World} {a : Nat → Addr} (hS : Sent B w a) (hT : Tabs w) (s t : ByteArray) (hs : s.size ≤ 140737488355328) (ht : t.size ≤ 140737488355328) :
    Calls Tryd.prog 4 #[.string s, .string t] w fun e w' => e = .returned (.bool true) ∧ Nw w w' := by
  by_cases hbig : 1048576 < s.size + t.size
  · have hbz : (1048576 : Int) < (s.size : Int) + (t.size : Int) := by omega
    go_enter Tryd.func4, Tryd.ntmps4
    go_wp2_with fail
    refine (alive_any hS hT).mono ?_
    rintro e w1 ⟨rfl, n1⟩
    go_wp2_with fail
    go_ret
    exact ⟨rfl, n1⟩
  have hbz : ¬ (1048576 : Int) < (s.size : Int) + (t.size : Int) := by omega
  have hadd := add_any s t (by omega)
  obtain ⟨st, hst⟩ : ∃ st, st = s ++ t := ⟨_, rfl⟩
  have hsz : st.size = s.size + t.size := by rw [hst, cat_size]
  have HSZ : Hid (st.size = s.size + t.size) := hsz
  have hstl : st.size ≤ 1048576 := by omega
  have HST : Hid (st.data.toList = s.data.toList ++ t.data.toList) := by unfold Hid; rw [hst, cat_list]
  rw [← hst] at hadd
  clear hst hsz
  have hlt : t.data.toList.length = t.size := by rw [Array.length_toList]; rfl
  have HLT : Hid (t.data.toList.length = t.size) := hlt
  clear hlt
  by_cases hLt : Lf t.data.toList
  · by_cases hLs : Lf s.data.toList
    · -- both
      have HLs : Hid (Lf s.data.toList) := hLs
      have HLst : Hid (Lf st.data.toList) := by
        unfold Hid
        rw [HST.out]
        by_cases h0 : t.data.toList = []
        · rw [h0, List.append_nil]; exact hLs
        · exact (lf_behind _ _ h0).2 hLt
      have HAP : Hid (lns [] st.data.toList = lns [] s.data.toList ++ lns [] t.data.toList) := by unfold Hid; rw [HST.out]; exact lns_app _ _ hLs
      have HBK : Hid (jnl (lns [] s.data.toList) = s.data.toList) := lns_back _ hLs
      have HNO : Hid (∀ x ∈ lns [] s.data.toList, 10 ∉ x) := lns_no _ [] (by simp)
      have hla : (lns [] s.data.toList).length ≤ s.size := by have := lns_short s.data.toList []; rw [Array.length_toList] at this; exact this
      have hlb : (lns [] t.data.toList).length ≤ t.size := by have := lns_short t.data.toList []; rw [Array.length_toList] at this; exact this
      have q1 := lines_good hS s (by omega) hLs
      have Q2 := fun {w : World} (h : Sent B w a) => lines_good h t (by omega) hLt
      have Q3 := fun {w : World} (h : Sent B w a) => lines_good h st hstl HLst.out
      rw [HAP.out] at Q3
      clear hLs hLt
      have HBL : Hid ((jnl (lns [] s.data.toList)).length = s.size) := by unfold Hid; rw [HBK.out, Array.length_toList]; rfl
      have HBK2 : Hid (∀ x : ByteArray, x.data.toList = jnl (lns [] s.data.toList) → x = s) := fun x hx => bytes_of (hx.trans HBK.out)
      clear HLs HLst HAP HBK HST
      generalize lns [] s.data.toList = la at q1 Q3 HBK2 HBL HNO hla
      generalize lns [] t.data.toList = lb at Q2 Q3 hlb
      go_enter Tryd.func4, Tryd.ntmps4
      go_wp2_with fail
      refine q1.mono ?_
      rintro e w1 ⟨v1, rfl, o1, n1⟩
      clear q1
      go_wp2_with fail
      refine (Q2 (hS.fr n1 (fun _ _ f => f))).mono ?_
      rintro e w2 ⟨v2, rfl, o2, n2⟩
      have f2 : Nw w w2 := n1.tr n2
      go_wp2_with fail
      refine (Q3 (hS.fr f2 (fun _ _ f => f))).mono ?_
      rintro e w3 ⟨v3, rfl, o3, n3⟩
      have f3 : Nw w w3 := f2.tr n3
      clear Q2 Q3
      have o1' : OwnS w.heap.size w3 v1 la := (o1.fr n2).fr n3
      have o2' : OwnS w1.heap.size w3 v2 lb := o2.fr n3
      clear o1 o2
      obtain ⟨a1, c1, rfl, hc1⟩ := o1'.sl
      have HC1 : Hid (∀ j, j < la.length → ∃ g off, a1 = some ⟨g, off, none⟩ ∧ w3.cell? ⟨g, off + j, none⟩ = some (sv (la.getD j []))) := hc1
      clear hc1
      go_wp2_with fail
      go_loopw [12, 13] (fun b i wr => ∃ (k : Nat) (bb : ByteArray), k ≤ la.length ∧ i = .int .i64 k ∧ b = .string bb ∧ bb.data.toList = jnl (la.take k) ∧ Nw w3 wr) (fun _ i _ => la.length - (intOf i).toNat)
      case atStart => exact ⟨0, ⟨#[]⟩, by omega, rfl, rfl, rfl, Fr.refl _ _⟩
      case round =>
        obtain ⟨k, bb, hk, rfl, rfl, hbb, hnw⟩ := hrel
        have HBB : Hid (bb.data.toList = jnl (la.take k)) := hbb
        clear hbb
        have hbl : bb.size ≤ s.size := by
          have h1 := jnl_le la k
          rw [HBL.out, ← HBB.out, Array.length_toList] at h1
          exact h1
        by_cases hlt : k < la.length
        · obtain ⟨g1, off1, rfl, d1⟩ := HC1.out k hlt
          obtain ⟨A, hA⟩ : ∃ A : ByteArray, A = ⟨(la.getD k []).toArray⟩ := ⟨_, rfl⟩
          rw [show sv (la.getD k []) = .string A by rw [hA]] at d1
          have hAl : A.data.toList = la.getD k [] := by rw [hA]
          have HJ : Hid (((bb ++ A) ++ lfB).data.toList = jnl (la.take (k + 1))) := by unfold Hid; rw [cat_list, cat_list, HBB.out, hAl, jnl_succ la k hlt]
          have hAs : bb.size + A.size + 1 ≤ s.size := by
            have h1 := jnl_le la (k + 1)
            rw [HBL.out, ← HJ.out, Array.length_toList] at h1
            have h2 : ((bb ++ A) ++ lfB).size = bb.size + A.size + 1 := by rw [cat_size, cat_size]; rfl
            rw [← h2]
            exact h1
          have HNA : Hid (∀ j (h : j < A.size), (A[j]'h) ≠ 10) := fun j h e => by
            have hm : la.getD k [] ∈ la := by rw [List.getD_eq_getElem?_getD, List.getElem?_eq_getElem hlt]; exact List.getElem_mem hlt
            refine HNO.out _ hm ?_
            rw [← hAl, ← e]
            exact Array.getElem_mem_toList _
          clear hA hAl
          have hadd1 := add_any bb A (by omega)
          have hadd2 := add_any (bb ++ A) lfB (by rw [cat_size]; show _ + 1 ≤ _; omega)
          generalize bb ++ A = bA at hadd1 hadd2 HJ
          generalize bA ++ lfB = bAl at hadd2 HJ
          have d1' := hnw.cellOf d1
          go_wp2_with fail
          go_loopw [14] (fun i wq => ∃ j : Nat, j ≤ A.size ∧ i = .int .i64 j ∧ Nw w3 wq) (fun i _ => A.size - (intOf i).toNat)
          case atStart => exact ⟨0, by omega, rfl, hnw⟩
          case round =>
            obtain ⟨j, hj, rfl, hnq⟩ := hrel
            have d2 := hnq.cellOf d1
            by_cases hjl : j < A.size
            · have hne := HNA.out j hjl
              have hc10 : (((A[j]'hjl).toNat : Int) == 10) = false := by
                rw [beq_eq_false_iff_ne]
                intro e
                apply hne
                apply UInt8.toNat_inj.1
                show _ = 10
                omega
              go_wp2_with fail
              exact ⟨⟨j + 1, by omega, by go_num, hnq⟩, by simp [intOf]; omega⟩
            · have hjz : ¬ (j : Int) < (A.size : Int) := by omega
              go_wp2_with fail
              exact ⟨⟨k + 1, bAl, by omega, by go_num, rfl, HJ.out, hnq⟩, by simp [intOf]; omega⟩
        · obtain rfl : k = la.length := by omega
          obtain rfl : bb = s := HBK2.out bb (by rw [HBB.out, List.take_length])
          have o1r := o1'.fr hnw
          have o2r := o2'.fr hnw
          have o3r := o3.fr hnw
          have fr : Nw w wr := f3.tr hnw
          have oc := World.ownsRow_lit (base := wr.heap.size) (e := 9) (size := 1) wr #[] 0 (Nat.le_refl _) (by unfold maxLen; omega) rfl
          have nc : Nw wr (wr.alloc (.cells #[] 9)) := (Fr.refl _ _).alloc _
          have o1c := OwnS.fr o1r nc
          go_wp2_with (at_builtin; refine wpList_texts rfl _ _ rfl wr.heap.size w.heap.size _ _ [] la rfl oc rfl o1c (by simp; omega) (by simp) ?_)
          intro va wa oa ga
          have na : Nw wr wa := nc.grown ga (fun k e h => absurd (oc.lt k e).1 (by omega))
          have o2a := o2r.fr na
          clear oc nc o1c ga
          go_wp2_with (at_builtin; refine wpList_texts rfl _ _ rfl wr.heap.size w1.heap.size _ _ la lb rfl oa rfl o2a (by omega) (by have := na.size; omega) ?_)
          intro vb wb ob gb
          have nb : Nw wr wb := na.grown gb (fun k e h => absurd (oa.lt k e).1 (by omega))
          have q := sameTexts_any v3 vb (la ++ lb) (la ++ lb) wb (o3r.fr nb).sl ob.sl (by simp; omega) (by simp; omega)
          rw [decide_eq_true rfl] at q
          clear oa gb
          go_wp2_with fail
          refine q.mono ?_
          rintro e wc ⟨rfl, ncc⟩
          have fc : Nw w wc := fr.tr (nb.tr ncc)
          go_wp2_with fail
          refine (alive_any (hS.fr fc (fun _ _ f => f)) (hT.fr fc)).mono ?_
          rintro e wd ⟨rfl, nd⟩
          go_wp2_with fail
          go_ret
          exact ⟨rfl, fc.tr nd⟩
    · -- s is no lines, t is
      have q1 := lines_bad hS s (by omega) hLs
      have Q2 := fun {w : World} (h : Sent B w a) => lines_good h t (by omega) hLt
      by_cases h0 : t.size = 0
      · have ht0 : t.data.toList = [] := List.eq_nil_of_length_eq_zero (by rw [HLT.out]; exact h0)
        have hLst : ¬ Lf st.data.toList := by rw [HST.out, ht0, List.append_nil]; exact hLs
        have Q3 := fun {w : World} (h : Sent B w a) => lines_bad h st hstl hLst
        clear hLs hLst ht0
        obtain rfl := size_zero t h0
        go_enter Tryd.func4, Tryd.ntmps4
        go_wp2_with fail
        refine q1.mono ?_
        rintro e w1 ⟨v1, t1, u1, rfl, ev1, n1⟩
        clear q1
        go_wp2_with fail
        refine (Q2 (hS.fr n1 (fun _ _ f => f))).mono ?_
        rintro e w2 ⟨v2, rfl, o2, n2⟩
        have f2 : Nw w w2 := n1.tr n2
        go_wp2_with fail
        refine (Q3 (hS.fr f2 (fun _ _ f => f))).mono ?_
        rintro e w3 ⟨v3, t3, u3, rfl, ev3, n3⟩
        have f3 : Nw w w3 := f2.tr n3
        have q4 := isAt_any (hS.fr f3 (fun _ _ f => f)) ev3 3 (st.size : Int)
        rw [show atB 3 (some (st.size : Int)) 3 (st.size : Int) = true by simp [atB]] at q4
        go_wp2_with fail
        refine q4.mono ?_
        rintro e w4 ⟨rfl, n4⟩
        have f4 : Nw w w4 := f3.tr n4
        go_wp2_with fail
        refine (alive_any (hS.fr f4 (fun _ _ f => f)) (hT.fr f4)).mono ?_
        rintro e w5 ⟨rfl, n5⟩
        go_wp2_with fail
        go_ret
        exact ⟨rfl, f4.tr n5⟩
      · have hem := em_no t h0
        have ht0 : t.data.toList ≠ [] := fun e => h0 (by rw [← HLT.out, e]; rfl)
        have hLst : Lf st.data.toList := by rw [HST.out]; exact (lf_behind _ _ ht0).2 hLt
        have Q3 := fun {w : World} (h : Sent B w a) => lines_good h st hstl hLst
        clear hLs hLst ht0
        go_enter Tryd.func4, Tryd.ntmps4
        go_wp2_with fail
        refine q1.mono ?_
        rintro e w1 ⟨v1, t1, u1, rfl, ev1, n1⟩
        clear q1
        go_wp2_with fail
        refine (Q2 (hS.fr n1 (fun _ _ f => f))).mono ?_
        rintro e w2 ⟨v2, rfl, o2, n2⟩
        have f2 : Nw w w2 := n1.tr n2
        go_wp2_with fail
        refine (Q3 (hS.fr f2 (fun _ _ f => f))).mono ?_
        rintro e w3 ⟨v3, rfl, o3, n3⟩
        have f3 : Nw w w3 := f2.tr n3
        go_wp2_with fail
        refine (alive_any (hS.fr f3 (fun _ _ f => f)) (hT.fr f3)).mono ?_
        rintro e w5 ⟨rfl, n5⟩
        go_wp2_with fail
        go_ret
        exact ⟨rfl, f3.tr n5⟩
  · -- t is no lines
    have ht0 : t.data.toList ≠ [] := fun e => hLt (.inl e)
    have hLst : ¬ Lf st.data.toList := by rw [HST.out]; exact fun h => hLt ((lf_behind _ _ ht0).1 h)
    have Q2 := fun {w : World} (h : Sent B w a) => lines_bad h t (by omega) hLt
    have Q3 := fun {w : World} (h : Sent B w a) => lines_bad h st hstl hLst
    clear hLst ht0
    by_cases hLs : Lf s.data.toList
    · have q1 := lines_good hS s (by omega) hLs
      clear hLs hLt
      go_enter Tryd.func4, Tryd.ntmps4
      go_wp2_with fail
      refine q1.mono ?_
      rintro e w1 ⟨v1, rfl, o1, n1⟩
      clear q1
      go_wp2_with fail
      refine (Q2 (hS.fr n1 (fun _ _ f => f))).mono ?_
      rintro e w2 ⟨v2, t2, u2, rfl, ev2, n2⟩
      have f2 : Nw w w2 := n1.tr n2
      go_wp2_with fail
      refine (Q3 (hS.fr f2 (fun _ _ f => f))).mono ?_
      rintro e w3 ⟨v3, t3, u3, rfl, ev3, n3⟩
      have f3 : Nw w w3 := f2.tr n3
      have q4 := isAt_any (hS.fr f3 (fun _ _ f => f)) (ev2.fr n3) 3 (t.size : Int)
      rw [show atB 3 (some (t.size : Int)) 3 (t.size : Int) = true by simp [atB]] at q4
      go_wp2_with fail
      refine q4.mono ?_
      rintro e w4 ⟨rfl, n4⟩
      have f4 : Nw w w4 := f3.tr n4
      have q5 := isAt_any (hS.fr f4 (fun _ _ f => f)) (ev3.fr n4) 3 (st.size : Int)
      rw [show atB 3 (some (st.size : Int)) 3 (st.size : Int) = true by simp [atB]] at q5
      go_wp2_with fail
      refine q5.mono ?_
      rintro e w5 ⟨rfl, n5⟩
      have f5 : Nw w w5 := f4.tr n5
      go_wp2_with fail
      refine (alive_any (hS.fr f5 (fun _ _ f => f)) (hT.fr f5)).mono ?_
      rintro e w6 ⟨rfl, n6⟩
      go_wp2_with fail
      go_ret
      exact ⟨rfl, f5.tr n6⟩
    · have q1 := lines_bad hS s (by omega) hLs
      clear hLs hLt
      go_enter Tryd.func4, Tryd.ntmps4
      go_wp2_with fail
      refine q1.mono ?_
      rintro e w1 ⟨v1, t1, u1, rfl, ev1, n1⟩
      clear q1
      go_wp2_with fail
      refine (Q2 (hS.fr n1 (fun _ _ f => f))).mono ?_
      rintro e w2 ⟨v2, t2, u2, rfl, ev2, n2⟩
      have f2 : Nw w w2 := n1.tr n2
      go_wp2_with fail
      refine (Q3 (hS.fr f2 (fun _ _ f => f))).mono ?_
      rintro e w3 ⟨v3, t3, u3, rfl, ev3, n3⟩
      have f3 : Nw w w3 := f2.tr n3
      have q4 := isAt_any (hS.fr f3 (fun _ _ f => f)) (ev2.fr n3) 3 (t.size : Int)
      rw [show atB 3 (some (t.size : Int)) 3 (t.size : Int) = true by simp [atB]] at q4
      go_wp2_with fail
      refine q4.mono ?_
      rintro e w4 ⟨rfl, n4⟩
      have f4 : Nw w w4 := f3.tr n4
      have q5 := isAt_any (hS.fr f4 (fun _ _ f => f)) (ev3.fr n4) 3 (st.size : Int)
      rw [show atB 3 (some (st.size : Int)) 3 (st.size : Int) = true by simp [atB]] at q5
      go_wp2_with fail
      refine q5.mono ?_
      rintro e w5 ⟨rfl, n5⟩
      have f5 : Nw w w5 := f4.tr n5
      go_wp2_with fail
      refine (alive_any (hS.fr f5 (fun _ _ f => f)) (hT.fr f5)).mono ?_
      rintro e w6 ⟨rfl, n6⟩
      go_wp2_with fail
      go_ret
      exact ⟨rfl, f5.tr n6⟩
end Go.Proofs.YtdcnoepgnncjoabDoor
