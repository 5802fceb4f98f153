/- store: the statements' own may, lies, named. -/
import Derived.Test.YtdckjmbellngiaaDoorFj
import Derived.Test.YtdckjmbellngiaaDoorLw
import Derived.Lib.Bytes
namespace Go.Proofs.YtdckjmbellngiaaDoor
open Go.RowKit Go.Maps Go.Sort Go.Proofs
set_option linter.unusedVariables false
set_option linter.unusedSimpArgs false
theorem may12_any (s : ByteArray) (w : World) : Calls Tryd.prog 15 #[.string s] w fun e w' => e = .returned (.bool (decide (okN s))) ∧ w' = w := by
  obtain ⟨r, hr⟩ : ∃ r, r = decide (okN s) := ⟨_, rfl⟩
  rw [← hr]
  by_cases h1 : (1 : Int) ≤ s.size
  · by_cases h2 : (s.size : Int) ≤ 256
    · have HR : Hid (r = true) := by show _ = _; rw [hr]; simp only [okN, decide_eq_true_eq]; omega
      clear hr
      go_enter Tryd.func15, Tryd.ntmps15
      go_wp2
      go_ret
      exact ⟨by rw [HR.out]; rfl, rfl⟩
    · have HR : Hid (r = false) := by show _ = _; rw [hr]; simp only [okN, decide_eq_false_iff_not]; omega
      clear hr
      go_enter Tryd.func15, Tryd.ntmps15
      go_wp2
      go_ret
      exact ⟨by rw [HR.out]; rfl, rfl⟩
  · have HR : Hid (r = false) := by show _ = _; rw [hr]; simp only [okN, decide_eq_false_iff_not]; omega
    clear hr
    go_enter Tryd.func15, Tryd.ntmps15
    go_wp2
    go_ret
    exact ⟨by rw [HR.out]; rfl, rfl⟩
abbrev WL := List (ByteArray × ByteArray)
abbrev atW (ls : WL) (k : Nat) : ByteArray × ByteArray := ls.getD k (e0t, e0t)
open Classical in
/-- What lies by a name behind the first k writes. -/
noncomputable def liesT (ls : WL) : Nat → Tx
  | 0, _ => none
  | k + 1, x => if x = (atW ls k).1 then some (atW ls k).2 else liesT ls k x
theorem liesT_put (ls : WL) (k : Nat) : putT (liesT ls k) (atW ls k).1 (atW ls k).2 = liesT ls (k + 1) := by
  funext x
  simp only [putT, liesT]
theorem liesT_key {ls : WL} : ∀ {k : Nat} {x : ByteArray}, (liesT ls k x).isSome = true → ∃ j, j < k ∧ x = (atW ls j).1
  | 0, x, h => by simp [liesT] at h
  | k + 1, x, h => by
    by_cases hx : x = (atW ls k).1
    · exact ⟨k, by omega, hx⟩
    · simp only [liesT, if_neg hx] at h
      obtain ⟨j, hj, e⟩ := liesT_key h
      exact ⟨j, by omega, e⟩
theorem liesT_has {ls : WL} : ∀ {k j : Nat}, j < k → (liesT ls k (atW ls j).1).isSome = true
  | 0, j, h => by omega
  | k + 1, j, h => by
    by_cases hx : (atW ls j).1 = (atW ls k).1
    · simp only [liesT, if_pos hx]; rfl
    · simp only [liesT, if_neg hx]
      refine liesT_has ?_
      rcases Nat.lt_or_ge j k with q | q
      · exact q
      · exact absurd (by rw [show j = k by omega]) hx
theorem tl_same (s : ByteArray) : (s.toList == s.toList) = true := by simp
theorem tl_ne {s t : ByteArray} (h : s ≠ t) : (s.toList == t.toList) = false := by
  cases hb : (s.toList == t.toList)
  · rfl
  · rw [beq_iff_eq, Lib.toList_data, Lib.toList_data] at hb
    exact absurd (ba_eq hb) h
set_option maxRecDepth 100000 in
set_option maxHeartbeats 1000000 in
theorem lies12_any {w : World} {p : Option Addr} {ls : WL} (hW : Wrs w p ls) (c n : Nat) (k : Nat) (hk : k ≤ ls.length) (hn : n = ls.length) (hl : ls.length ≤ 1099511627776) (s : ByteArray) :
    Calls Tryd.prog 16 #[.slice p n c, .int .i64 k, .string s] w fun e w' => e = .returned (.tuple #[.string ((liesT ls k s).getD e0t), .bool (liesT ls k s).isSome]) ∧ w' = w := by
  have HW : Hid (Wrs w p ls) := hW
  have Hn : Hid (n = ls.length) := hn
  rw [← hn] at hk hl
  clear hW hn
  obtain ⟨v, hv⟩ : ∃ v, v = (liesT ls k s).getD e0t := ⟨_, rfl⟩
  obtain ⟨o, ho⟩ : ∃ o, o = (liesT ls k s).isSome := ⟨_, rfl⟩
  have HV : Hid (v = (liesT ls k s).getD e0t ∧ o = (liesT ls k s).isSome) := ⟨hv, ho⟩
  rw [← hv, ← ho]
  clear hv ho
  go_enter Tryd.func16, Tryd.ntmps16
  go_wp2
  go_loopw [8] (fun i wr => ∃ j : Nat, j ≤ k ∧ i = .int .i64 ((j : Int) - 1) ∧ liesT ls k s = liesT ls j s ∧ wr = w) (fun i _ => (intOf i + 1).toNat)
  case atStart => exact ⟨k, Nat.le_refl _, by go_num, rfl, rfl⟩
  case round =>
    obtain ⟨j, hj, rfl, he, rfl⟩ := hrel
    have HE : Hid (liesT ls k s = liesT ls j s) := he
    clear he
    cases j with
    | zero =>
      have h0 : ¬ (0 : Int) ≤ ((0 : Nat) : Int) - 1 := by omega
      have HX : Hid (v = e0t ∧ o = false) := by obtain ⟨h1, h2⟩ := HV.out; rw [HE.out] at h1 h2; exact ⟨h1, h2⟩
      go_wp2
      go_ret2
      obtain ⟨h1, h2⟩ := HX.out
      exact ⟨by rw [h1, h2]; rfl, rfl⟩
    | succ j =>
      have e1 : (((j + 1 : Nat) : Int) - 1) = (j : Int) := by omega
      rw [e1]
      obtain ⟨g, q, rfl, hc, hd⟩ := HW.out j (by have := Hn.out; omega)
      have hjn : (j : Int) < (n : Int) := by omega
      have lg := World.block_lt_of_cell? wr _ hc
      have HS : Hid (liesT ls (j + 1) s = if s = (atW ls j).1 then some (atW ls j).2 else liesT ls j s) := rfl
      obtain ⟨x, hx⟩ : ∃ x, x = (atW ls j).1 := ⟨_, rfl⟩
      obtain ⟨y, hy⟩ : ∃ y, y = (atW ls j).2 := ⟨_, rfl⟩
      have hc' : wr.cell? ⟨g, q + j * 2, none⟩ = some (.string x) := by rw [hx]; exact hc
      have hd' : wr.cell? ⟨g, q + j * 2 + 1, none⟩ = some (.string y) := by rw [hy]; exact hd
      rw [← hx, ← hy] at HS
      clear hc hd hx hy
      by_cases hq : x = s
      · subst hq
        have tt := tl_same x
        have HX : Hid (v = y ∧ o = true) := by obtain ⟨h1, h2⟩ := HV.out; rw [HE.out, HS.out, if_pos rfl] at h1 h2; exact ⟨h1, h2⟩
        go_wp2
        go_ret2
        obtain ⟨h1, h2⟩ := HX.out
        exact ⟨by rw [h1, h2]; rfl, rfl⟩
      · have tt := tl_ne hq
        have HX : Hid (liesT ls k s = liesT ls j s) := by show _ = _; rw [HE.out, HS.out, if_neg (fun e => hq e.symm)]
        go_wp2
        exact ⟨⟨j, by omega, by go_num, HX.out, trivial⟩, by simp [intOf]⟩
/-- Is it among the first t texts? -/
noncomputable def hasB (T : List ByteArray) (x : ByteArray) : Nat → Bool
  | 0 => false
  | t + 1 => hasB T x t || (T.getD t e0t).toList == x.toList
theorem hasB_at {T : List ByteArray} {x : ByteArray} : ∀ {t j : Nat}, j < t → T.getD j e0t = x → hasB T x t = true
  | 0, j, h, _ => by omega
  | t + 1, j, h, e => by
    unfold hasB
    rcases Nat.lt_or_ge j t with q | q
    · rw [hasB_at q e]; rfl
    · rw [show t = j by omega, e, tl_same, Bool.or_true]
/-- The names as texts. -/
def tx (ss : List (List UInt8)) : List ByteArray := ss.map fun x => ⟨x.toArray⟩
theorem tx_len (ss : List (List UInt8)) : (tx ss).length = ss.length := by simp [tx]
theorem tx_get (ss : List (List UInt8)) (j : Nat) (hj : j < ss.length) : ((tx ss).getD j e0t).data.toList = ss[j] := by
  simp [tx, List.getD_eq_getElem?_getD, hj]
theorem tx_in {M : Tx} {ss : List (List UInt8)} (h : NamesOf M ss) (j : Nat) (hj : j < ss.length) : (M ((tx ss).getD j e0t)).isSome = true := by
  rw [← h.2, tx_get ss j hj]
  exact List.getElem_mem hj
theorem tx_lt {M : Tx} {ss : List (List UInt8)} (h : NamesOf M ss) (j : Nat) (hj : j + 1 < ss.length) : Op.bytesLess ((tx ss).getD j e0t).toList ((tx ss).getD (j + 1) e0t).toList = true := by
  rw [bytesLess_eq, Lib.toList_data, Lib.toList_data, tx_get ss j (by omega), tx_get ss (j + 1) hj, decide_eq_true_eq]
  exact List.pairwise_iff_getElem.1 h.1 j (j + 1) (by omega) hj (by omega)
theorem tx_has {M : Tx} {ss : List (List UInt8)} (h : NamesOf M ss) {x : ByteArray} (hx : (M x).isSome = true) : hasB (tx ss) x ss.length = true := by
  rw [← h.2] at hx
  obtain ⟨j, hj, e⟩ := List.getElem_of_mem hx
  refine hasB_at hj (ba_eq ?_)
  rw [tx_get ss j hj, e]
theorem binge (t : TypeId) (a b : ByteArray) (w : World) : (binOp .geq t (.string a) (.string b)).run Tryd.prog w = .ok (.bool !(Op.bytesLess a.toList b.toList)) w := by simp [binOp, Op.stringOp]
set_option maxRecDepth 100000 in
set_option maxHeartbeats 4000000 in
theorem named12_any {w : World} {b bm n : Nat} {rv : Value} {cr rn wn : Int} {dd : Bool} {p : Option Addr} {ls : WL} {k : Nat} (hblk : w.heap[b]? = some (stc (.map (some bm)) rv cr rn wn dd)) (hmp : Mp w bm n (liesT ls k)) (hn : n ≤ 1099511627776) (hW : Wrs w p ls) (c : Nat) (hk : k ≤ ls.length) (hl : ls.length ≤ 1099511627776) (hok : ∀ j, j < k → okN (atW ls j).1) {m : Nat} (hm : ls.length = m) :
    Calls Tryd.prog 17 #[.pointer (some ⟨b, 0, none⟩), .slice p m c, .int .i64 k] w fun e w' => e = .returned (.bool true) ∧ Nw w w' := by
  have q1 := snames_any hblk hmp hn (fun x hx => by obtain ⟨j, hj, e⟩ := liesT_key hx; rw [e]; exact (hok j hj).2)
  have HW : Hid (Wrs w p ls) := hW
  have Hm : Hid (ls.length = m) := hm
  rw [hm] at hk hl
  clear hblk hmp hW hok hm
  go_enter Tryd.func17, Tryd.ntmps17
  go_wp2_with fail
  refine q1.mono ?_
  rintro e w1 ⟨g, cap, ss, rfl, hno, hle, how, n1⟩
  have HN : Hid (NamesOf (liesT ls k) ss) := hno
  have HT : Hid (Strs w1 (some ⟨g, 0, none⟩) (tx ss)) := strs_own how
  have HL : Hid (ss.length ≤ 140737488355328) := by show _ ≤ _; omega
  have HW1 : Hid (Wrs w1 p ls) := HW.out.nw n1
  have HN1 : Hid (Nw w w1) := n1
  obtain ⟨t, ht⟩ : ∃ t, t = ss.length := ⟨_, rfl⟩
  have Ht : Hid (ss.length = t) := ht.symm
  have hts : t ≤ 140737488355328 := by rw [ht]; exact HL.out
  rw [← ht]
  clear q1 hno hle how n1 HW ht HL
  go_wp2
  go_loopw [8] (fun i wr => ∃ j : Nat, j ≤ t ∧ i = .int .i64 j ∧ Nw w1 wr) (fun i _ => t - (intOf i).toNat)
  case atStart => exact ⟨0, by omega, rfl, Fr.refl _ _⟩
  case round =>
    obtain ⟨j, hj, rfl, hnw⟩ := hrel
    by_cases hlt : j < t
    · have hji : (j : Int) < (t : Int) := by omega
      obtain ⟨g', o, e', hc⟩ := HT.out.at j (by rw [tx_len, Ht.out]; exact hlt)
      cases e'
      have hd := hnw.cellOf hc
      have q2 := lies12_any (HW1.out.nw hnw) c m k (by rw [Hm.out]; exact hk) Hm.out.symm (by rw [Hm.out]; exact hl) ((tx ss).getD j e0t)
      have hin := tx_in HN.out j (by rw [Ht.out]; exact hlt)
      rw [hin] at q2
      clear hin
      by_cases h0 : j = 0
      · subst h0
        generalize (tx ss).getD 0 e0t = x at hd hc q2
        generalize (liesT ls k x).getD e0t = y at q2
        go_wp2_with fail
        refine q2.mono ?_
        rintro e w2 ⟨rfl, rfl⟩
        clear q2 hc
        go_wp2_with fail
        go_quiet (fail)
        go_wp2
        exact ⟨⟨1, by omega, by go_num, hnw.drewN _⟩, by simp [intOf]; omega⟩
      · obtain ⟨i, hi⟩ : ∃ i, j = i + 1 := ⟨j - 1, by omega⟩
        obtain ⟨g2, o2, e2, hc2⟩ := HT.out.at i (by rw [tx_len, Ht.out]; omega)
        cases e2
        have hd2 := hnw.cellOf hc2
        rw [Nat.zero_add] at hd hd2
        have hlt2 := tx_lt HN.out i (by rw [Ht.out]; omega)
        rw [← hi] at hlt2
        generalize (tx ss).getD j e0t = x at hd hc q2 hlt2
        generalize (tx ss).getD i e0t = z at hd2 hc2 hlt2
        generalize (liesT ls k x).getD e0t = y at q2
        have hgz := binge 9 z x
        rw [hlt2] at hgz
        have e1 : (j : Int) - 1 = (i : Int) := by omega
        have hp0 : (0 : Int) < (j : Int) := by omega
        have dq : decide (0 < j) = true := decide_eq_true (by omega)
        have dq2 : decide ((0 : Int) < (j : Int)) = true := decide_eq_true hp0
        have e2 : IntKind.i64.wrap ((j : Int) - 1) = (i : Int) := by rw [IntKind.wrap_i64]; omega
        have hj2 : (i : Int) < (t : Int) := by omega
        have HI : Hid (j = i + 1) := hi
        clear hi h0 hlt2
        go_wp2_with fail
        refine q2.mono ?_
        rintro e w2 ⟨rfl, rfl⟩
        clear q2 hc hc2
        go_wp2_with fail
        go_quiet (fail)
        go_wp2
        exact ⟨⟨j + 1, by omega, by go_num, hnw.drewN _⟩, by simp [intOf]; omega⟩
    · have hge : ¬ (j : Int) < (t : Int) := by omega
      go_wp2
      have NA : Hid (Nw w wr) := HN1.out.tr hnw
      have HW2 : Hid (Wrs wr p ls) := HW1.out.nw hnw
      have HT2 : Hid (Strs wr (some ⟨g, 0, none⟩) (tx ss)) := HT.out.nw hnw
      clear hnw HW1 HT HN1 hge hlt hj
      obtain ⟨wA, hA⟩ : ∃ x, x = wr := ⟨_, rfl⟩
      subst hA
      go_loopw [11] (fun i wx => ∃ j : Nat, j ≤ k ∧ i = .int .i64 j ∧ Nw wA wx) (fun i _ => k - (intOf i).toNat)
      case atStart => exact ⟨0, by omega, rfl, Fr.refl _ _⟩
      case round =>
        obtain ⟨j, hj, rfl, hnw⟩ := hrel
        by_cases hlt : j < k
        · have hji : (j : Int) < (k : Int) := by omega
          have hh := tx_has HN.out (liesT_has (ls := ls) hlt)
          rw [Ht.out] at hh
          obtain ⟨g3, o3, e3, hc3, _⟩ := HW2.out j (by rw [Hm.out]; omega)
          have hjm : (j : Int) < (m : Int) := by omega
          obtain ⟨X, hX⟩ : ∃ X, X = (atW ls j).1 := ⟨_, rfl⟩
          have hc4 : wA.cell? ⟨g3, o3 + j * 2, none⟩ = some (.string X) := by rw [hX]; exact hc3
          rw [← hX] at hh
          have HH : Hid (hasB (tx ss) X t = true) := hh
          subst e3
          clear hc3 hX hh
          have c4 := hnw.cellOf hc4
          go_wp2
          go_loopw [12, 13] (fun u v wy => ∃ i : Nat, i ≤ t ∧ v = .int .i64 i ∧ u = .bool (hasB (tx ss) X i) ∧ Nw wA wy) (fun _ v _ => t - (intOf v).toNat)
          case atStart => exact ⟨0, by omega, rfl, rfl, hnw⟩
          case round =>
            obtain ⟨i, hi, rfl, rfl, hn2⟩ := hrel
            by_cases hlt2 : i < t
            · have hii : (i : Int) < (t : Int) := by omega
              obtain ⟨g5, o5, e5, hc5⟩ := HT2.out.at i (by rw [tx_len, Ht.out]; exact hlt2)
              cases e5
              have hd5 := hn2.cellOf hc5
              have hd6 := hn2.cellOf hc4
              have HB : Hid (hasB (tx ss) X (i + 1) = (hasB (tx ss) X i || ((tx ss).getD i e0t).toList == X.toList)) := rfl
              generalize (tx ss).getD i e0t = y at hd5 hc5 HB
              generalize hasB (tx ss) X i = r at HB ⊢
              rw [Nat.zero_add] at hd5
              clear hc5
              cases r
              · have hb2 : (y.toList == X.toList) = (y.toList == X.toList) := rfl
                go_wp2_with fail
                go_quiet (fail)
                go_wp2
                exact ⟨⟨i + 1, by omega, by go_num, by rw [HB.out]; simp, hn2.drewN _⟩, by simp [intOf]; omega⟩
              · go_wp2_with fail
                go_quiet (fail)
                go_wp2
                exact ⟨⟨i + 1, by omega, by go_num, by rw [HB.out]; simp, hn2.drewN _⟩, by simp [intOf]; omega⟩
            · have e : i = t := by omega
              subst e
              have hge : ¬ (i : Int) < (i : Int) := by omega
              rw [HH.out]
              go_wp2
              exact ⟨⟨j + 1, by omega, by go_num, hn2⟩, by simp [intOf]; omega⟩
        · have hge : ¬ (j : Int) < (k : Int) := by omega
          go_wp2
          go_ret
          exact ⟨rfl, NA.out.tr hnw⟩
end Go.Proofs.YtdckjmbellngiaaDoor
