/- Lists of texts: a copy, compared, left as it was, one behind the other. -/
import Derived.Test.YtlmneommejdodaaDoorT1
import Derived.Lib.AppendStr
namespace Go.Proofs.YtlmneommejdodaaDoor
open Go.RowKit
set_option linter.unusedVariables false
set_option linter.unusedSimpArgs false

abbrev e0 : ByteArray := ⟨#[]⟩
/-- A row of texts, the first t of them laid. -/
def scs (T : List ByteArray) (t : Nat) : Array Value := Array.ofFn (n := T.length) fun i => .string (if i.val < t then T.getD i.val e0 else e0)
theorem scs_size (T : List ByteArray) (t : Nat) : (scs T t).size = T.length := by simp [scs]
theorem scs_get (T : List ByteArray) (t i : Nat) (hi : i < t) (hT : i < T.length) : (scs T t)[i]? = some (.string (T.getD i e0)) := by
  rw [scs, Array.getElem?_ofFn, dif_pos hT, if_pos hi]
theorem scs_out (T : List ByteArray) (t i : Nat) (hi : ¬ i < t) (hT : i < T.length) : (scs T t)[i]? = some (.string e0) := by
  rw [scs, Array.getElem?_ofFn, dif_pos hT, if_neg hi]
theorem scs_set (T : List ByteArray) (t : Nat) (x : ByteArray) (hx : x = T.getD t e0) : (scs T t).setIfInBounds t (.string x) = scs T (t + 1) := by
  subst hx
  apply Array.ext
  · simp [scs]
  · intro i h1 h2
    rw [Array.getElem_setIfInBounds (by simpa using h1)]
    simp only [scs, Array.getElem_ofFn]
    by_cases h : t = i
    · subst h; simp
    · rw [if_neg h]
      have : (i < t + 1) = (i < t) := by apply propext; omega
      simp only [this]
theorem make_texts (T : List ByteArray) (n : Int) (hn : n = (T.length : Int)) (w : World) (hl : T.length ≤ 1099511627776) : (Instr.makeSlice 22 (.int .i64 n) (.int .i64 n)).run Tryd.prog w = .ok (.slice (some ⟨w.heap.size, 0, none⟩) T.length T.length) (w.alloc (.cells (scs T 0) 9)) := by
  obtain ⟨i, hi, hz, hs, hb⟩ := info_partsS
  subst hn
  rw [run_make w 22 9 i (.string ⟨#[]⟩) Tryd.underlying22 hi hz .i64 .i64 _ _ (by omega) (by omega) (by rw [hb]; omega) (by omega), hs]
  have : madeCells (Value.string ⟨#[]⟩).cells ((T.length : Int).toNat * 1) = scs T 0 := by
    apply Array.ext
    · simp [madeCells, scs]
    · intro j h1 h2
      simp [madeCells, scs, Value.cells, Nat.mod_one]
  rw [this]
  rfl
theorem sgetD_l (L M : List ByteArray) (k : Nat) (h : k < L.length) : (L ++ M).getD k e0 = L.getD k e0 := by
  rw [List.getD_eq_getElem?_getD, List.getElem?_append_left h, List.getD_eq_getElem?_getD]
theorem sgetD_r (L : List ByteArray) (x : ByteArray) : (L ++ [x]).getD L.length e0 = x := by
  rw [List.getD_eq_getElem?_getD, List.getElem?_append_right (Nat.le_refl _), Nat.sub_self]; rfl
theorem Strs.at {w : World} {p : Option Addr} {ss : List ByteArray} (h : Strs w p ss) (k : Nat) (hk : k < ss.length) : ∃ g o, p = some ⟨g, o, none⟩ ∧ w.cell? ⟨g, o + k, none⟩ = some (.string (ss.getD k e0)) := by
  obtain ⟨g, o, hp, hc⟩ := h k ss[k] (List.getElem?_eq_getElem hk)
  refine ⟨g, o, hp, hc.trans ?_⟩
  rw [List.getD_eq_getElem?_getD, List.getElem?_eq_getElem hk, Option.getD_some]

set_option maxRecDepth 100000 in
set_option maxHeartbeats 1000000 in
theorem twins_any (p : Option Addr) (c : Nat) (L : List ByteArray) (w : World) (hb : Strs w p L) (hl : L.length ≤ 1048576) (hP : Pow w) :
    Calls Tryd.prog 10 #[.slice p L.length c] w fun e w' => e = .returned (.slice (some ⟨w.heap.size, 0, none⟩) L.length (L.length + 1)) ∧ w'.heap[w.heap.size]? = some (.cells (scs (L ++ [mark7]) (L.length + 1)) 9 (0, 0)) ∧ Nw w w' := by
  have HB : Hid (Strs w p L) := hb
  have HP : Hid (Pow w) := hP
  clear hb hP
  generalize hmk7 : mark7 = mk
  have HMK : Hid (mark7 = mk) := hmk7
  clear hmk7
  obtain ⟨T, hT⟩ : ∃ T, T = L ++ [mk] := ⟨_, rfl⟩
  have hTl : T.length = L.length + 1 := by rw [hT]; simp
  have HT : Hid (T = L ++ [mk]) := hT
  rw [← hT]
  clear hT
  have HG : Hid (∀ k, k < L.length → T.getD k e0 = L.getD k e0) := fun k hk => by rw [HT.out]; exact sgetD_l L _ k hk
  have HG2 : Hid (T.getD L.length e0 = mk) := by unfold Hid; rw [HT.out]; exact sgetD_r L mk
  obtain ⟨n, hn⟩ : ∃ n, n = L.length := ⟨_, rfl⟩
  have hmk := make_texts T ((n : Int) + 1) (by omega) w (by omega)
  rw [hTl] at hmk
  rw [← hn] at hmk HG HG2 hl hTl ⊢
  have Hn : Hid (n = L.length) := hn
  have HTl : Hid (T.length = n + 1) := hTl
  clear hn hTl
  go_enter Tryd.func10, Tryd.ntmps10
  go_wp2
  go_loopw [4] (fun i wr => ∃ k : Nat, k ≤ n ∧ i = .int .i64 k ∧ Nw w wr ∧ wr.heap[w.heap.size]? = some (.cells (scs T k) 9 (0, 0))) (fun i _ => n - (intOf i).toNat)
  case atStart => exact ⟨0, by omega, rfl, (Fr.refl _ _).alloc _, heap_new w _⟩
  case round =>
    obtain ⟨k, hk, rfl, hnw, hc⟩ := hrel
    by_cases hlt : k < n
    · obtain ⟨g, o, rfl, hcell⟩ := HB.out.at k (by have := Hn.out; omega)
      have hcell2 := hnw.cellOf hcell
      have hx := HG.out k hlt
      generalize L.getD k e0 = x at hcell2 hx
      have HX : Hid (T.getD k e0 = x) := hx
      clear hx hcell
      have hcs : wr.cell? ⟨w.heap.size, k, none⟩ = some (.string e0) := (cell_of hc k).trans (scs_out T k k (by omega) (by have := HTl.out; omega))
      have hfz : wr.frozen? ⟨w.heap.size, k, none⟩ = false := frozen_of hc k
      have hki : (k : Int) < (n : Int) := by omega
      have hki2 : (k : Int) < (n : Int) + 1 := by omega
      go_wp2
      refine ⟨⟨k + 1, by omega, by go_num, hnw.setCell _ _ (fun h => absurd h (by simp)), ?_⟩, by simp [intOf]; omega⟩
      rw [← scs_set T k x HX.out.symm]
      exact heap_set hc _
    · have HK : Hid (k = n) := by unfold Hid; omega
      have hge : ¬ (k : Int) < (n : Int) := by omega
      have hc' : wr.heap[w.heap.size]? = some (.cells (scs T n) 9 (0, 0)) := by rw [← HK.out]; exact hc
      clear hlt hc hmk
      have q := marktext_any wr (HP.out.fr hnw)
      rw [HMK.out] at q
      go_wp2_with (go_at_call 26; refine q.mono ?_; rintro e1 w1 ⟨rfl, n1⟩; have hd := (n1.block _ (heap_lt hc') (fun f => f)).trans hc'; have hcs : w1.cell? ⟨w.heap.size, n, none⟩ = some (.string e0) := (cell_of hd n).trans (scs_out T n n (by omega) (by have := HTl.out; omega)); have hfz : w1.frozen? ⟨w.heap.size, n, none⟩ = false := frozen_of hd n; clear q hc')
      go_ret
      refine ⟨rfl, ?_, (hnw.tr n1).setCell _ _ (fun h => absurd h (by simp))⟩
      rw [← scs_set T n mk HG2.out.symm]
      exact heap_set hd _
theorem twins_strs {w : World} {g : Nat} {L M : List ByteArray} {t : Nat} (h : w.heap[g]? = some (.cells (scs (L ++ M) t) 9 (0, 0))) (ht : L.length ≤ t) : Strs w (some ⟨g, 0, none⟩) L := fun j x hj => by
  have hjl := (List.getElem?_eq_some_iff.1 hj).1
  refine ⟨g, 0, rfl, ?_⟩
  rw [Nat.zero_add, cell_of h, scs_get _ _ _ (by omega) (by simp; omega), sgetD_l L _ j hjl, List.getD_eq_getElem?_getD, hj]
  rfl
set_option maxRecDepth 100000 in
set_option maxHeartbeats 1000000 in
theorem sames_any (p q : Option Addr) (c c' : Nat) (ss : List ByteArray) (w : World) (hp : Strs w p ss) (hq : Strs w q ss) (hl : ss.length ≤ 140737488355328) :
    Calls Tryd.prog 33 #[.slice p ss.length c, .slice q ss.length c'] w fun e w' => e = .returned (.bool true) ∧ Nw w w' := by
  have HP : Hid (Strs w p ss) := hp
  have HQ : Hid (Strs w q ss) := hq
  clear hp hq
  obtain ⟨n, hn⟩ : ∃ n, n = ss.length := ⟨_, rfl⟩
  rw [← hn] at hl ⊢
  have Hn : Hid (n = ss.length) := hn
  clear hn
  go_enter Tryd.func33, Tryd.ntmps33
  go_wp2
  go_loopw [5] (fun i wr => ∃ k : Nat, k ≤ n ∧ i = .int .i64 k ∧ Nw w wr) (fun i _ => n - (intOf i).toNat)
  case atStart => exact ⟨0, by omega, rfl, Fr.refl _ _⟩
  case round =>
    obtain ⟨k, hk, rfl, hnw⟩ := hrel
    by_cases hlt : k < n
    · obtain ⟨g, o, rfl, hc⟩ := HP.out.at k (by have := Hn.out; omega)
      obtain ⟨g', o', rfl, hc'⟩ := HQ.out.at k (by have := Hn.out; omega)
      have hd := hnw.cellOf hc
      have hd' := hnw.cellOf hc'
      generalize ss.getD k e0 = x at hd hd'
      clear hc hc'
      have hki : (k : Int) < (n : Int) := by omega
      go_wp2
      go_quiet (fail)
      go_wp2
      exact ⟨⟨k + 1, by omega, by go_num, hnw.drewN _⟩, by simp [intOf]; omega⟩
    · have hge : ¬ (k : Int) < (n : Int) := by omega
      go_wp2
      go_ret
      exact ⟨rfl, hnw⟩
theorem elemS : Tryd.prog.elem 22 = 9 := by kernel_rfl
theorem undS : Tryd.prog.underlying 22 = some (.slice (Tryd.prog.elem 22)) := by rw [elemS]; exact Tryd.underlying22
theorem sliceS_h (g n cap : Nat) (t : Int) (h0 : 0 ≤ t) (h2 : t ≤ (cap : Int)) (W : World) : (Instr.sliceAt 22 (.slice (some ⟨g, 0, none⟩) n cap) none (some (.int .i64 t)) none).run Tryd.prog W = .ok (.slice (some ⟨g, 0, none⟩) t.toNat cap) W := by
  rw [run_sliceAt_slice W _ _ _ _ _ undS, run_slice_h W _ (some ⟨g, 0, none⟩) n cap undS .i64 t (by omega) (by omega), elemS, Tryd.sizeOf9 W]
  by_cases h : cap = 0 <;> simp [sliced, h, Addr.add]
set_option maxRecDepth 100000 in
set_option maxHeartbeats 1000000 in
theorem lefts_any (g : Nat) (q : Option Addr) (c : Nat) (ss : List ByteArray) (w : World) (hj : w.heap[g]? = some (.cells (scs (ss ++ [mark7]) (ss.length + 1)) 9 (0, 0))) (hq : Strs w q ss) (hl : ss.length ≤ 1048576) (hP : Pow w) :
    Calls Tryd.prog 14 #[.slice (some ⟨g, 0, none⟩) ss.length (ss.length + 1), .slice q ss.length c] w fun e w' => e = .returned (.bool true) ∧ Nw w w' := by
  have q1 := sames_any (some ⟨g, 0, none⟩) q (ss.length + 1) c ss w (twins_strs hj (by omega)) hq (by omega)
  have hc : w.cell? ⟨g, ss.length, none⟩ = some (.string mark7) := by
    rw [cell_of hj, scs_get _ _ _ (by omega) (by simp), sgetD_r]
  have HI : Hid (∀ w', Nw w w' → Calls Tryd.prog 34 #[.string mark7, .int .i64 7777] w' fun e w' => e = .returned (.bool true) ∧ Nw w w') := fun w' n' => (istext_any w' (hP.fr n')).mono fun e w2 ⟨h1, h2⟩ => ⟨h1, n'.tr h2⟩
  generalize mark7 = mk at hc HI
  clear hj hq hP
  obtain ⟨n, hn⟩ : ∃ n, n = ss.length := ⟨_, rfl⟩
  rw [← hn] at q1 hc hl ⊢
  clear hn
  have hs := sliceS_h g n (n + 1) ((n : Int) + 1) (by omega) (by omega)
  have ht : ((n : Int) + 1).toNat = n + 1 := by omega
  rw [ht] at hs
  have hlt : (n : Int) < (n : Int) + 1 := by omega
  go_enter Tryd.func14, Tryd.ntmps14
  go_wp2_with (go_at_call 33; refine q1.mono ?_; rintro e1 w1 ⟨rfl, n1⟩; have hc1 := n1.cellOf hc; clear q1 hc)
  try refine (HI.out w1 n1).mono ?_
  try rintro e2 w2 ⟨rfl, n2⟩
  go_wp2_with (go_at_call 34; refine (HI.out w1 n1).mono ?_; rintro e2 w2 ⟨rfl, n2⟩)
  go_ret
  exact ⟨rfl, n2⟩
theorem dl (x : ByteArray) : x.data.toList.length = x.size := by rw [Array.length_toList]; rfl
theorem cat_tsz (ss : List ByteArray) : (cat ss).length + ss.length = tsz ss := by
  induction ss with
  | nil => rfl
  | cons x l ih =>
    simp only [cat, tsz, List.flatMap_cons, List.map_cons, List.sum_cons, List.length_append, List.length_cons] at ih ⊢
    have : x.data.toList.length = x.size := by rw [Array.length_toList]; rfl
    omega
theorem cat_get (ss : List ByteArray) (k : Nat) (hk : k < ss.length) : cat (ss.take (k + 1)) = cat (ss.take k) ++ (ss.getD k e0).data.toList := by
  rw [List.getD_eq_getElem?_getD, List.getElem?_eq_getElem hk, Option.getD_some]
  exact cat_step ss k _ (List.getElem?_eq_getElem hk)
theorem strCells_bc (s : ByteArray) : Lib.strCells s = bc s.data.toList := by
  simp [Lib.strCells, bc]
set_option maxRecDepth 100000 in
set_option maxHeartbeats 1000000 in
theorem join_any (p : Option Addr) (c : Nat) (ss : List ByteArray) (w : World) (hp : Strs w p ss) (hl : tsz ss ≤ 4194304) :
    Calls Tryd.prog 12 #[.slice p ss.length c] w fun e w' => e = .returned (.string ⟨(cat ss).toArray⟩) ∧ Nw w w' := by
  obtain ⟨i0, hi, hz0, hz1, hz2⟩ := info_parts8
  have hct := cat_tsz ss
  have HP : Hid (Strs w p ss) := hp
  have hsl : ss.length ≤ 4194304 := by omega
  have hcl : (cat ss).length ≤ 4194304 := by omega
  have HCL : Hid ((cat ss).length ≤ 4194304) := hcl
  clear hp hct hl hcl
  obtain ⟨n, hn⟩ : ∃ n, n = ss.length := ⟨_, rfl⟩
  rw [← hn] at hsl ⊢
  have Hn : Hid (n = ss.length) := hn
  clear hn
  obtain ⟨RR, hRR⟩ : ∃ RR : ByteArray, RR = ⟨(cat ss).toArray⟩ := ⟨_, rfl⟩
  rw [← hRR]
  have HRR : Hid (RR = ⟨(cat ss).toArray⟩) := hRR
  clear hRR
  go_enter Tryd.func12, Tryd.ntmps12
  go_wp2
  go_loop [3, 4] (fun s i => ∃ k m : Nat, k ≤ n ∧ i = .int .i64 k ∧ s = .int .i64 m ∧ m = (cat (ss.take k)).length) (fun _ i => n - (intOf i).toNat)
  case atStart => exact ⟨0, 0, by omega, rfl, rfl, rfl⟩
  case round =>
    obtain ⟨k, m, hk, rfl, rfl, hm⟩ := hrel
    have hm2 : m ≤ 4194304 := by have := cat_len ss k; have := HCL.out; omega
    have HM : Hid (m = (cat (ss.take k)).length) := hm
    clear hm
    by_cases hlt : k < n
    · obtain ⟨g, o, rfl, hc⟩ := HP.out.at k (by have := Hn.out; omega)
      have hst : Hid (cat (ss.take (k + 1)) = cat (ss.take k) ++ (ss.getD k e0).data.toList) := cat_get ss k (by have := Hn.out; omega)
      have hxs : (cat (ss.take k)).length + (ss.getD k e0).size ≤ 4194304 := by
        have h1 := cat_len ss (k + 1)
        have h2 := HCL.out
        rw [hst.out, List.length_append, dl] at h1
        omega
      rw [← HM.out] at hxs
      generalize ss.getD k e0 = x at hc hst hxs
      have hki : (k : Int) < (n : Int) := by omega
      go_wp2
      refine ⟨⟨k + 1, m + x.size, by omega, by go_num, by go_num, ?_⟩, by simp [intOf]; omega⟩
      rw [hst.out, List.length_append, dl, ← HM.out]
    · have hge : ¬ (k : Int) < (n : Int) := by omega
      clear hlt
      obtain ⟨w1, hmk, ho, n1⟩ := make_own w.heap.size w m (by omega) (Nat.le_refl _)
      go_wp2
      go_loopw [5, 6] (fun v i wr => ∃ (k : Nat) (a : Option Addr) (l cp : Nat), k ≤ n ∧ i = .int .i64 k ∧ v = .slice a l cp ∧ l = (cat (ss.take k)).length ∧ Own w.heap.size wr v (cat (ss.take k)) ∧ Below w.heap.size w wr) (fun _ i _ => n - (intOf i).toNat)
      case atStart => exact ⟨0, _, _, _, by omega, rfl, rfl, rfl, ho, n1.bel⟩
      case round =>
        clear ho n1 hmk
        obtain ⟨k2, a, l, cp, hk2, rfl, rfl, hll, ho, hbw⟩ := hrel
        by_cases hlt2 : k2 < n
        · obtain ⟨g, o, rfl, hc⟩ := HP.out.at k2 (by have := Hn.out; omega)
          have hc2 := Nw.cellOf (Fr.ofBelow hbw) hc
          have hst : Hid (cat (ss.take (k2 + 1)) = cat (ss.take k2) ++ (ss.getD k2 e0).data.toList) := cat_get ss k2 (by have := Hn.out; omega)
          have hxs : (cat (ss.take k2)).length + (ss.getD k2 e0).size ≤ 4194304 := by
            have h1 := cat_len ss (k2 + 1)
            have h2 := HCL.out
            rw [hst.out, List.length_append, dl] at h1
            omega
          rw [← hll] at hxs
          generalize ss.getD k2 e0 = x at hc2 hst hxs
          clear hc
          have ho2 : wr.ownsRow w.heap.size 5 1 (.slice a l cp) l (bc (cat (ss.take k2))) := by
            have h := ho
            unfold Own at h
            rw [← hll] at h
            exact h
          have HLL : Hid (l = (cat (ss.take k2)).length) := hll
          clear ho hll
          have hki : (k2 : Int) < (n : Int) := by omega
          have hsz : w.heap.size ≤ wr.heap.size := hbw.size
          go_wp2_with (at_builtin; refine Lib.wpList_append_own_string _ rfl _ _ 39 9 rfl w.heap.size 5 i0 Tryd.underlying39 Tryd.underlying9 hi hz0 hz1 hz2 _ l _ rfl ho2 x rfl (by unfold maxLen; omega) (by omega) hsz ?_; intro v' w' ho' hg' _; obtain ⟨a', c', rfl⟩ := ownsRow_form ho')
          refine ⟨⟨k2 + 1, a', l + x.size, c', by omega, by go_num, rfl, ?_, ?_, ?_⟩, by simp [intOf]; omega⟩
          · rw [hst.out, List.length_append, dl, ← HLL.out]
          · unfold Own
            rw [hst.out, List.length_append, dl, ← HLL.out, bc_app, ← strCells_bc]
            exact ho'
          · refine ⟨hg'.os.trans hbw.os, hg'.tape.trans hbw.tape, hg'.output.trans hbw.output, Nat.le_trans hsz hg'.size, fun j hj => ?_⟩
            rw [hg'.block j (by omega) (fun e => by have := ho2.lt j e.symm; omega)]
            exact hbw.block j hj
        · have hge2 : ¬ (k2 : Int) < (n : Int) := by omega
          have hcv := conv_own ho
          rw [List.take_of_length_le (by have := Hn.out; omega)] at hcv
          rw [← HRR.out] at hcv
          clear ho hll hlt2
          go_wp2
          go_ret
          exact ⟨rfl, Fr.ofBelow hbw⟩
end Go.Proofs.YtlmneommejdodaaDoor
