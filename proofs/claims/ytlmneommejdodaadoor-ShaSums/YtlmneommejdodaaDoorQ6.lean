/- ShaSums. -/
import Derived.Test.YtlmneommejdodaaDoorT2
import Derived.Test.YtlmneommejdodaaDoorR6
namespace Go.Proofs.YtlmneommejdodaaDoor
open Go.RowKit
set_option linter.unusedVariables false
set_option linter.unusedSimpArgs false

/-- A text with a full stop behind it. -/
def dot (x : ByteArray) : ByteArray := x ++ ⟨#[46]⟩
theorem dot_size (x : ByteArray) : (dot x).size = x.size + 1 := by
  unfold dot
  rw [ByteArray.size_append]
  rfl
/-- The first k of the texts have it. -/
def dots (ss : List ByteArray) (k : Nat) : List ByteArray := (ss.take k).map dot ++ ss.drop k
theorem dots_len (ss : List ByteArray) (k : Nat) (h : k ≤ ss.length) : (dots ss k).length = ss.length := by
  unfold dots
  rw [List.length_append, List.length_map, List.length_take, List.length_drop]
  omega
theorem dots_0 (ss : List ByteArray) : dots ss 0 = ss := by simp [dots]
theorem dots_all (ss : List ByteArray) : dots ss ss.length = ss.map dot := by simp [dots]
theorem dots_cons (ss : List ByteArray) (k : Nat) (h : k < ss.length) : dots ss k = (ss.take k).map dot ++ ss.getD k e0 :: ss.drop (k + 1) := by
  unfold dots
  rw [List.getD_eq_getElem?_getD, List.getElem?_eq_getElem h, Option.getD_some, List.drop_eq_getElem_cons h]
theorem dots_at (ss : List ByteArray) (k : Nat) (h : k < ss.length) (M : List ByteArray) : (dots ss k ++ M).getD k e0 = ss.getD k e0 := by
  have hl : ((ss.take k).map dot).length = k := by rw [List.length_map, List.length_take]; omega
  rw [sgetD_l _ _ _ (by rw [dots_len _ _ (by omega)]; exact h), dots_cons ss k h, List.getD_eq_getElem?_getD, List.getElem?_append_right (by omega), hl, Nat.sub_self]
  rfl
theorem dots_set (ss : List ByteArray) (k : Nat) (h : k < ss.length) (M : List ByteArray) : (dots ss k ++ M).set k (dot (ss.getD k e0)) = dots ss (k + 1) ++ M := by
  have hl : ((ss.take k).map dot).length = k := by rw [List.length_map, List.length_take]; omega
  rw [List.set_append_left _ _ (by rw [dots_len _ _ (by omega)]; exact h), dots_cons ss k h, List.set_append_right _ _ (by omega), hl, Nat.sub_self, List.set_cons_zero]
  unfold dots
  rw [List.take_succ_eq_append_getElem h, List.map_append, List.getD_eq_getElem?_getD, List.getElem?_eq_getElem h, Option.getD_some]
  simp
theorem scs_put (U : List ByteArray) (t k : Nat) (x : ByteArray) (hk : k < t) : (scs U t).setIfInBounds k (.string x) = scs (U.set k x) t := by
  apply Array.ext
  · simp [scs]
  · intro i h1 h2
    have hi : i < U.length := by simpa [scs] using h1
    rw [Array.getElem_setIfInBounds (by simpa using h1)]
    simp only [scs, Array.getElem_ofFn]
    by_cases h : k = i
    · subst h
      rw [if_pos rfl, if_pos hk, List.getD_eq_getElem?_getD, List.getElem?_set_self hi]
      rfl
    · rw [if_neg h]
      simp only [List.getD_eq_getElem?_getD, List.getElem?_set_ne h]
theorem tsz_dot (ss : List ByteArray) : tsz (ss.map dot) = tsz ss + ss.length := by
  induction ss with
  | nil => rfl
  | cons x l ih =>
    simp only [tsz, List.map_cons, List.sum_cons, List.length_cons, dot_size] at ih ⊢
    omega
theorem size_tsz (ss : List ByteArray) (k : Nat) (h : k < ss.length) : (ss.getD k e0).size ≤ tsz ss := by
  have e := tsz_step ss k (ss.getD k e0) (by rw [List.getD_eq_getElem?_getD, List.getElem?_eq_getElem h]; rfl)
  have h2 : tsz ss = tsz (ss.take (k + 1)) + tsz (ss.drop (k + 1)) := by
    unfold tsz
    rw [← List.sum_append, ← List.map_append, List.take_append_drop]
  omega
theorem refh (ss : List ByteArray) (hl : (cat ss).length ≤ 4194304) (w : World) : Calls Tryd.prog 11 #[.string ⟨(cat ss).toArray⟩] w fun e w' => e = .returned (.agg (hcs (sha (cat ss)) 32)) ∧ Nw w w' := by
  have hs : (⟨(cat ss).toArray⟩ : ByteArray).size ≤ 4194304 := by
    show (cat ss).toArray.size ≤ 4194304
    simpa using hl
  exact refsum_any ⟨(cat ss).toArray⟩ hs w

set_option maxRecDepth 100000 in
set_option maxHeartbeats 4000000 in
theorem sumslaw_any (p : Option Addr) (c : Nat) (ss : List ByteArray) (w : World) (hp : Strs w p ss) (hl : ss.length ≤ 140737488355328 ∧ ∀ x ∈ ss, x.size ≤ 140737488355328) (hT : Laid w ∧ Pow w) :
    Calls Tryd.prog 3 #[.slice p ss.length c] w fun e w' => e = .returned (.bool true) ∧ Nw w w' := by
  have q1 := far_any p c ss w hp hl.2 hl.1
  have HS : Hid (Strs w p ss) := hp
  have HL : Hid (Laid w) := hT.1
  have HP : Hid (Pow w) := hT.2
  clear hl hp hT
  obtain ⟨n, hn⟩ : ∃ n, n = ss.length := ⟨_, rfl⟩
  rw [← hn] at q1 ⊢
  have Hn : Hid (n = ss.length) := hn
  clear hn
  go_enter Tryd.func3, Tryd.ntmps3
  go_wp2_with fail
  refine q1.mono ?_
  rintro e1 w1 ⟨⟨b, rfl, hb⟩, n1⟩
  clear q1
  cases b with
  | true =>
    go_wp2_with fail
    go_ret
    exact ⟨rfl, n1⟩
  | false =>
    have hts : tsz ss ≤ 1048576 := hb rfl
    have hct := cat_tsz ss
    rw [← Hn.out] at hct
    have hn20 : n ≤ 1048576 := by omega
    have hc20 : (cat ss).length ≤ 1048576 := by omega
    have HTS : Hid (tsz ss ≤ 1048576) := hts
    have HC : Hid ((cat ss).length ≤ 1048576) := hc20
    clear hb hct hts hc20
    have q2 := twins_any p c ss w1 (HS.out.nw n1) (by rw [← Hn.out]; exact hn20) (HP.out.fr n1)
    rw [← Hn.out] at q2
    go_wp2_with fail
    refine q2.mono ?_
    rintro e2 w2 ⟨rfl, j2, n2⟩
    have m2 : Nw w w2 := n1.tr n2
    obtain ⟨tb, htb⟩ : ∃ t, t = w1.heap.size := ⟨_, rfl⟩
    have htw : w.heap.size ≤ tb := by rw [htb]; exact n1.size
    rw [← htb] at j2 ⊢
    have q3 := join_any p c ss w2 (HS.out.nw m2) (by have := HTS.out; omega)
    rw [← Hn.out] at q3
    have QR : Hid (∀ W, Calls Tryd.prog 11 #[.string ⟨(cat ss).toArray⟩] W fun e w' => e = .returned (.agg (hcs (sha (cat ss)) 32)) ∧ Nw W w') := fun W => refh ss (by have := HC.out; omega) W
    obtain ⟨X, hX⟩ : ∃ X : ByteArray, X = ⟨(cat ss).toArray⟩ := ⟨_, rfl⟩
    obtain ⟨V, hTT⟩ : ∃ V, V = hcs (sha (cat ss)) 32 := ⟨_, rfl⟩
    have HVs : Hid (V.size = 32) := by unfold Hid; rw [hTT]; exact hcs_size _ _
    have HV1 : Hid (∀ u ∈ V.toList, u.oneCell' = true) := by unfold Hid; rw [hTT]; exact hcs_one _ _
    have HE : Hid (∀ W, (Op.equalIn 10000 26 (.agg V) (.agg V)).run Tryd.prog W = .ok true W) := by unfold Hid; rw [hTT]; exact fun W => hash_eq _ W
    rw [← hX] at q3 QR
    rw [← hTT] at QR
    have HTT : Hid (V = hcs (sha (cat ss)) 32) := hTT
    clear hTT
    clear q2 hX n2 htb n1
    have HJ : Hid (w2.heap[tb]? = some (.cells (scs (ss ++ [mark7]) (n + 1)) 9 (0, 0))) := j2
    have htl : tb < w2.heap.size := heap_lt j2
    clear j2
    go_wp2_with fail
    refine q3.mono ?_
    rintro e3 w3 ⟨rfl, n3⟩
    clear q3
    go_wp2_with fail
    refine (QR.out w3).mono ?_
    rintro e4 w4 ⟨rfl, n4⟩
    have n24 : Nw w2 w4 := n3.tr n4
    clear n3 n4 QR
    go_wp2_with (refine wp_store_agg rfl (.tmp 4) (.tmp 12) 26 32 rfl Tryd.sizeOf26 w4.heap.size 0 rfl _ 26 (heap_new _ _) V rfl HVs.out HV1.out (by decide) V (by simp) ?_; intro w5 j5 f5 z5; have k5 : Nw w4 w5 := ((Fr.refl _ _).alloc _).trans f5 (fun k hk q => by omega); clear z5 f5)
    have n25 : Nw w2 w5 := n24.tr k5
    have m5 : Nw w w5 := m2.tr n25
    obtain ⟨hb, hhb⟩ : ∃ b, b = w4.heap.size := ⟨_, rfl⟩
    rw [← hhb] at j5 ⊢
    clear hhb n24 k5
    have HJ5 : Hid (w5.heap[tb]? = some (.cells (scs (ss ++ [mark7]) (n + 1)) 9 (0, 0))) := (n25.block _ htl (fun f => f)).trans HJ.out
    clear n25 HJ htl
    have QP : Hid (∀ W, Nw w5 W → Calls Tryd.prog 13 #[.slice (some ⟨tb, 0, none⟩) n (n + 1)] W fun e w' => e = .returned (.agg V) ∧ Nw W w') := fun W hW => by
      have hj := (hW.block _ (heap_lt HJ5.out) (fun f => f)).trans HJ5.out
      have := sums_any (some ⟨tb, 0, none⟩) (n + 1) ss W (twins_strs hj (by have := Hn.out; omega)) (HL.out.nw (m5.tr hW)) (by have := HC.out; omega) (by have := Hn.out; omega)
      unfold hsh at this
      rw [← HTT.out, ← Hn.out] at this
      exact this
    have QL : Hid (∀ W, Nw w5 W → Calls Tryd.prog 14 #[.slice (some ⟨tb, 0, none⟩) n (n + 1), .slice p n c] W fun e w' => e = .returned (.bool true) ∧ Nw W w') := fun W hW => by
      have hj := (hW.block _ (heap_lt HJ5.out) (fun f => f)).trans HJ5.out
      rw [Hn.out] at hj
      have := lefts_any tb p c ss W hj (HS.out.nw (m5.tr hW)) (by have := Hn.out; omega) (HP.out.fr (m5.tr hW))
      rw [← Hn.out] at this
      exact this
    have he := HE.out
    have hkp : Hid (∀ W, Nw w5 W → W.heap[hb]? = some (.cells V 26 (0, 0))) := fun W hW => (hW.block _ (heap_lt j5) (fun f => f)).trans j5
    clear j5
    go_wp2
    have nb : Nw w5 w5.drew := (Fr.refl _ _).drew
    refine wp_region_held_drew (S := fun W => W.heap[hb]? = some (.cells V 26 (0, 0))) (by kernel_rfl) (hkp.out _ nb) ?_
    intro hS0
    refine wpAnyH_take (i := 0) (oi := ({ dst := some 13, op := Op.move (Operand.tmp 3), type := 22, pos := "law.go:21", after := #[], guard := none } : Oper)) (v := .slice (some ⟨tb, 0, none⟩) n (n + 1)) rfl (by kernel_rfl) (by kernel_rfl) (by kernel_rfl) (fun _ _ _ h => h) (Or.inl ⟨by rfl, by intro w hw; go_simp⟩) hS0 ?_
    try simp only [Act.put, List.setIfInBounds_toArray, List.set_cons_zero, List.set_cons_succ]
    refine wpAnyH_take (i := 2) (oi := ({ dst := some 15, op := Op.load 26 (Operand.tmp 4), type := 26, pos := "law.go:21", after := #[], guard := none } : Oper)) (v := .agg V) rfl (by kernel_rfl) (by kernel_rfl) (by kernel_rfl) (fun _ _ _ h => h) (yields_load_g (by rfl) (.tmp 4) 26 32 rfl Tryd.isAgg26 Tryd.sizeOf26 hb rfl 26 V HVs.out (fun w hw => hw)) hS0 ?_
    try simp only [Act.put, List.setIfInBounds_toArray, List.set_cons_zero, List.set_cons_succ]
    refine wpAnyH_ready (rs := [1]) (by kernel_rfl) (by simp) ?_
    refine (AllReadyH.cons (o := ({ dst := some 14, op := Op.call { callee := Callee.value (Operand.func 13), args := #[Operand.tmp 13], argTypes := #[22] }, type := 26, pos := "law.go:21", after := #[{ on := 0, ground := Ground.data }], guard := none } : Oper)) rfl (fun K' hK => ?_) AllReadyH.nil)
    go_simp
    go_wp2_with (go_at_call 13; refine (QP.out _ nb).mono ?_; rintro ex w101 ⟨rfl, nw101⟩)
    have nb := nb.tr nw101
    refine hK.out _ _ (hkp.out _ nb) (fun hS0 => ?_)
    try simp only [Act.put, List.setIfInBounds_toArray, List.set_cons_zero, List.set_cons_succ]
    refine wpAnyH_take (i := 3) (oi := ({ dst := some 16, op := Op.binOp BinOp.neq 26 (Operand.tmp 14) (Operand.tmp 15) 26, type := 4, pos := "law.go:21", after := #[{ on := 1, ground := Ground.data }, { on := 2, ground := Ground.data }], guard := none } : Oper)) (v := .bool false) rfl (by kernel_rfl) (by kernel_rfl) (by kernel_rfl) (fun _ _ _ h => h) (Or.inl ⟨by rfl, by intro w hw; go_simp⟩) hS0 ?_
    try simp only [Act.put, List.setIfInBounds_toArray, List.set_cons_zero, List.set_cons_succ]
    refine wpAnyH_take (i := 4) (oi := ({ dst := some 17, op := Op.move (Operand.tmp 16), type := 4, pos := "law.go:21", after := #[{ on := 3, ground := Ground.data }, { on := 1, ground := Ground.chain }], guard := none } : Oper)) (v := .bool false) rfl (by kernel_rfl) (by kernel_rfl) (by kernel_rfl) (fun _ _ _ h => h) (Or.inl ⟨by rfl, by intro w hw; go_simp⟩) hS0 ?_
    try simp only [Act.put, List.setIfInBounds_toArray, List.set_cons_zero, List.set_cons_succ]
    refine wpAnyH_take (i := 5) (oi := ({ dst := some 18, op := Op.move (Operand.tmp 3), type := 22, pos := "law.go:21", after := #[{ on := 4, ground := Ground.guard }], guard := some (4, false) } : Oper)) (v := .slice (some ⟨tb, 0, none⟩) n (n + 1)) rfl (by kernel_rfl) (by kernel_rfl) (by kernel_rfl) (fun _ _ _ h => h) (Or.inl ⟨by rfl, by intro w hw; go_simp⟩) hS0 ?_
    try simp only [Act.put, List.setIfInBounds_toArray, List.set_cons_zero, List.set_cons_succ]
    refine wpAnyH_take (i := 7) (oi := ({ dst := some 20, op := Op.load 26 (Operand.tmp 4), type := 26, pos := "law.go:21", after := #[{ on := 4, ground := Ground.guard }], guard := some (4, false) } : Oper)) (v := .agg V) rfl (by kernel_rfl) (by kernel_rfl) (by kernel_rfl) (fun _ _ _ h => h) (yields_load_g (by rfl) (.tmp 4) 26 32 rfl Tryd.isAgg26 Tryd.sizeOf26 hb rfl 26 V HVs.out (fun w hw => hw)) hS0 ?_
    try simp only [Act.put, List.setIfInBounds_toArray, List.set_cons_zero, List.set_cons_succ]
    refine wpAnyH_ready (rs := [6]) (by kernel_rfl) (by simp) ?_
    refine (AllReadyH.cons (o := ({ dst := some 19, op := Op.call { callee := Callee.value (Operand.func 13), args := #[Operand.tmp 18], argTypes := #[22] }, type := 26, pos := "law.go:21", after := #[{ on := 5, ground := Ground.data }, { on := 4, ground := Ground.chain }, { on := 4, ground := Ground.guard }], guard := some (4, false) } : Oper)) rfl (fun K' hK => ?_) AllReadyH.nil)
    go_simp
    go_wp2_with (go_at_call 13; refine (QP.out _ nb).mono ?_; rintro ex w102 ⟨rfl, nw102⟩)
    have nb := nb.tr nw102
    refine hK.out _ _ (hkp.out _ nb) (fun hS0 => ?_)
    try simp only [Act.put, List.setIfInBounds_toArray, List.set_cons_zero, List.set_cons_succ]
    refine wpAnyH_take (i := 8) (oi := ({ dst := some 21, op := Op.binOp BinOp.neq 26 (Operand.tmp 19) (Operand.tmp 20) 26, type := 4, pos := "law.go:21", after := #[{ on := 6, ground := Ground.data }, { on := 7, ground := Ground.data }, { on := 4, ground := Ground.guard }], guard := some (4, false) } : Oper)) (v := .bool false) rfl (by kernel_rfl) (by kernel_rfl) (by kernel_rfl) (fun _ _ _ h => h) (Or.inl ⟨by rfl, by intro w hw; go_simp⟩) hS0 ?_
    try simp only [Act.put, List.setIfInBounds_toArray, List.set_cons_zero, List.set_cons_succ]
    refine wpAnyH_take (i := 9) (oi := ({ dst := some 22, op := Op.pick (Operand.tmp 17) (Operand.const (Value.bool true)) (Operand.tmp 21), type := 4, pos := "law.go:21", after := #[{ on := 4, ground := Ground.data }, { on := 8, ground := Ground.data }], guard := none } : Oper)) (v := .bool false) rfl (by kernel_rfl) (by kernel_rfl) (by kernel_rfl) (fun _ _ _ h => h) (Or.inl ⟨by rfl, by intro w hw; go_simp⟩) hS0 ?_
    try simp only [Act.put, List.setIfInBounds_toArray, List.set_cons_zero, List.set_cons_succ]
    refine wpAnyH_take (i := 10) (oi := ({ dst := some 23, op := Op.move (Operand.tmp 22), type := 4, pos := "law.go:21", after := #[{ on := 9, ground := Ground.data }, { on := 6, ground := Ground.chain }], guard := none } : Oper)) (v := .bool false) rfl (by kernel_rfl) (by kernel_rfl) (by kernel_rfl) (fun _ _ _ h => h) (Or.inl ⟨by rfl, by intro w hw; go_simp⟩) hS0 ?_
    try simp only [Act.put, List.setIfInBounds_toArray, List.set_cons_zero, List.set_cons_succ]
    refine wpAnyH_take (i := 11) (oi := ({ dst := some 24, op := Op.move (Operand.tmp 3), type := 22, pos := "law.go:21", after := #[{ on := 10, ground := Ground.guard }], guard := some (10, false) } : Oper)) (v := .slice (some ⟨tb, 0, none⟩) n (n + 1)) rfl (by kernel_rfl) (by kernel_rfl) (by kernel_rfl) (fun _ _ _ h => h) (Or.inl ⟨by rfl, by intro w hw; go_simp⟩) hS0 ?_
    try simp only [Act.put, List.setIfInBounds_toArray, List.set_cons_zero, List.set_cons_succ]
    refine wpAnyH_take (i := 12) (oi := ({ dst := some 25, op := Op.move (Operand.tmp 0), type := 22, pos := "law.go:21", after := #[{ on := 10, ground := Ground.guard }], guard := some (10, false) } : Oper)) (v := .slice p n c) rfl (by kernel_rfl) (by kernel_rfl) (by kernel_rfl) (fun _ _ _ h => h) (Or.inl ⟨by rfl, by intro w hw; go_simp⟩) hS0 ?_
    try simp only [Act.put, List.setIfInBounds_toArray, List.set_cons_zero, List.set_cons_succ]
    refine wpAnyH_ready (rs := [13]) (by kernel_rfl) (by simp) ?_
    refine (AllReadyH.cons (o := ({ dst := some 26, op := Op.call { callee := Callee.value (Operand.func 14), args := #[Operand.tmp 24, Operand.tmp 25], argTypes := #[22, 22] }, type := 4, pos := "law.go:21", after := #[{ on := 11, ground := Ground.data }, { on := 12, ground := Ground.data }, { on := 10, ground := Ground.chain }, { on := 10, ground := Ground.guard }], guard := some (10, false) } : Oper)) rfl (fun K' hK => ?_) AllReadyH.nil)
    go_simp
    go_wp2_with (go_at_call 14; refine (QL.out _ nb).mono ?_; rintro ex w103 ⟨rfl, nw103⟩)
    have nb := nb.tr nw103
    refine hK.out _ _ (hkp.out _ nb) (fun hS0 => ?_)
    try simp only [Act.put, List.setIfInBounds_toArray, List.set_cons_zero, List.set_cons_succ]
    refine wpAnyH_take (i := 14) (oi := ({ dst := some 27, op := Op.unOp UnOp.not 4 (Operand.tmp 26), type := 4, pos := "law.go:21", after := #[{ on := 13, ground := Ground.data }, { on := 10, ground := Ground.guard }], guard := some (10, false) } : Oper)) (v := .bool false) rfl (by kernel_rfl) (by kernel_rfl) (by kernel_rfl) (fun _ _ _ h => h) (Or.inl ⟨by rfl, by intro w hw; go_simp⟩) hS0 ?_
    try simp only [Act.put, List.setIfInBounds_toArray, List.set_cons_zero, List.set_cons_succ]
    refine wpAnyH_take (i := 15) (oi := ({ dst := some 28, op := Op.pick (Operand.tmp 23) (Operand.const (Value.bool true)) (Operand.tmp 27), type := 4, pos := "law.go:21", after := #[{ on := 10, ground := Ground.data }, { on := 14, ground := Ground.data }], guard := none } : Oper)) (v := .bool false) rfl (by kernel_rfl) (by kernel_rfl) (by kernel_rfl) (fun _ _ _ h => h) (Or.inl ⟨by rfl, by intro w hw; go_simp⟩) hS0 ?_
    try simp only [Act.put, List.setIfInBounds_toArray, List.set_cons_zero, List.set_cons_succ]
    refine wpAnyH_done (by kernel_rfl) ?_ _
    clear he hkp hS0 HE HV1 HVs QP QL
    obtain ⟨w6, hw6⟩ : ∃ W, W = w103 := ⟨_, rfl⟩
    rw [← hw6] at nb ⊢
    clear hw6
    have m6 : Nw w w6 := m5.tr nb
    have HJ6 : Hid (w6.heap[tb]? = some (.cells (scs (ss ++ [mark7]) (n + 1)) 9 (0, 0))) := (nb.block _ (heap_lt HJ5.out) (fun f => f)).trans HJ5.out
    go_wp2
    go_loopw [5] (fun i wr => ∃ k : Nat, k ≤ n ∧ i = .int .i64 k ∧ Nw w wr ∧ wr.heap[tb]? = some (.cells (scs (dots ss k ++ [mark7]) (n + 1)) 9 (0, 0))) (fun i _ => n - (intOf i).toNat)
    case atStart => exact ⟨0, by omega, rfl, m6, by rw [dots_0]; exact HJ6.out⟩
    case round =>
      clear m6 HJ6 nb HJ5
      obtain ⟨k, hk, rfl, hnw, hc⟩ := hrel
      have HCC : Hid (wr.heap[tb]? = some (.cells (scs (dots ss k ++ [mark7]) (n + 1)) 9 (0, 0))) := hc
      by_cases hlt : k < n
      · have hks : k < ss.length := by have := Hn.out; omega
        have hcs : wr.cell? ⟨tb, k, none⟩ = some (.string (ss.getD k e0)) := by
          rw [cell_of hc, scs_get _ _ _ (by omega) (by rw [List.length_append, dots_len _ _ (by omega)]; omega), dots_at ss k hks]
        have hfz : wr.frozen? ⟨tb, k, none⟩ = false := frozen_of hc k
        have hxs := size_tsz ss k hks
        have hset : Hid ((dots ss k ++ [mark7]).set k (dot (ss.getD k e0)) = dots ss (k + 1) ++ [mark7]) := dots_set ss k hks [mark7]
        have hts := HTS.out
        unfold dot at hset
        generalize ss.getD k e0 = x at hcs hxs hset
        have hadd := add_any x ⟨#[46]⟩ (by have h1 : (⟨#[46]⟩ : ByteArray).size = 1 := rfl; omega)
        clear hc hks hts hxs
        have hki : (k : Int) < (n : Int) := by omega
        go_wp2
        refine ⟨⟨k + 1, by omega, by go_num, hnw.setCell _ _ (fun h => absurd h (by show ¬ tb < w.heap.size; omega)), ?_⟩, by simp [intOf]; omega⟩
        rw [← hset.out, ← scs_put _ _ _ _ (show k < n + 1 by omega)]
        exact heap_set HCC.out _
      · obtain rfl : k = n := by omega
        have hge : ¬ (k : Int) < (k : Int) := by omega
        have hda : dots ss k = ss.map dot := by rw [Hn.out]; exact dots_all ss
        have HD : Hid (wr.heap[tb]? = some (.cells (scs (ss.map dot ++ [mark7]) (k + 1)) 9 (0, 0))) := by unfold Hid; rw [← hda]; exact hc
        obtain ⟨ds, hds⟩ : ∃ ds, ds = ss.map dot := ⟨_, rfl⟩
        rw [← hds] at HD
        have hdl : ds.length = k := by rw [hds, List.length_map]; exact Hn.out.symm
        have hdt : tsz ds ≤ 2097152 := by have := tsz_dot ss; rw [← hds] at this; have := HTS.out; have := Hn.out; omega
        have hdc := cat_tsz ds
        have Hdl : Hid (ds.length = k) := hdl
        have Hdc : Hid ((cat ds).length ≤ 2097152) := by unfold Hid; omega
        have Hdt : Hid (tsz ds ≤ 2097152) := hdt
        clear hlt hda hds hc HCC hdl hdt hdc
        have hst := twins_strs HD.out (by have := Hdl.out; omega)
        have q7 := sums_any (some ⟨tb, 0, none⟩) (k + 1) ds wr hst (HL.out.nw hnw) (by have := Hdc.out; omega) (by have := Hdl.out; omega)
        have Q8 : Hid (∀ W, Nw wr W → Calls Tryd.prog 10 #[.slice (some ⟨tb, 0, none⟩) k (k + 1)] W fun e w' => e = .returned (.slice (some ⟨W.heap.size, 0, none⟩) k (k + 1)) ∧ w'.heap[W.heap.size]? = some (.cells (scs (ds ++ [mark7]) (k + 1)) 9 (0, 0)) ∧ Nw W w') := fun W hW => by
          have := twins_any (some ⟨tb, 0, none⟩) (k + 1) ds W (hst.nw hW) (by have := Hdl.out; omega) (HP.out.fr (hnw.tr hW))
          rw [Hdl.out] at this
          exact this
        have Q9 : Hid (∀ W g, W.heap[g]? = some (.cells (scs (ds ++ [mark7]) (k + 1)) 9 (0, 0)) → Calls Tryd.prog 12 #[.slice (some ⟨g, 0, none⟩) k (k + 1)] W fun e w' => e = .returned (.string ⟨(cat ds).toArray⟩) ∧ Nw W w') := fun W g hg => by
          have := join_any (some ⟨g, 0, none⟩) (k + 1) ds W (twins_strs hg (by have := Hdl.out; omega)) (by have := Hdt.out; omega)
          rw [Hdl.out] at this
          exact this
        have QR : Hid (∀ W, Calls Tryd.prog 11 #[.string ⟨(cat ds).toArray⟩] W fun e w' => e = .returned (.agg (hcs (sha (cat ds)) 32)) ∧ Nw W w') := fun W => refh ds (by have := Hdc.out; omega) W
        rw [Hdl.out] at q7
        unfold hsh at q7
        obtain ⟨X2, hX2⟩ : ∃ X : ByteArray, X = ⟨(cat ds).toArray⟩ := ⟨_, rfl⟩
        obtain ⟨V2, hT2⟩ : ∃ V, V = hcs (sha (cat ds)) 32 := ⟨_, rfl⟩
        rw [← hX2] at Q9 QR
        rw [← hT2] at QR q7
        have he2 : ∀ W, (Op.equalIn 10000 26 (.agg V2) (.agg V2)).run Tryd.prog W = .ok true W := by rw [hT2]; exact fun W => hash_eq _ W
        clear hX2 hT2 hst
        go_wp2_with fail
        refine q7.mono ?_
        rintro e7 w7 ⟨rfl, n7⟩
        clear q7
        go_wp2_with fail
        refine (Q8.out w7 n7).mono ?_
        rintro e8 w8 ⟨rfl, j8, n8⟩
        go_wp2_with fail
        refine (Q9.out w8 _ j8).mono ?_
        rintro e9 w9 ⟨rfl, n9⟩
        clear j8
        go_wp2_with fail
        refine (QR.out w9).mono ?_
        rintro e10 w10 ⟨rfl, n10⟩
        go_wp2_with fail
        go_ret
        exact ⟨by simp, hnw.tr (n7.tr (n8.tr (n9.tr n10)))⟩
end Go.Proofs.YtlmneommejdodaaDoor
