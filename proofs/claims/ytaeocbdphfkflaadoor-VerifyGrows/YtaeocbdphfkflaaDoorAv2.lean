/- law18: broken. -/
import Derived.Test.YtaeocbdphfkflaaDoorAv1
import Derived.Test.YtaeocbdphfkflaaDoorAhi
namespace Go.Proofs.YtaeocbdphfkflaaDoor
open Go.RowKit
set_option linter.unusedVariables false
set_option linter.unusedSimpArgs false
/-- Are there two pairs that are not the same, of which the nodes are the same, at one place? -/
def brk : List (List UInt8 × List UInt8) → List (List UInt8 × List UInt8) → Bool
  | p :: A, q :: B => (!decide (p.1 = q.1 ∧ p.2 = q.2) && decide (ndp p.1 p.2 = ndp q.1 q.2)) || brk A B
  | _, _ => false
theorem brk_at {A B : List (List UInt8 × List UInt8)} {j : Nat} {p q : List UInt8 × List UInt8} (hp : A[j]? = some p) (hq : B[j]? = some q) : brk (A.drop j) (B.drop j) = ((!decide (p.1 = q.1 ∧ p.2 = q.2) && decide (ndp p.1 p.2 = ndp q.1 q.2)) || brk (A.drop (j + 1)) (B.drop (j + 1))) := by
  have h1 := (List.getElem?_eq_some_iff.1 hp)
  have h2 := (List.getElem?_eq_some_iff.1 hq)
  obtain ⟨a1, a2⟩ := h1
  obtain ⟨b1, b2⟩ := h2
  rw [List.drop_eq_getElem_cons a1, List.drop_eq_getElem_cons b1, a2, b2]
  rfl
/-- Pairs in memory. -/
def Pm (w : World) (ad : Option Addr) (l : List (List UInt8 × List UInt8)) : Prop := ∀ k p, l[k]? = some p → ∃ g off, ad = some ⟨g, off, none⟩ ∧ ∀ j, j < 64 → w.cell? ⟨g, off + k * 64 + j, none⟩ = (h2c p.1 p.2)[j]?
theorem Pm.nw {w w' : World} {ad : Option Addr} {l : List (List UInt8 × List UInt8)} (h : Pm w ad l) (h32 : ∀ p ∈ l, p.1.length = 32 ∧ p.2.length = 32) (n : Nw w w') : Pm w' ad l := fun k p hk => by
  obtain ⟨g, off, e, hc⟩ := h k p hk
  refine ⟨g, off, e, fun j hj => ?_⟩
  have hp := h32 p (List.mem_of_getElem? hk)
  obtain ⟨u, h5⟩ : ∃ u, (h2c p.1 p.2)[j]? = some u := ⟨_, Array.getElem?_eq_getElem (by rw [h2c_size hp.1 hp.2]; exact hj)⟩
  have h6 := hc j hj
  rw [h5] at h6 ⊢
  exact n.cellOf h6
theorem psc_get : ∀ (l : List (List UInt8 × List UInt8)) (h32 : ∀ p ∈ l, p.1.length = 32 ∧ p.2.length = 32) (k : Nat) (p : List UInt8 × List UInt8), l[k]? = some p → ∀ j, j < 64 → (psc l)[k * 64 + j]? = (h2c p.1 p.2)[j]?
  | [], _, k, p, h, j, hj => by simp at h
  | q :: l, h32, 0, p, h, j, hj => by
    simp at h
    subst h
    have hp := h32 q (by simp)
    show ((h2c q.1 q.2).toList ++ psc l)[0 * 64 + j]? = _
    rw [List.getElem?_append_left (by simp [h2c_size hp.1 hp.2]; omega), Nat.zero_mul, Nat.zero_add]
    simp
  | q :: l, h32, k + 1, p, h, j, hj => by
    simp only [List.getElem?_cons_succ] at h
    have hp := h32 q (by simp)
    show ((h2c q.1 q.2).toList ++ psc l)[(k + 1) * 64 + j]? = _
    rw [List.getElem?_append_right (by simp [h2c_size hp.1 hp.2]; omega)]
    rw [show (k + 1) * 64 + j - (h2c q.1 q.2).toList.length = k * 64 + j by simp [h2c_size hp.1 hp.2]; omega]
    exact psc_get l (fun p hp => h32 p (by simp [hp])) k p h j hj
theorem Pm.of {w : World} {base n : Nat} {a : Option Addr} {c : Nat} {l : List (List UInt8 × List UInt8)} (h32 : ∀ p ∈ l, p.1.length = 32 ∧ p.2.length = 32) (hl : l.length = n) (h : w.ownsRow base 60 64 (.slice a n c) n (psc l)) : Pm w a l := fun k p hk => by
  have hk1 := (List.getElem?_eq_some_iff.1 hk).1
  have hh := h
  rcases h.2 with ⟨_, h2⟩ | ⟨g, cap, cur, hv, _, _, h3, _⟩
  · omega
  · cases hv
    refine ⟨g, 0, rfl, fun j hj => ?_⟩
    have hp := h32 p (List.mem_of_getElem? hk)
    obtain ⟨u, h5⟩ : ∃ u, (h2c p.1 p.2)[j]? = some u := ⟨_, Array.getElem?_eq_getElem (by rw [h2c_size hp.1 hp.2]; exact hj)⟩
    have := hh.cells (g := g) rfl (k * 64 + j) u (by rw [psc_get l h32 k p hk j hj, h5])
    rw [addZ] at this
    rw [Nat.zero_add, h5]
    exact this
theorem fieldsPr : (Tryd.prog.fieldsOf 60).toList.map (fun f => (f.name != "_", f.type, f.offset)) = [(true, 24, 0), (true, 24, 32)] := by kernel_rfl
theorem underPr : Tryd.prog.underlying 60 = some (.struct (Tryd.prog.fieldsOf 60)) := by kernel_rfl
theorem stoodPr : Tryd.prog.stoodInHeld 60 = false := by kernel_rfl
theorem pr_equal (A B C D : List UInt8) (hA : A.length = 32) (hB : B.length = 32) (hC : C.length = 32) (hD : D.length = 32) (w : World) : (Op.equalIn 10000 60 (.agg (h2c A B)) (.agg (h2c C D))).run Tryd.prog w = .ok (decide (A = C ∧ B = D)) w := by
  rw [run_equalIn_struct w 9999 _ _ _ underPr stoodPr]
  have hf := fieldsPr
  generalize (Tryd.prog.fieldsOf 60).toList = fs at hf ⊢
  match fs, hf with
  | [], hf => simp at hf
  | [_], hf => simp at hf
  | _ :: _ :: _ :: _, hf => simp at hf
  | [f1, f2], hf =>
    simp only [List.map_cons, List.map_nil, List.cons.injEq, Prod.mk.injEq, and_true, bne_iff_ne] at hf
    obtain ⟨⟨n1, t1, o1⟩, n2, t2, o2⟩ := hf
    simp only [Op.eqFields]
    rw [if_pos n1, if_pos n2, t1, t2, o1, o2]
    simp only [Sem.run_bind, part_h2, Result.andThen_ok]
    rw [show 0 + 32 = 32 from rfl, h2c_el B hA, h2c_el D hC, hbs_equalA 9997 A C hA hC, Result.andThen_ok]
    by_cases h1 : A = C
    · rw [decide_eq_true h1]
      simp only [Bool.not_true, Bool.false_eq_true, if_false, Sem.run_bind, part_h2, Result.andThen_ok]
      rw [show 32 + 32 = 64 from rfl, h2c_er hA hB, h2c_er hC hD, hbs_equalA 9997 B D hB hD]
      simp only [Result.andThen_ok]
      by_cases h2 : B = D
      · rw [decide_eq_true h2, decide_eq_true ⟨h1, h2⟩]
        simp
      · rw [decide_eq_false h2, decide_eq_false (fun q => h2 q.2)]
        simp
    · rw [decide_eq_false h1, decide_eq_false (fun q => h1 q.1)]
      simp
theorem noGuardPr : Tryd.prog.eqGuardType Tryd.prog.depth 60 = false := by kernel_rfl
theorem run_eqGuardPr (op : BinOp) (x y : Operand) (A B : Array Value) (W : World) : (eqGuard op 60 x y (.agg A) (.agg B)).run Tryd.prog W = .ok () W := run_eqGuard_agg W op 60 x y A B noGuardPr
theorem pr_neq (A B C D : List UInt8) (hA : A.length = 32) (hB : B.length = 32) (hC : C.length = 32) (hD : D.length = 32) (w : World) : (binOp .neq 60 (.agg (h2c A B)) (.agg (h2c C D))).run Tryd.prog w = .ok (.bool (!decide (A = C ∧ B = D))) w := by
  simp only [binOp]
  simp only [Op.equal, Op.maxDepth, pr_equal A B C D hA hB hC hD w, Sem.run_bind, Result.andThen_ok, Sem.run_pure]
theorem yields_prneq {ops : Array Oper} {S : World → Prop} {o : Oper} {a : Act} (hgd : Region.wanted o (yielded ops a.tmps) = true) (x y : Operand) (ho : o.op = .binOp .neq 60 x y 60) (A B C D : List UInt8) (hA : A.length = 32) (hB : B.length = 32) (hC : C.length = 32) (hD : D.length = 32) (hx : a.eval x = .agg (h2c A B)) (hy : a.eval y = .agg (h2c C D)) (b : Bool) (hb : (!decide (A = C ∧ B = D)) = b) : YieldsIf Tryd.prog ops S o (.bool b) a := by
  refine .inl ⟨hgd, fun w hw => ?_⟩
  unfold execOp
  simp only [ho, hx, hy, run_eqGuardPr, pr_neq A B C D hA hB hC hD w, Sem.run_bind, Sem.run_pure, Result.andThen_ok, hb]
theorem yields_eqB {ops : Array Oper} {S : World → Prop} {o : Oper} {a : Act} (hgd : Region.wanted o (yielded ops a.tmps) = true) (x y : Operand) (ho : o.op = .binOp .eql 24 x y 24) (A B : List UInt8) (hA : A.length = 32) (hB : B.length = 32) (hx : a.eval x = .agg (hbs A)) (hy : a.eval y = .agg (hbs B)) (b : Bool) (hb : decide (A = B) = b) : YieldsIf Tryd.prog ops S o (.bool b) a := by
  refine .inl ⟨hgd, fun w hw => ?_⟩
  unfold execOp
  simp only [ho, hx, hy, run_eqGuard, hbs_eqlA A B hA hB w, Sem.run_bind, Sem.run_pure, Result.andThen_ok, hb]
set_option maxRecDepth 100000 in
set_option maxHeartbeats 8000000 in
theorem broken_any (A B : List (List UInt8 × List UInt8)) (hA32 : ∀ p ∈ A, p.1.length = 32 ∧ p.2.length = 32) (hB32 : ∀ p ∈ B, p.1.length = 32 ∧ p.2.length = 32) (hAB : A.length = B.length) (hl : A.length ≤ 100) (aa : Option Addr) (ac : Nat) (ba : Option Addr) (bc : Nat) (w : World) (ha : Pm w aa A) (hb : Pm w ba B) (hLd : Laid w) :
    Calls Tryd.prog 27 #[.slice aa A.length ac, .slice ba B.length bc] w fun e w' => e = .returned (.bool (brk A B)) ∧ Nw w w' := by
  have QN : Hid (∀ V X Y, Nw w V → X.length = 32 → Y.length = 32 → Calls Tryd.prog 25 #[.agg (hbs X), .agg (hbs Y)] V fun e w' => e = .returned (.agg (hbs (ndp X Y))) ∧ Nw V w') := fun V X Y hV hX hY => node_any X Y hX hY V (hLd.nw hV)
  rw [← hAB]
  obtain ⟨n, hn⟩ : ∃ q, q = A.length := ⟨_, rfl⟩
  have HNA := hid_of hn
  have HNB : Hid (n = B.length) := by show n = _; rw [hn, hAB]
  have HA : Hid (Pm w aa A) := ha
  have HB : Hid (Pm w ba B) := hb
  have HA32 : Hid (∀ p ∈ A, p.1.length = 32 ∧ p.2.length = 32) := hA32
  have HB32 : Hid (∀ p ∈ B, p.1.length = 32 ∧ p.2.length = 32) := hB32
  rw [← hn] at hl ⊢
  obtain ⟨bk, hbk⟩ : ∃ q, q = brk A B := ⟨_, rfl⟩
  have HK0 := hid_of hbk
  rw [← hbk]
  clear hn hAB ha hb hLd hA32 hB32 hbk
  go_enter Tryd.func27, Tryd.ntmps27
  go_wp2
  go_loopw [5] (fun iv wr => ∃ j : Nat, j ≤ n ∧ iv = .int .i64 j ∧ bk = brk (A.drop j) (B.drop j) ∧ Nw w wr) (fun iv _ => n - (intOf iv).toNat)
  case atStart => exact ⟨0, by omega, rfl, HK0.out, nwr w⟩
  case round =>
    obtain ⟨j, hj, rfl, hk, hnw⟩ := hrel
    have HBK := hid_of hk
    have HNW := hid_of hnw
    clear hk hnw
    by_cases hlt : j < n
    · obtain ⟨⟨p1, p2⟩, hp⟩ : ∃ y, A[j]? = some y := ⟨_, List.getElem?_eq_getElem (by rw [← HNA.out]; exact hlt)⟩
      obtain ⟨⟨q1, q2⟩, hq⟩ : ∃ y, B[j]? = some y := ⟨_, List.getElem?_eq_getElem (by rw [← HNB.out]; exact hlt)⟩
      have HBA := hid_of (brk_at hp hq)
      have P1L : Hid (p1.length = 32) := (HA32.out _ (List.mem_of_getElem? hp)).1
      have P2L : Hid (p2.length = 32) := (HA32.out _ (List.mem_of_getElem? hp)).2
      have Q1L : Hid (q1.length = 32) := (HB32.out _ (List.mem_of_getElem? hq)).1
      have Q2L : Hid (q2.length = 32) := (HB32.out _ (List.mem_of_getElem? hq)).2
      obtain ⟨ga, oa, rfl, ha⟩ := HA.out j _ hp
      obtain ⟨gb, ob, rfl, hb⟩ := HB.out j _ hq
      have hps : (h2c p1 p2).size = 64 := h2c_size P1L.out P2L.out
      have hqs : (h2c q1 q2).size = 64 := h2c_size Q1L.out Q2L.out
      have hp1s : (hbs p1).size = 32 := by rw [hbs_size, P1L.out]
      have hp2s : (hbs p2).size = 32 := by rw [hbs_size, P2L.out]
      have hq1s : (hbs q1).size = 32 := by rw [hbs_size, Q1L.out]
      have hq2s : (hbs q2).size = 32 := by rw [hbs_size, Q2L.out]
      have HPA : Hid (∀ V, Nw wr V → ∀ k, k < 64 → V.cell? ⟨ga, oa + j * 64 + k, none⟩ = (h2c p1 p2)[k]?) := fun V hV k hk => by
        obtain ⟨g', o', e', h6⟩ := (HA.out.nw HA32.out (HNW.out.tr hV)) j _ hp
        cases e'
        exact h6 k hk
      have HQA : Hid (∀ V, Nw wr V → ∀ k, k < 64 → V.cell? ⟨gb, ob + j * 64 + k, none⟩ = (h2c q1 q2)[k]?) := fun V hV k hk => by
        obtain ⟨g', o', e', h6⟩ := (HB.out.nw HB32.out (HNW.out.tr hV)) j _ hq
        cases e'
        exact h6 k hk
      have HPL : Hid (∀ V, Nw wr V → ∀ k, k < 32 → V.cell? ⟨ga, oa + j * 64 + k, none⟩ = (hbs p1)[k]?) := fun V hV k hk => (HPA.out V hV k (by omega)).trans (h2c_l p2 P1L.out k hk)
      have HPR : Hid (∀ V, Nw wr V → ∀ k, k < 32 → V.cell? ⟨ga, oa + j * 64 + 32 + k, none⟩ = (hbs p2)[k]?) := fun V hV k hk => by rw [Nat.add_assoc _ 32 k]; exact (HPA.out V hV (32 + k) (by omega)).trans (h2c_r p2 P1L.out k)
      have HQL : Hid (∀ V, Nw wr V → ∀ k, k < 32 → V.cell? ⟨gb, ob + j * 64 + k, none⟩ = (hbs q1)[k]?) := fun V hV k hk => (HQA.out V hV k (by omega)).trans (h2c_l q2 Q1L.out k hk)
      have HQR : Hid (∀ V, Nw wr V → ∀ k, k < 32 → V.cell? ⟨gb, ob + j * 64 + 32 + k, none⟩ = (hbs q2)[k]?) := fun V hV k hk => by rw [Nat.add_assoc _ 32 k]; exact (HQA.out V hV (32 + k) (by omega)).trans (h2c_r q2 Q1L.out k)
      have QN1 : Hid (∀ V, Nw wr V → Calls Tryd.prog 25 #[.agg (hbs p1), .agg (hbs p2)] V fun e w' => e = .returned (.agg (hbs (ndp p1 p2))) ∧ Nw V w') := fun V hV => QN.out V p1 p2 (HNW.out.tr hV) P1L.out P2L.out
      have QN2 : Hid (∀ V, Nw wr V → Calls Tryd.prog 25 #[.agg (hbs q1), .agg (hbs q2)] V fun e w' => e = .returned (.agg (hbs (ndp q1 q2))) ∧ Nw V w') := fun V hV => QN.out V q1 q2 (HNW.out.tr hV) Q1L.out Q2L.out
      have Z1L : Hid ((ndp p1 p2).length = 32) := ndp_len _ _
      have Z2L : Hid ((ndp q1 q2).length = 32) := ndp_len _ _
      have hji : (j : Int) < (n : Int) := by omega
      obtain ⟨z1, hz1⟩ : ∃ z, z = ndp p1 p2 := ⟨_, rfl⟩
      obtain ⟨z2, hz2⟩ : ∃ z, z = ndp q1 q2 := ⟨_, rfl⟩
      simp only [← hz1, ← hz2] at QN1 QN2 Z1L Z2L HBA
      clear hp hq ha hb hz1 hz2
      by_cases hd : p1 = q1 ∧ p2 = q2
      · have HD : Hid ((!decide (p1 = q1 ∧ p2 = q2)) = false) := by show _ = _; rw [decide_eq_true hd]; rfl
        have HNX : Hid (brk (A.drop j) (B.drop j) = brk (A.drop (j + 1)) (B.drop (j + 1))) := by show _ = _; rw [HBA.out, HD.out]; rfl
        clear hd
        go_upto_region 4 with fail
        have nb : Nw wr wr.drew := (Fr.refl _ _).drew
        refine wp_region_held_drew (S := (fun V => Nw wr V)) (by kernel_rfl) (nb) ?_
        intro hS0
        refine wpAnyH_take (i := 0) (oi := ({ dst := some 18, op := Op.move (Operand.tmp 0), type := 56, pos := "outright.go:134", after := #[], guard := none } : Oper)) (v := .slice (some ⟨ga, oa, none⟩) n ac) rfl (by kernel_rfl) (by kernel_rfl) (by kernel_rfl) (fun _ _ _ h => h) (Or.inl ⟨by rfl, by intro w hw; go_simp⟩) hS0 ?_
        try simp only [Act.put, List.setIfInBounds_toArray, List.set_cons_zero, List.set_cons_succ]
        refine wpAnyH_take (i := 1) (oi := ({ dst := some 19, op := Op.move (Operand.tmp 5), type := 3, pos := "outright.go:134", after := #[], guard := none } : Oper)) (v := .int .i64 (j : Int)) rfl (by kernel_rfl) (by kernel_rfl) (by kernel_rfl) (fun _ _ _ h => h) (Or.inl ⟨by rfl, by intro w hw; go_simp⟩) hS0 ?_
        try simp only [Act.put, List.setIfInBounds_toArray, List.set_cons_zero, List.set_cons_succ]
        refine wpAnyH_take (i := 2) (oi := ({ dst := some 20, op := Op.indexAddr 56 (Operand.tmp 18) (Operand.tmp 19), type := 0, pos := "outright.go:134", after := #[{ on := 0, ground := Ground.data }, { on := 1, ground := Ground.data }], guard := none } : Oper)) (v := .pointer (some ⟨ga, oa + j * 64, none⟩)) rfl (by kernel_rfl) (by kernel_rfl) (by kernel_rfl) (fun _ _ _ h => h) (Or.inl ⟨by kernel_rfl, by intro w hw; go_simp; try (intro hq; omega)⟩) hS0 ?_
        try simp only [Act.put, List.setIfInBounds_toArray, List.set_cons_zero, List.set_cons_succ]
        refine wpAnyH_take (i := 3) (oi := ({ dst := some 21, op := Op.load 60 (Operand.tmp 20), type := 60, pos := "outright.go:134", after := #[{ on := 2, ground := Ground.data }], guard := none } : Oper)) (v := .agg (h2c p1 p2)) rfl (by kernel_rfl) (by kernel_rfl) (by kernel_rfl) (fun _ _ _ h => h) (yields_loadV (by kernel_rfl) (.tmp 20) 60 64 rfl Tryd.isAgg60 Tryd.sizeOf60 ga (oa + j * 64) rfl (h2c p1 p2) hps (fun w hw => HPA.out w hw)) hS0 ?_
        try simp only [Act.put, List.setIfInBounds_toArray, List.set_cons_zero, List.set_cons_succ]
        refine wpAnyH_take (i := 4) (oi := ({ dst := some 22, op := Op.move (Operand.tmp 1), type := 56, pos := "outright.go:134", after := #[], guard := none } : Oper)) (v := .slice (some ⟨gb, ob, none⟩) n bc) rfl (by kernel_rfl) (by kernel_rfl) (by kernel_rfl) (fun _ _ _ h => h) (Or.inl ⟨by rfl, by intro w hw; go_simp⟩) hS0 ?_
        try simp only [Act.put, List.setIfInBounds_toArray, List.set_cons_zero, List.set_cons_succ]
        refine wpAnyH_take (i := 5) (oi := ({ dst := some 23, op := Op.move (Operand.tmp 5), type := 3, pos := "outright.go:134", after := #[], guard := none } : Oper)) (v := .int .i64 (j : Int)) rfl (by kernel_rfl) (by kernel_rfl) (by kernel_rfl) (fun _ _ _ h => h) (Or.inl ⟨by rfl, by intro w hw; go_simp⟩) hS0 ?_
        try simp only [Act.put, List.setIfInBounds_toArray, List.set_cons_zero, List.set_cons_succ]
        refine wpAnyH_take (i := 6) (oi := ({ dst := some 24, op := Op.indexAddr 56 (Operand.tmp 22) (Operand.tmp 23), type := 0, pos := "outright.go:134", after := #[{ on := 4, ground := Ground.data }, { on := 5, ground := Ground.data }], guard := none } : Oper)) (v := .pointer (some ⟨gb, ob + j * 64, none⟩)) rfl (by kernel_rfl) (by kernel_rfl) (by kernel_rfl) (fun _ _ _ h => h) (Or.inl ⟨by kernel_rfl, by intro w hw; go_simp; try (intro hq; omega)⟩) hS0 ?_
        try simp only [Act.put, List.setIfInBounds_toArray, List.set_cons_zero, List.set_cons_succ]
        refine wpAnyH_take (i := 7) (oi := ({ dst := some 25, op := Op.load 60 (Operand.tmp 24), type := 60, pos := "outright.go:134", after := #[{ on := 6, ground := Ground.data }], guard := none } : Oper)) (v := .agg (h2c q1 q2)) rfl (by kernel_rfl) (by kernel_rfl) (by kernel_rfl) (fun _ _ _ h => h) (yields_loadV (by kernel_rfl) (.tmp 24) 60 64 rfl Tryd.isAgg60 Tryd.sizeOf60 gb (ob + j * 64) rfl (h2c q1 q2) hqs (fun w hw => HQA.out w hw)) hS0 ?_
        try simp only [Act.put, List.setIfInBounds_toArray, List.set_cons_zero, List.set_cons_succ]
        refine wpAnyH_take (i := 8) (oi := ({ dst := some 26, op := Op.binOp BinOp.neq 60 (Operand.tmp 21) (Operand.tmp 25) 60, type := 4, pos := "outright.go:134", after := #[{ on := 3, ground := Ground.data }, { on := 7, ground := Ground.data }], guard := none } : Oper)) (v := .bool false) rfl (by kernel_rfl) (by kernel_rfl) (by kernel_rfl) (fun _ _ _ h => h) (yields_prneq (by kernel_rfl) (.tmp 21) (.tmp 25) rfl p1 p2 q1 q2 P1L.out P2L.out Q1L.out Q2L.out rfl rfl false HD.out) hS0 ?_
        try simp only [Act.put, List.setIfInBounds_toArray, List.set_cons_zero, List.set_cons_succ]
        refine wpAnyH_take (i := 9) (oi := ({ dst := some 27, op := Op.move (Operand.tmp 26), type := 4, pos := "outright.go:134", after := #[{ on := 8, ground := Ground.data }], guard := none } : Oper)) (v := .bool false) rfl (by kernel_rfl) (by kernel_rfl) (by kernel_rfl) (fun _ _ _ h => h) (Or.inl ⟨by kernel_rfl, by intro w hw; go_simp⟩) hS0 ?_
        try simp only [Act.put, List.setIfInBounds_toArray, List.set_cons_zero, List.set_cons_succ]
        refine wpAnyH_take (i := 10) (oi := ({ dst := some 28, op := Op.move (Operand.tmp 0), type := 56, pos := "outright.go:134", after := #[{ on := 9, ground := Ground.guard }], guard := some (9, true) } : Oper)) (v := undef) rfl (by kernel_rfl) (by kernel_rfl) (by kernel_rfl) (fun _ _ _ h => h) (Or.inr ⟨by rfl, rfl⟩) hS0 ?_
        try simp only [Act.put, List.setIfInBounds_toArray, List.set_cons_zero, List.set_cons_succ]
        refine wpAnyH_take (i := 11) (oi := ({ dst := some 29, op := Op.move (Operand.tmp 5), type := 3, pos := "outright.go:134", after := #[{ on := 9, ground := Ground.guard }], guard := some (9, true) } : Oper)) (v := undef) rfl (by kernel_rfl) (by kernel_rfl) (by kernel_rfl) (fun _ _ _ h => h) (Or.inr ⟨by rfl, rfl⟩) hS0 ?_
        try simp only [Act.put, List.setIfInBounds_toArray, List.set_cons_zero, List.set_cons_succ]
        refine wpAnyH_take (i := 12) (oi := ({ dst := some 30, op := Op.indexAddr 56 (Operand.tmp 28) (Operand.tmp 29), type := 0, pos := "outright.go:134", after := #[{ on := 10, ground := Ground.data }, { on := 11, ground := Ground.data }, { on := 9, ground := Ground.guard }], guard := some (9, true) } : Oper)) (v := undef) rfl (by kernel_rfl) (by kernel_rfl) (by kernel_rfl) (fun _ _ _ h => h) (Or.inr ⟨by rfl, rfl⟩) hS0 ?_
        try simp only [Act.put, List.setIfInBounds_toArray, List.set_cons_zero, List.set_cons_succ]
        refine wpAnyH_take (i := 13) (oi := ({ dst := some 31, op := Op.fieldAddr 60 (Operand.tmp 30) 0, type := 0, pos := "outright.go:134", after := #[{ on := 12, ground := Ground.data }, { on := 9, ground := Ground.guard }], guard := some (9, true) } : Oper)) (v := undef) rfl (by kernel_rfl) (by kernel_rfl) (by kernel_rfl) (fun _ _ _ h => h) (Or.inr ⟨by rfl, rfl⟩) hS0 ?_
        try simp only [Act.put, List.setIfInBounds_toArray, List.set_cons_zero, List.set_cons_succ]
        refine wpAnyH_take (i := 14) (oi := ({ dst := some 32, op := Op.load 24 (Operand.tmp 31), type := 24, pos := "outright.go:134", after := #[{ on := 13, ground := Ground.data }, { on := 9, ground := Ground.guard }], guard := some (9, true) } : Oper)) (v := undef) rfl (by kernel_rfl) (by kernel_rfl) (by kernel_rfl) (fun _ _ _ h => h) (Or.inr ⟨by rfl, rfl⟩) hS0 ?_
        try simp only [Act.put, List.setIfInBounds_toArray, List.set_cons_zero, List.set_cons_succ]
        refine wpAnyH_take (i := 15) (oi := ({ dst := some 33, op := Op.move (Operand.tmp 0), type := 56, pos := "outright.go:134", after := #[{ on := 9, ground := Ground.guard }], guard := some (9, true) } : Oper)) (v := undef) rfl (by kernel_rfl) (by kernel_rfl) (by kernel_rfl) (fun _ _ _ h => h) (Or.inr ⟨by rfl, rfl⟩) hS0 ?_
        try simp only [Act.put, List.setIfInBounds_toArray, List.set_cons_zero, List.set_cons_succ]
        refine wpAnyH_take (i := 16) (oi := ({ dst := some 34, op := Op.move (Operand.tmp 5), type := 3, pos := "outright.go:134", after := #[{ on := 9, ground := Ground.guard }], guard := some (9, true) } : Oper)) (v := undef) rfl (by kernel_rfl) (by kernel_rfl) (by kernel_rfl) (fun _ _ _ h => h) (Or.inr ⟨by rfl, rfl⟩) hS0 ?_
        try simp only [Act.put, List.setIfInBounds_toArray, List.set_cons_zero, List.set_cons_succ]
        refine wpAnyH_take (i := 17) (oi := ({ dst := some 35, op := Op.indexAddr 56 (Operand.tmp 33) (Operand.tmp 34), type := 0, pos := "outright.go:134", after := #[{ on := 15, ground := Ground.data }, { on := 16, ground := Ground.data }, { on := 9, ground := Ground.guard }], guard := some (9, true) } : Oper)) (v := undef) rfl (by kernel_rfl) (by kernel_rfl) (by kernel_rfl) (fun _ _ _ h => h) (Or.inr ⟨by rfl, rfl⟩) hS0 ?_
        try simp only [Act.put, List.setIfInBounds_toArray, List.set_cons_zero, List.set_cons_succ]
        refine wpAnyH_take (i := 18) (oi := ({ dst := some 36, op := Op.fieldAddr 60 (Operand.tmp 35) 1, type := 0, pos := "outright.go:134", after := #[{ on := 17, ground := Ground.data }, { on := 9, ground := Ground.guard }], guard := some (9, true) } : Oper)) (v := undef) rfl (by kernel_rfl) (by kernel_rfl) (by kernel_rfl) (fun _ _ _ h => h) (Or.inr ⟨by rfl, rfl⟩) hS0 ?_
        try simp only [Act.put, List.setIfInBounds_toArray, List.set_cons_zero, List.set_cons_succ]
        refine wpAnyH_take (i := 19) (oi := ({ dst := some 37, op := Op.load 24 (Operand.tmp 36), type := 24, pos := "outright.go:134", after := #[{ on := 18, ground := Ground.data }, { on := 9, ground := Ground.guard }], guard := some (9, true) } : Oper)) (v := undef) rfl (by kernel_rfl) (by kernel_rfl) (by kernel_rfl) (fun _ _ _ h => h) (Or.inr ⟨by rfl, rfl⟩) hS0 ?_
        try simp only [Act.put, List.setIfInBounds_toArray, List.set_cons_zero, List.set_cons_succ]
        refine wpAnyH_take (i := 21) (oi := ({ dst := some 39, op := Op.move (Operand.tmp 1), type := 56, pos := "outright.go:134", after := #[{ on := 9, ground := Ground.guard }], guard := some (9, true) } : Oper)) (v := undef) rfl (by kernel_rfl) (by kernel_rfl) (by kernel_rfl) (fun _ _ _ h => h) (Or.inr ⟨by rfl, rfl⟩) hS0 ?_
        try simp only [Act.put, List.setIfInBounds_toArray, List.set_cons_zero, List.set_cons_succ]
        refine wpAnyH_take (i := 22) (oi := ({ dst := some 40, op := Op.move (Operand.tmp 5), type := 3, pos := "outright.go:134", after := #[{ on := 9, ground := Ground.guard }], guard := some (9, true) } : Oper)) (v := undef) rfl (by kernel_rfl) (by kernel_rfl) (by kernel_rfl) (fun _ _ _ h => h) (Or.inr ⟨by rfl, rfl⟩) hS0 ?_
        try simp only [Act.put, List.setIfInBounds_toArray, List.set_cons_zero, List.set_cons_succ]
        refine wpAnyH_take (i := 23) (oi := ({ dst := some 41, op := Op.indexAddr 56 (Operand.tmp 39) (Operand.tmp 40), type := 0, pos := "outright.go:134", after := #[{ on := 21, ground := Ground.data }, { on := 22, ground := Ground.data }, { on := 9, ground := Ground.guard }], guard := some (9, true) } : Oper)) (v := undef) rfl (by kernel_rfl) (by kernel_rfl) (by kernel_rfl) (fun _ _ _ h => h) (Or.inr ⟨by rfl, rfl⟩) hS0 ?_
        try simp only [Act.put, List.setIfInBounds_toArray, List.set_cons_zero, List.set_cons_succ]
        refine wpAnyH_take (i := 24) (oi := ({ dst := some 42, op := Op.fieldAddr 60 (Operand.tmp 41) 0, type := 0, pos := "outright.go:134", after := #[{ on := 23, ground := Ground.data }, { on := 9, ground := Ground.guard }], guard := some (9, true) } : Oper)) (v := undef) rfl (by kernel_rfl) (by kernel_rfl) (by kernel_rfl) (fun _ _ _ h => h) (Or.inr ⟨by rfl, rfl⟩) hS0 ?_
        try simp only [Act.put, List.setIfInBounds_toArray, List.set_cons_zero, List.set_cons_succ]
        refine wpAnyH_take (i := 25) (oi := ({ dst := some 43, op := Op.load 24 (Operand.tmp 42), type := 24, pos := "outright.go:134", after := #[{ on := 24, ground := Ground.data }, { on := 9, ground := Ground.guard }], guard := some (9, true) } : Oper)) (v := undef) rfl (by kernel_rfl) (by kernel_rfl) (by kernel_rfl) (fun _ _ _ h => h) (Or.inr ⟨by rfl, rfl⟩) hS0 ?_
        try simp only [Act.put, List.setIfInBounds_toArray, List.set_cons_zero, List.set_cons_succ]
        refine wpAnyH_take (i := 26) (oi := ({ dst := some 44, op := Op.move (Operand.tmp 1), type := 56, pos := "outright.go:134", after := #[{ on := 9, ground := Ground.guard }], guard := some (9, true) } : Oper)) (v := undef) rfl (by kernel_rfl) (by kernel_rfl) (by kernel_rfl) (fun _ _ _ h => h) (Or.inr ⟨by rfl, rfl⟩) hS0 ?_
        try simp only [Act.put, List.setIfInBounds_toArray, List.set_cons_zero, List.set_cons_succ]
        refine wpAnyH_take (i := 27) (oi := ({ dst := some 45, op := Op.move (Operand.tmp 5), type := 3, pos := "outright.go:134", after := #[{ on := 9, ground := Ground.guard }], guard := some (9, true) } : Oper)) (v := undef) rfl (by kernel_rfl) (by kernel_rfl) (by kernel_rfl) (fun _ _ _ h => h) (Or.inr ⟨by rfl, rfl⟩) hS0 ?_
        try simp only [Act.put, List.setIfInBounds_toArray, List.set_cons_zero, List.set_cons_succ]
        refine wpAnyH_take (i := 28) (oi := ({ dst := some 46, op := Op.indexAddr 56 (Operand.tmp 44) (Operand.tmp 45), type := 0, pos := "outright.go:134", after := #[{ on := 26, ground := Ground.data }, { on := 27, ground := Ground.data }, { on := 9, ground := Ground.guard }], guard := some (9, true) } : Oper)) (v := undef) rfl (by kernel_rfl) (by kernel_rfl) (by kernel_rfl) (fun _ _ _ h => h) (Or.inr ⟨by rfl, rfl⟩) hS0 ?_
        try simp only [Act.put, List.setIfInBounds_toArray, List.set_cons_zero, List.set_cons_succ]
        refine wpAnyH_take (i := 29) (oi := ({ dst := some 47, op := Op.fieldAddr 60 (Operand.tmp 46) 1, type := 0, pos := "outright.go:134", after := #[{ on := 28, ground := Ground.data }, { on := 9, ground := Ground.guard }], guard := some (9, true) } : Oper)) (v := undef) rfl (by kernel_rfl) (by kernel_rfl) (by kernel_rfl) (fun _ _ _ h => h) (Or.inr ⟨by rfl, rfl⟩) hS0 ?_
        try simp only [Act.put, List.setIfInBounds_toArray, List.set_cons_zero, List.set_cons_succ]
        refine wpAnyH_take (i := 30) (oi := ({ dst := some 48, op := Op.load 24 (Operand.tmp 47), type := 24, pos := "outright.go:134", after := #[{ on := 29, ground := Ground.data }, { on := 9, ground := Ground.guard }], guard := some (9, true) } : Oper)) (v := undef) rfl (by kernel_rfl) (by kernel_rfl) (by kernel_rfl) (fun _ _ _ h => h) (Or.inr ⟨by rfl, rfl⟩) hS0 ?_
        try simp only [Act.put, List.setIfInBounds_toArray, List.set_cons_zero, List.set_cons_succ]
        refine wpAnyH_ready (rs := [20]) (by kernel_rfl) (by simp) ?_
        refine (AllReadyH.cons (o := ({ dst := some 38, op := Op.call { callee := Callee.value (Operand.func 25), args := #[Operand.tmp 32, Operand.tmp 37], argTypes := #[24, 24] }, type := 24, pos := "outright.go:134", after := #[{ on := 14, ground := Ground.data }, { on := 19, ground := Ground.data }, { on := 9, ground := Ground.chain }, { on := 9, ground := Ground.guard }], guard := some (9, true) } : Oper)) rfl (fun K' hK => ?_) AllReadyH.nil)
        go_simp
        refine hK.out _ _ (nb) (fun hS0 => ?_)
        try simp only [Act.put, List.setIfInBounds_toArray, List.set_cons_zero, List.set_cons_succ]
        refine wpAnyH_ready (rs := [31]) (by kernel_rfl) (by simp) ?_
        refine (AllReadyH.cons (o := ({ dst := some 49, op := Op.call { callee := Callee.value (Operand.func 25), args := #[Operand.tmp 43, Operand.tmp 48], argTypes := #[24, 24] }, type := 24, pos := "outright.go:134", after := #[{ on := 25, ground := Ground.data }, { on := 30, ground := Ground.data }, { on := 20, ground := Ground.chain }, { on := 9, ground := Ground.guard }], guard := some (9, true) } : Oper)) rfl (fun K' hK => ?_) AllReadyH.nil)
        go_simp
        refine hK.out _ _ (nb) (fun hS0 => ?_)
        try simp only [Act.put, List.setIfInBounds_toArray, List.set_cons_zero, List.set_cons_succ]
        refine wpAnyH_take (i := 32) (oi := ({ dst := some 50, op := Op.binOp BinOp.eql 24 (Operand.tmp 38) (Operand.tmp 49) 24, type := 4, pos := "outright.go:134", after := #[{ on := 20, ground := Ground.data }, { on := 31, ground := Ground.data }, { on := 9, ground := Ground.guard }], guard := some (9, true) } : Oper)) (v := undef) rfl (by kernel_rfl) (by kernel_rfl) (by kernel_rfl) (fun _ _ _ h => h) (Or.inr ⟨by rfl, rfl⟩) hS0 ?_
        try simp only [Act.put, List.setIfInBounds_toArray, List.set_cons_zero, List.set_cons_succ]
        refine wpAnyH_take (i := 33) (oi := ({ dst := some 51, op := Op.pick (Operand.tmp 27) (Operand.tmp 50) (Operand.const (Value.bool false)), type := 4, pos := "outright.go:134", after := #[{ on := 9, ground := Ground.data }, { on := 32, ground := Ground.data }], guard := none } : Oper)) (v := .bool false) rfl (by kernel_rfl) (by kernel_rfl) (by kernel_rfl) (fun _ _ _ h => h) (Or.inl ⟨by kernel_rfl, by intro w hw; go_simp⟩) hS0 ?_
        try simp only [Act.put, List.setIfInBounds_toArray, List.set_cons_zero, List.set_cons_succ]
        refine wpAnyH_done (by kernel_rfl) ?_ _
        go_wp2_with fail
        exact ⟨⟨j + 1, by omega, by go_num, HBK.out.trans HNX.out, HNW.out.tr nb⟩, by simp [intOf]; omega⟩
      · have HD : Hid ((!decide (p1 = q1 ∧ p2 = q2)) = true) := by show _ = _; rw [decide_eq_false hd]; rfl
        clear hd
        by_cases he : z1 = z2
        · have HE : Hid (decide (z1 = z2) = true) := decide_eq_true he
          have HNX : Hid (brk (A.drop j) (B.drop j) = true) := by show _ = _; rw [HBA.out, HD.out, HE.out]; rfl
          clear he
          go_upto_region 4 with fail
          have nb : Nw wr wr.drew := (Fr.refl _ _).drew
          refine wp_region_held_drew (S := (fun V => Nw wr V)) (by kernel_rfl) (nb) ?_
          intro hS0
          refine wpAnyH_take (i := 0) (oi := ({ dst := some 18, op := Op.move (Operand.tmp 0), type := 56, pos := "outright.go:134", after := #[], guard := none } : Oper)) (v := .slice (some ⟨ga, oa, none⟩) n ac) rfl (by kernel_rfl) (by kernel_rfl) (by kernel_rfl) (fun _ _ _ h => h) (Or.inl ⟨by rfl, by intro w hw; go_simp⟩) hS0 ?_
          try simp only [Act.put, List.setIfInBounds_toArray, List.set_cons_zero, List.set_cons_succ]
          refine wpAnyH_take (i := 1) (oi := ({ dst := some 19, op := Op.move (Operand.tmp 5), type := 3, pos := "outright.go:134", after := #[], guard := none } : Oper)) (v := .int .i64 (j : Int)) rfl (by kernel_rfl) (by kernel_rfl) (by kernel_rfl) (fun _ _ _ h => h) (Or.inl ⟨by rfl, by intro w hw; go_simp⟩) hS0 ?_
          try simp only [Act.put, List.setIfInBounds_toArray, List.set_cons_zero, List.set_cons_succ]
          refine wpAnyH_take (i := 2) (oi := ({ dst := some 20, op := Op.indexAddr 56 (Operand.tmp 18) (Operand.tmp 19), type := 0, pos := "outright.go:134", after := #[{ on := 0, ground := Ground.data }, { on := 1, ground := Ground.data }], guard := none } : Oper)) (v := .pointer (some ⟨ga, oa + j * 64, none⟩)) rfl (by kernel_rfl) (by kernel_rfl) (by kernel_rfl) (fun _ _ _ h => h) (Or.inl ⟨by kernel_rfl, by intro w hw; go_simp; try (intro hq; omega)⟩) hS0 ?_
          try simp only [Act.put, List.setIfInBounds_toArray, List.set_cons_zero, List.set_cons_succ]
          refine wpAnyH_take (i := 3) (oi := ({ dst := some 21, op := Op.load 60 (Operand.tmp 20), type := 60, pos := "outright.go:134", after := #[{ on := 2, ground := Ground.data }], guard := none } : Oper)) (v := .agg (h2c p1 p2)) rfl (by kernel_rfl) (by kernel_rfl) (by kernel_rfl) (fun _ _ _ h => h) (yields_loadV (by kernel_rfl) (.tmp 20) 60 64 rfl Tryd.isAgg60 Tryd.sizeOf60 ga (oa + j * 64) rfl (h2c p1 p2) hps (fun w hw => HPA.out w hw)) hS0 ?_
          try simp only [Act.put, List.setIfInBounds_toArray, List.set_cons_zero, List.set_cons_succ]
          refine wpAnyH_take (i := 4) (oi := ({ dst := some 22, op := Op.move (Operand.tmp 1), type := 56, pos := "outright.go:134", after := #[], guard := none } : Oper)) (v := .slice (some ⟨gb, ob, none⟩) n bc) rfl (by kernel_rfl) (by kernel_rfl) (by kernel_rfl) (fun _ _ _ h => h) (Or.inl ⟨by rfl, by intro w hw; go_simp⟩) hS0 ?_
          try simp only [Act.put, List.setIfInBounds_toArray, List.set_cons_zero, List.set_cons_succ]
          refine wpAnyH_take (i := 5) (oi := ({ dst := some 23, op := Op.move (Operand.tmp 5), type := 3, pos := "outright.go:134", after := #[], guard := none } : Oper)) (v := .int .i64 (j : Int)) rfl (by kernel_rfl) (by kernel_rfl) (by kernel_rfl) (fun _ _ _ h => h) (Or.inl ⟨by rfl, by intro w hw; go_simp⟩) hS0 ?_
          try simp only [Act.put, List.setIfInBounds_toArray, List.set_cons_zero, List.set_cons_succ]
          refine wpAnyH_take (i := 6) (oi := ({ dst := some 24, op := Op.indexAddr 56 (Operand.tmp 22) (Operand.tmp 23), type := 0, pos := "outright.go:134", after := #[{ on := 4, ground := Ground.data }, { on := 5, ground := Ground.data }], guard := none } : Oper)) (v := .pointer (some ⟨gb, ob + j * 64, none⟩)) rfl (by kernel_rfl) (by kernel_rfl) (by kernel_rfl) (fun _ _ _ h => h) (Or.inl ⟨by kernel_rfl, by intro w hw; go_simp; try (intro hq; omega)⟩) hS0 ?_
          try simp only [Act.put, List.setIfInBounds_toArray, List.set_cons_zero, List.set_cons_succ]
          refine wpAnyH_take (i := 7) (oi := ({ dst := some 25, op := Op.load 60 (Operand.tmp 24), type := 60, pos := "outright.go:134", after := #[{ on := 6, ground := Ground.data }], guard := none } : Oper)) (v := .agg (h2c q1 q2)) rfl (by kernel_rfl) (by kernel_rfl) (by kernel_rfl) (fun _ _ _ h => h) (yields_loadV (by kernel_rfl) (.tmp 24) 60 64 rfl Tryd.isAgg60 Tryd.sizeOf60 gb (ob + j * 64) rfl (h2c q1 q2) hqs (fun w hw => HQA.out w hw)) hS0 ?_
          try simp only [Act.put, List.setIfInBounds_toArray, List.set_cons_zero, List.set_cons_succ]
          refine wpAnyH_take (i := 8) (oi := ({ dst := some 26, op := Op.binOp BinOp.neq 60 (Operand.tmp 21) (Operand.tmp 25) 60, type := 4, pos := "outright.go:134", after := #[{ on := 3, ground := Ground.data }, { on := 7, ground := Ground.data }], guard := none } : Oper)) (v := .bool true) rfl (by kernel_rfl) (by kernel_rfl) (by kernel_rfl) (fun _ _ _ h => h) (yields_prneq (by kernel_rfl) (.tmp 21) (.tmp 25) rfl p1 p2 q1 q2 P1L.out P2L.out Q1L.out Q2L.out rfl rfl true HD.out) hS0 ?_
          try simp only [Act.put, List.setIfInBounds_toArray, List.set_cons_zero, List.set_cons_succ]
          refine wpAnyH_take (i := 9) (oi := ({ dst := some 27, op := Op.move (Operand.tmp 26), type := 4, pos := "outright.go:134", after := #[{ on := 8, ground := Ground.data }], guard := none } : Oper)) (v := .bool true) rfl (by kernel_rfl) (by kernel_rfl) (by kernel_rfl) (fun _ _ _ h => h) (Or.inl ⟨by kernel_rfl, by intro w hw; go_simp⟩) hS0 ?_
          try simp only [Act.put, List.setIfInBounds_toArray, List.set_cons_zero, List.set_cons_succ]
          refine wpAnyH_take (i := 10) (oi := ({ dst := some 28, op := Op.move (Operand.tmp 0), type := 56, pos := "outright.go:134", after := #[{ on := 9, ground := Ground.guard }], guard := some (9, true) } : Oper)) (v := .slice (some ⟨ga, oa, none⟩) n ac) rfl (by kernel_rfl) (by kernel_rfl) (by kernel_rfl) (fun _ _ _ h => h) (Or.inl ⟨by kernel_rfl, by intro w hw; go_simp⟩) hS0 ?_
          try simp only [Act.put, List.setIfInBounds_toArray, List.set_cons_zero, List.set_cons_succ]
          refine wpAnyH_take (i := 11) (oi := ({ dst := some 29, op := Op.move (Operand.tmp 5), type := 3, pos := "outright.go:134", after := #[{ on := 9, ground := Ground.guard }], guard := some (9, true) } : Oper)) (v := .int .i64 (j : Int)) rfl (by kernel_rfl) (by kernel_rfl) (by kernel_rfl) (fun _ _ _ h => h) (Or.inl ⟨by kernel_rfl, by intro w hw; go_simp⟩) hS0 ?_
          try simp only [Act.put, List.setIfInBounds_toArray, List.set_cons_zero, List.set_cons_succ]
          refine wpAnyH_take (i := 12) (oi := ({ dst := some 30, op := Op.indexAddr 56 (Operand.tmp 28) (Operand.tmp 29), type := 0, pos := "outright.go:134", after := #[{ on := 10, ground := Ground.data }, { on := 11, ground := Ground.data }, { on := 9, ground := Ground.guard }], guard := some (9, true) } : Oper)) (v := .pointer (some ⟨ga, oa + j * 64, none⟩)) rfl (by kernel_rfl) (by kernel_rfl) (by kernel_rfl) (fun _ _ _ h => h) (Or.inl ⟨by kernel_rfl, by intro w hw; go_simp; try (intro hq; omega)⟩) hS0 ?_
          try simp only [Act.put, List.setIfInBounds_toArray, List.set_cons_zero, List.set_cons_succ]
          refine wpAnyH_take (i := 13) (oi := ({ dst := some 31, op := Op.fieldAddr 60 (Operand.tmp 30) 0, type := 0, pos := "outright.go:134", after := #[{ on := 12, ground := Ground.data }, { on := 9, ground := Ground.guard }], guard := some (9, true) } : Oper)) (v := .pointer (some ⟨ga, oa + j * 64, none⟩)) rfl (by kernel_rfl) (by kernel_rfl) (by kernel_rfl) (fun _ _ _ h => h) (Or.inl ⟨by kernel_rfl, by intro w hw; go_simp⟩) hS0 ?_
          try simp only [Act.put, List.setIfInBounds_toArray, List.set_cons_zero, List.set_cons_succ]
          refine wpAnyH_take (i := 14) (oi := ({ dst := some 32, op := Op.load 24 (Operand.tmp 31), type := 24, pos := "outright.go:134", after := #[{ on := 13, ground := Ground.data }, { on := 9, ground := Ground.guard }], guard := some (9, true) } : Oper)) (v := .agg (hbs p1)) rfl (by kernel_rfl) (by kernel_rfl) (by kernel_rfl) (fun _ _ _ h => h) (yields_loadV (by kernel_rfl) (.tmp 31) 24 32 rfl Tryd.isAgg24 Tryd.sizeOf24 ga (oa + j * 64) rfl (hbs p1) hp1s (fun w hw => HPL.out w hw)) hS0 ?_
          try simp only [Act.put, List.setIfInBounds_toArray, List.set_cons_zero, List.set_cons_succ]
          refine wpAnyH_take (i := 15) (oi := ({ dst := some 33, op := Op.move (Operand.tmp 0), type := 56, pos := "outright.go:134", after := #[{ on := 9, ground := Ground.guard }], guard := some (9, true) } : Oper)) (v := .slice (some ⟨ga, oa, none⟩) n ac) rfl (by kernel_rfl) (by kernel_rfl) (by kernel_rfl) (fun _ _ _ h => h) (Or.inl ⟨by kernel_rfl, by intro w hw; go_simp⟩) hS0 ?_
          try simp only [Act.put, List.setIfInBounds_toArray, List.set_cons_zero, List.set_cons_succ]
          refine wpAnyH_take (i := 16) (oi := ({ dst := some 34, op := Op.move (Operand.tmp 5), type := 3, pos := "outright.go:134", after := #[{ on := 9, ground := Ground.guard }], guard := some (9, true) } : Oper)) (v := .int .i64 (j : Int)) rfl (by kernel_rfl) (by kernel_rfl) (by kernel_rfl) (fun _ _ _ h => h) (Or.inl ⟨by kernel_rfl, by intro w hw; go_simp⟩) hS0 ?_
          try simp only [Act.put, List.setIfInBounds_toArray, List.set_cons_zero, List.set_cons_succ]
          refine wpAnyH_take (i := 17) (oi := ({ dst := some 35, op := Op.indexAddr 56 (Operand.tmp 33) (Operand.tmp 34), type := 0, pos := "outright.go:134", after := #[{ on := 15, ground := Ground.data }, { on := 16, ground := Ground.data }, { on := 9, ground := Ground.guard }], guard := some (9, true) } : Oper)) (v := .pointer (some ⟨ga, oa + j * 64, none⟩)) rfl (by kernel_rfl) (by kernel_rfl) (by kernel_rfl) (fun _ _ _ h => h) (Or.inl ⟨by kernel_rfl, by intro w hw; go_simp; try (intro hq; omega)⟩) hS0 ?_
          try simp only [Act.put, List.setIfInBounds_toArray, List.set_cons_zero, List.set_cons_succ]
          refine wpAnyH_take (i := 18) (oi := ({ dst := some 36, op := Op.fieldAddr 60 (Operand.tmp 35) 1, type := 0, pos := "outright.go:134", after := #[{ on := 17, ground := Ground.data }, { on := 9, ground := Ground.guard }], guard := some (9, true) } : Oper)) (v := .pointer (some ⟨ga, oa + j * 64 + 32, none⟩)) rfl (by kernel_rfl) (by kernel_rfl) (by kernel_rfl) (fun _ _ _ h => h) (Or.inl ⟨by kernel_rfl, by intro w hw; go_simp⟩) hS0 ?_
          try simp only [Act.put, List.setIfInBounds_toArray, List.set_cons_zero, List.set_cons_succ]
          refine wpAnyH_take (i := 19) (oi := ({ dst := some 37, op := Op.load 24 (Operand.tmp 36), type := 24, pos := "outright.go:134", after := #[{ on := 18, ground := Ground.data }, { on := 9, ground := Ground.guard }], guard := some (9, true) } : Oper)) (v := .agg (hbs p2)) rfl (by kernel_rfl) (by kernel_rfl) (by kernel_rfl) (fun _ _ _ h => h) (yields_loadV (by kernel_rfl) (.tmp 36) 24 32 rfl Tryd.isAgg24 Tryd.sizeOf24 ga (oa + j * 64 + 32) rfl (hbs p2) hp2s (fun w hw => HPR.out w hw)) hS0 ?_
          try simp only [Act.put, List.setIfInBounds_toArray, List.set_cons_zero, List.set_cons_succ]
          refine wpAnyH_take (i := 21) (oi := ({ dst := some 39, op := Op.move (Operand.tmp 1), type := 56, pos := "outright.go:134", after := #[{ on := 9, ground := Ground.guard }], guard := some (9, true) } : Oper)) (v := .slice (some ⟨gb, ob, none⟩) n bc) rfl (by kernel_rfl) (by kernel_rfl) (by kernel_rfl) (fun _ _ _ h => h) (Or.inl ⟨by kernel_rfl, by intro w hw; go_simp⟩) hS0 ?_
          try simp only [Act.put, List.setIfInBounds_toArray, List.set_cons_zero, List.set_cons_succ]
          refine wpAnyH_take (i := 22) (oi := ({ dst := some 40, op := Op.move (Operand.tmp 5), type := 3, pos := "outright.go:134", after := #[{ on := 9, ground := Ground.guard }], guard := some (9, true) } : Oper)) (v := .int .i64 (j : Int)) rfl (by kernel_rfl) (by kernel_rfl) (by kernel_rfl) (fun _ _ _ h => h) (Or.inl ⟨by kernel_rfl, by intro w hw; go_simp⟩) hS0 ?_
          try simp only [Act.put, List.setIfInBounds_toArray, List.set_cons_zero, List.set_cons_succ]
          refine wpAnyH_take (i := 23) (oi := ({ dst := some 41, op := Op.indexAddr 56 (Operand.tmp 39) (Operand.tmp 40), type := 0, pos := "outright.go:134", after := #[{ on := 21, ground := Ground.data }, { on := 22, ground := Ground.data }, { on := 9, ground := Ground.guard }], guard := some (9, true) } : Oper)) (v := .pointer (some ⟨gb, ob + j * 64, none⟩)) rfl (by kernel_rfl) (by kernel_rfl) (by kernel_rfl) (fun _ _ _ h => h) (Or.inl ⟨by kernel_rfl, by intro w hw; go_simp; try (intro hq; omega)⟩) hS0 ?_
          try simp only [Act.put, List.setIfInBounds_toArray, List.set_cons_zero, List.set_cons_succ]
          refine wpAnyH_take (i := 24) (oi := ({ dst := some 42, op := Op.fieldAddr 60 (Operand.tmp 41) 0, type := 0, pos := "outright.go:134", after := #[{ on := 23, ground := Ground.data }, { on := 9, ground := Ground.guard }], guard := some (9, true) } : Oper)) (v := .pointer (some ⟨gb, ob + j * 64, none⟩)) rfl (by kernel_rfl) (by kernel_rfl) (by kernel_rfl) (fun _ _ _ h => h) (Or.inl ⟨by kernel_rfl, by intro w hw; go_simp⟩) hS0 ?_
          try simp only [Act.put, List.setIfInBounds_toArray, List.set_cons_zero, List.set_cons_succ]
          refine wpAnyH_take (i := 25) (oi := ({ dst := some 43, op := Op.load 24 (Operand.tmp 42), type := 24, pos := "outright.go:134", after := #[{ on := 24, ground := Ground.data }, { on := 9, ground := Ground.guard }], guard := some (9, true) } : Oper)) (v := .agg (hbs q1)) rfl (by kernel_rfl) (by kernel_rfl) (by kernel_rfl) (fun _ _ _ h => h) (yields_loadV (by kernel_rfl) (.tmp 42) 24 32 rfl Tryd.isAgg24 Tryd.sizeOf24 gb (ob + j * 64) rfl (hbs q1) hq1s (fun w hw => HQL.out w hw)) hS0 ?_
          try simp only [Act.put, List.setIfInBounds_toArray, List.set_cons_zero, List.set_cons_succ]
          refine wpAnyH_take (i := 26) (oi := ({ dst := some 44, op := Op.move (Operand.tmp 1), type := 56, pos := "outright.go:134", after := #[{ on := 9, ground := Ground.guard }], guard := some (9, true) } : Oper)) (v := .slice (some ⟨gb, ob, none⟩) n bc) rfl (by kernel_rfl) (by kernel_rfl) (by kernel_rfl) (fun _ _ _ h => h) (Or.inl ⟨by kernel_rfl, by intro w hw; go_simp⟩) hS0 ?_
          try simp only [Act.put, List.setIfInBounds_toArray, List.set_cons_zero, List.set_cons_succ]
          refine wpAnyH_take (i := 27) (oi := ({ dst := some 45, op := Op.move (Operand.tmp 5), type := 3, pos := "outright.go:134", after := #[{ on := 9, ground := Ground.guard }], guard := some (9, true) } : Oper)) (v := .int .i64 (j : Int)) rfl (by kernel_rfl) (by kernel_rfl) (by kernel_rfl) (fun _ _ _ h => h) (Or.inl ⟨by kernel_rfl, by intro w hw; go_simp⟩) hS0 ?_
          try simp only [Act.put, List.setIfInBounds_toArray, List.set_cons_zero, List.set_cons_succ]
          refine wpAnyH_take (i := 28) (oi := ({ dst := some 46, op := Op.indexAddr 56 (Operand.tmp 44) (Operand.tmp 45), type := 0, pos := "outright.go:134", after := #[{ on := 26, ground := Ground.data }, { on := 27, ground := Ground.data }, { on := 9, ground := Ground.guard }], guard := some (9, true) } : Oper)) (v := .pointer (some ⟨gb, ob + j * 64, none⟩)) rfl (by kernel_rfl) (by kernel_rfl) (by kernel_rfl) (fun _ _ _ h => h) (Or.inl ⟨by kernel_rfl, by intro w hw; go_simp; try (intro hq; omega)⟩) hS0 ?_
          try simp only [Act.put, List.setIfInBounds_toArray, List.set_cons_zero, List.set_cons_succ]
          refine wpAnyH_take (i := 29) (oi := ({ dst := some 47, op := Op.fieldAddr 60 (Operand.tmp 46) 1, type := 0, pos := "outright.go:134", after := #[{ on := 28, ground := Ground.data }, { on := 9, ground := Ground.guard }], guard := some (9, true) } : Oper)) (v := .pointer (some ⟨gb, ob + j * 64 + 32, none⟩)) rfl (by kernel_rfl) (by kernel_rfl) (by kernel_rfl) (fun _ _ _ h => h) (Or.inl ⟨by kernel_rfl, by intro w hw; go_simp⟩) hS0 ?_
          try simp only [Act.put, List.setIfInBounds_toArray, List.set_cons_zero, List.set_cons_succ]
          refine wpAnyH_take (i := 30) (oi := ({ dst := some 48, op := Op.load 24 (Operand.tmp 47), type := 24, pos := "outright.go:134", after := #[{ on := 29, ground := Ground.data }, { on := 9, ground := Ground.guard }], guard := some (9, true) } : Oper)) (v := .agg (hbs q2)) rfl (by kernel_rfl) (by kernel_rfl) (by kernel_rfl) (fun _ _ _ h => h) (yields_loadV (by kernel_rfl) (.tmp 47) 24 32 rfl Tryd.isAgg24 Tryd.sizeOf24 gb (ob + j * 64 + 32) rfl (hbs q2) hq2s (fun w hw => HQR.out w hw)) hS0 ?_
          try simp only [Act.put, List.setIfInBounds_toArray, List.set_cons_zero, List.set_cons_succ]
          refine wpAnyH_ready (rs := [20]) (by kernel_rfl) (by simp) ?_
          refine (AllReadyH.cons (o := ({ dst := some 38, op := Op.call { callee := Callee.value (Operand.func 25), args := #[Operand.tmp 32, Operand.tmp 37], argTypes := #[24, 24] }, type := 24, pos := "outright.go:134", after := #[{ on := 14, ground := Ground.data }, { on := 19, ground := Ground.data }, { on := 9, ground := Ground.chain }, { on := 9, ground := Ground.guard }], guard := some (9, true) } : Oper)) rfl (fun K' hK => ?_) AllReadyH.nil)
          go_simp
          go_wp2_with (go_at_call 25; refine (QN1.out _ nb).mono ?_; rintro ex w101 ⟨rfl, nw101⟩)
          have nb := nb.tr nw101
          refine hK.out _ _ (nb) (fun hS0 => ?_)
          try simp only [Act.put, List.setIfInBounds_toArray, List.set_cons_zero, List.set_cons_succ]
          refine wpAnyH_ready (rs := [31]) (by kernel_rfl) (by simp) ?_
          refine (AllReadyH.cons (o := ({ dst := some 49, op := Op.call { callee := Callee.value (Operand.func 25), args := #[Operand.tmp 43, Operand.tmp 48], argTypes := #[24, 24] }, type := 24, pos := "outright.go:134", after := #[{ on := 25, ground := Ground.data }, { on := 30, ground := Ground.data }, { on := 20, ground := Ground.chain }, { on := 9, ground := Ground.guard }], guard := some (9, true) } : Oper)) rfl (fun K' hK => ?_) AllReadyH.nil)
          go_simp
          go_wp2_with (go_at_call 25; refine (QN2.out _ nb).mono ?_; rintro ex w102 ⟨rfl, nw102⟩)
          have nb := nb.tr nw102
          refine hK.out _ _ (nb) (fun hS0 => ?_)
          try simp only [Act.put, List.setIfInBounds_toArray, List.set_cons_zero, List.set_cons_succ]
          refine wpAnyH_take (i := 32) (oi := ({ dst := some 50, op := Op.binOp BinOp.eql 24 (Operand.tmp 38) (Operand.tmp 49) 24, type := 4, pos := "outright.go:134", after := #[{ on := 20, ground := Ground.data }, { on := 31, ground := Ground.data }, { on := 9, ground := Ground.guard }], guard := some (9, true) } : Oper)) (v := .bool true) rfl (by kernel_rfl) (by kernel_rfl) (by kernel_rfl) (fun _ _ _ h => h) (yields_eqB (by kernel_rfl) (.tmp 38) (.tmp 49) rfl z1 z2 Z1L.out Z2L.out rfl rfl true HE.out) hS0 ?_
          try simp only [Act.put, List.setIfInBounds_toArray, List.set_cons_zero, List.set_cons_succ]
          refine wpAnyH_take (i := 33) (oi := ({ dst := some 51, op := Op.pick (Operand.tmp 27) (Operand.tmp 50) (Operand.const (Value.bool false)), type := 4, pos := "outright.go:134", after := #[{ on := 9, ground := Ground.data }, { on := 32, ground := Ground.data }], guard := none } : Oper)) (v := .bool true) rfl (by kernel_rfl) (by kernel_rfl) (by kernel_rfl) (fun _ _ _ h => h) (Or.inl ⟨by kernel_rfl, by intro w hw; go_simp⟩) hS0 ?_
          try simp only [Act.put, List.setIfInBounds_toArray, List.set_cons_zero, List.set_cons_succ]
          refine wpAnyH_done (by kernel_rfl) ?_ _
          go_wp2_with fail
          go_ret
          exact ⟨by rw [HBK.out, HNX.out]; rfl, HNW.out.tr nb⟩
        · have HE : Hid (decide (z1 = z2) = false) := decide_eq_false he
          have HNX : Hid (brk (A.drop j) (B.drop j) = brk (A.drop (j + 1)) (B.drop (j + 1))) := by show _ = _; rw [HBA.out, HD.out, HE.out]; rfl
          clear he
          go_upto_region 4 with fail
          have nb : Nw wr wr.drew := (Fr.refl _ _).drew
          refine wp_region_held_drew (S := (fun V => Nw wr V)) (by kernel_rfl) (nb) ?_
          intro hS0
          refine wpAnyH_take (i := 0) (oi := ({ dst := some 18, op := Op.move (Operand.tmp 0), type := 56, pos := "outright.go:134", after := #[], guard := none } : Oper)) (v := .slice (some ⟨ga, oa, none⟩) n ac) rfl (by kernel_rfl) (by kernel_rfl) (by kernel_rfl) (fun _ _ _ h => h) (Or.inl ⟨by rfl, by intro w hw; go_simp⟩) hS0 ?_
          try simp only [Act.put, List.setIfInBounds_toArray, List.set_cons_zero, List.set_cons_succ]
          refine wpAnyH_take (i := 1) (oi := ({ dst := some 19, op := Op.move (Operand.tmp 5), type := 3, pos := "outright.go:134", after := #[], guard := none } : Oper)) (v := .int .i64 (j : Int)) rfl (by kernel_rfl) (by kernel_rfl) (by kernel_rfl) (fun _ _ _ h => h) (Or.inl ⟨by rfl, by intro w hw; go_simp⟩) hS0 ?_
          try simp only [Act.put, List.setIfInBounds_toArray, List.set_cons_zero, List.set_cons_succ]
          refine wpAnyH_take (i := 2) (oi := ({ dst := some 20, op := Op.indexAddr 56 (Operand.tmp 18) (Operand.tmp 19), type := 0, pos := "outright.go:134", after := #[{ on := 0, ground := Ground.data }, { on := 1, ground := Ground.data }], guard := none } : Oper)) (v := .pointer (some ⟨ga, oa + j * 64, none⟩)) rfl (by kernel_rfl) (by kernel_rfl) (by kernel_rfl) (fun _ _ _ h => h) (Or.inl ⟨by kernel_rfl, by intro w hw; go_simp; try (intro hq; omega)⟩) hS0 ?_
          try simp only [Act.put, List.setIfInBounds_toArray, List.set_cons_zero, List.set_cons_succ]
          refine wpAnyH_take (i := 3) (oi := ({ dst := some 21, op := Op.load 60 (Operand.tmp 20), type := 60, pos := "outright.go:134", after := #[{ on := 2, ground := Ground.data }], guard := none } : Oper)) (v := .agg (h2c p1 p2)) rfl (by kernel_rfl) (by kernel_rfl) (by kernel_rfl) (fun _ _ _ h => h) (yields_loadV (by kernel_rfl) (.tmp 20) 60 64 rfl Tryd.isAgg60 Tryd.sizeOf60 ga (oa + j * 64) rfl (h2c p1 p2) hps (fun w hw => HPA.out w hw)) hS0 ?_
          try simp only [Act.put, List.setIfInBounds_toArray, List.set_cons_zero, List.set_cons_succ]
          refine wpAnyH_take (i := 4) (oi := ({ dst := some 22, op := Op.move (Operand.tmp 1), type := 56, pos := "outright.go:134", after := #[], guard := none } : Oper)) (v := .slice (some ⟨gb, ob, none⟩) n bc) rfl (by kernel_rfl) (by kernel_rfl) (by kernel_rfl) (fun _ _ _ h => h) (Or.inl ⟨by rfl, by intro w hw; go_simp⟩) hS0 ?_
          try simp only [Act.put, List.setIfInBounds_toArray, List.set_cons_zero, List.set_cons_succ]
          refine wpAnyH_take (i := 5) (oi := ({ dst := some 23, op := Op.move (Operand.tmp 5), type := 3, pos := "outright.go:134", after := #[], guard := none } : Oper)) (v := .int .i64 (j : Int)) rfl (by kernel_rfl) (by kernel_rfl) (by kernel_rfl) (fun _ _ _ h => h) (Or.inl ⟨by rfl, by intro w hw; go_simp⟩) hS0 ?_
          try simp only [Act.put, List.setIfInBounds_toArray, List.set_cons_zero, List.set_cons_succ]
          refine wpAnyH_take (i := 6) (oi := ({ dst := some 24, op := Op.indexAddr 56 (Operand.tmp 22) (Operand.tmp 23), type := 0, pos := "outright.go:134", after := #[{ on := 4, ground := Ground.data }, { on := 5, ground := Ground.data }], guard := none } : Oper)) (v := .pointer (some ⟨gb, ob + j * 64, none⟩)) rfl (by kernel_rfl) (by kernel_rfl) (by kernel_rfl) (fun _ _ _ h => h) (Or.inl ⟨by kernel_rfl, by intro w hw; go_simp; try (intro hq; omega)⟩) hS0 ?_
          try simp only [Act.put, List.setIfInBounds_toArray, List.set_cons_zero, List.set_cons_succ]
          refine wpAnyH_take (i := 7) (oi := ({ dst := some 25, op := Op.load 60 (Operand.tmp 24), type := 60, pos := "outright.go:134", after := #[{ on := 6, ground := Ground.data }], guard := none } : Oper)) (v := .agg (h2c q1 q2)) rfl (by kernel_rfl) (by kernel_rfl) (by kernel_rfl) (fun _ _ _ h => h) (yields_loadV (by kernel_rfl) (.tmp 24) 60 64 rfl Tryd.isAgg60 Tryd.sizeOf60 gb (ob + j * 64) rfl (h2c q1 q2) hqs (fun w hw => HQA.out w hw)) hS0 ?_
          try simp only [Act.put, List.setIfInBounds_toArray, List.set_cons_zero, List.set_cons_succ]
          refine wpAnyH_take (i := 8) (oi := ({ dst := some 26, op := Op.binOp BinOp.neq 60 (Operand.tmp 21) (Operand.tmp 25) 60, type := 4, pos := "outright.go:134", after := #[{ on := 3, ground := Ground.data }, { on := 7, ground := Ground.data }], guard := none } : Oper)) (v := .bool true) rfl (by kernel_rfl) (by kernel_rfl) (by kernel_rfl) (fun _ _ _ h => h) (yields_prneq (by kernel_rfl) (.tmp 21) (.tmp 25) rfl p1 p2 q1 q2 P1L.out P2L.out Q1L.out Q2L.out rfl rfl true HD.out) hS0 ?_
          try simp only [Act.put, List.setIfInBounds_toArray, List.set_cons_zero, List.set_cons_succ]
          refine wpAnyH_take (i := 9) (oi := ({ dst := some 27, op := Op.move (Operand.tmp 26), type := 4, pos := "outright.go:134", after := #[{ on := 8, ground := Ground.data }], guard := none } : Oper)) (v := .bool true) rfl (by kernel_rfl) (by kernel_rfl) (by kernel_rfl) (fun _ _ _ h => h) (Or.inl ⟨by kernel_rfl, by intro w hw; go_simp⟩) hS0 ?_
          try simp only [Act.put, List.setIfInBounds_toArray, List.set_cons_zero, List.set_cons_succ]
          refine wpAnyH_take (i := 10) (oi := ({ dst := some 28, op := Op.move (Operand.tmp 0), type := 56, pos := "outright.go:134", after := #[{ on := 9, ground := Ground.guard }], guard := some (9, true) } : Oper)) (v := .slice (some ⟨ga, oa, none⟩) n ac) rfl (by kernel_rfl) (by kernel_rfl) (by kernel_rfl) (fun _ _ _ h => h) (Or.inl ⟨by kernel_rfl, by intro w hw; go_simp⟩) hS0 ?_
          try simp only [Act.put, List.setIfInBounds_toArray, List.set_cons_zero, List.set_cons_succ]
          refine wpAnyH_take (i := 11) (oi := ({ dst := some 29, op := Op.move (Operand.tmp 5), type := 3, pos := "outright.go:134", after := #[{ on := 9, ground := Ground.guard }], guard := some (9, true) } : Oper)) (v := .int .i64 (j : Int)) rfl (by kernel_rfl) (by kernel_rfl) (by kernel_rfl) (fun _ _ _ h => h) (Or.inl ⟨by kernel_rfl, by intro w hw; go_simp⟩) hS0 ?_
          try simp only [Act.put, List.setIfInBounds_toArray, List.set_cons_zero, List.set_cons_succ]
          refine wpAnyH_take (i := 12) (oi := ({ dst := some 30, op := Op.indexAddr 56 (Operand.tmp 28) (Operand.tmp 29), type := 0, pos := "outright.go:134", after := #[{ on := 10, ground := Ground.data }, { on := 11, ground := Ground.data }, { on := 9, ground := Ground.guard }], guard := some (9, true) } : Oper)) (v := .pointer (some ⟨ga, oa + j * 64, none⟩)) rfl (by kernel_rfl) (by kernel_rfl) (by kernel_rfl) (fun _ _ _ h => h) (Or.inl ⟨by kernel_rfl, by intro w hw; go_simp; try (intro hq; omega)⟩) hS0 ?_
          try simp only [Act.put, List.setIfInBounds_toArray, List.set_cons_zero, List.set_cons_succ]
          refine wpAnyH_take (i := 13) (oi := ({ dst := some 31, op := Op.fieldAddr 60 (Operand.tmp 30) 0, type := 0, pos := "outright.go:134", after := #[{ on := 12, ground := Ground.data }, { on := 9, ground := Ground.guard }], guard := some (9, true) } : Oper)) (v := .pointer (some ⟨ga, oa + j * 64, none⟩)) rfl (by kernel_rfl) (by kernel_rfl) (by kernel_rfl) (fun _ _ _ h => h) (Or.inl ⟨by kernel_rfl, by intro w hw; go_simp⟩) hS0 ?_
          try simp only [Act.put, List.setIfInBounds_toArray, List.set_cons_zero, List.set_cons_succ]
          refine wpAnyH_take (i := 14) (oi := ({ dst := some 32, op := Op.load 24 (Operand.tmp 31), type := 24, pos := "outright.go:134", after := #[{ on := 13, ground := Ground.data }, { on := 9, ground := Ground.guard }], guard := some (9, true) } : Oper)) (v := .agg (hbs p1)) rfl (by kernel_rfl) (by kernel_rfl) (by kernel_rfl) (fun _ _ _ h => h) (yields_loadV (by kernel_rfl) (.tmp 31) 24 32 rfl Tryd.isAgg24 Tryd.sizeOf24 ga (oa + j * 64) rfl (hbs p1) hp1s (fun w hw => HPL.out w hw)) hS0 ?_
          try simp only [Act.put, List.setIfInBounds_toArray, List.set_cons_zero, List.set_cons_succ]
          refine wpAnyH_take (i := 15) (oi := ({ dst := some 33, op := Op.move (Operand.tmp 0), type := 56, pos := "outright.go:134", after := #[{ on := 9, ground := Ground.guard }], guard := some (9, true) } : Oper)) (v := .slice (some ⟨ga, oa, none⟩) n ac) rfl (by kernel_rfl) (by kernel_rfl) (by kernel_rfl) (fun _ _ _ h => h) (Or.inl ⟨by kernel_rfl, by intro w hw; go_simp⟩) hS0 ?_
          try simp only [Act.put, List.setIfInBounds_toArray, List.set_cons_zero, List.set_cons_succ]
          refine wpAnyH_take (i := 16) (oi := ({ dst := some 34, op := Op.move (Operand.tmp 5), type := 3, pos := "outright.go:134", after := #[{ on := 9, ground := Ground.guard }], guard := some (9, true) } : Oper)) (v := .int .i64 (j : Int)) rfl (by kernel_rfl) (by kernel_rfl) (by kernel_rfl) (fun _ _ _ h => h) (Or.inl ⟨by kernel_rfl, by intro w hw; go_simp⟩) hS0 ?_
          try simp only [Act.put, List.setIfInBounds_toArray, List.set_cons_zero, List.set_cons_succ]
          refine wpAnyH_take (i := 17) (oi := ({ dst := some 35, op := Op.indexAddr 56 (Operand.tmp 33) (Operand.tmp 34), type := 0, pos := "outright.go:134", after := #[{ on := 15, ground := Ground.data }, { on := 16, ground := Ground.data }, { on := 9, ground := Ground.guard }], guard := some (9, true) } : Oper)) (v := .pointer (some ⟨ga, oa + j * 64, none⟩)) rfl (by kernel_rfl) (by kernel_rfl) (by kernel_rfl) (fun _ _ _ h => h) (Or.inl ⟨by kernel_rfl, by intro w hw; go_simp; try (intro hq; omega)⟩) hS0 ?_
          try simp only [Act.put, List.setIfInBounds_toArray, List.set_cons_zero, List.set_cons_succ]
          refine wpAnyH_take (i := 18) (oi := ({ dst := some 36, op := Op.fieldAddr 60 (Operand.tmp 35) 1, type := 0, pos := "outright.go:134", after := #[{ on := 17, ground := Ground.data }, { on := 9, ground := Ground.guard }], guard := some (9, true) } : Oper)) (v := .pointer (some ⟨ga, oa + j * 64 + 32, none⟩)) rfl (by kernel_rfl) (by kernel_rfl) (by kernel_rfl) (fun _ _ _ h => h) (Or.inl ⟨by kernel_rfl, by intro w hw; go_simp⟩) hS0 ?_
          try simp only [Act.put, List.setIfInBounds_toArray, List.set_cons_zero, List.set_cons_succ]
          refine wpAnyH_take (i := 19) (oi := ({ dst := some 37, op := Op.load 24 (Operand.tmp 36), type := 24, pos := "outright.go:134", after := #[{ on := 18, ground := Ground.data }, { on := 9, ground := Ground.guard }], guard := some (9, true) } : Oper)) (v := .agg (hbs p2)) rfl (by kernel_rfl) (by kernel_rfl) (by kernel_rfl) (fun _ _ _ h => h) (yields_loadV (by kernel_rfl) (.tmp 36) 24 32 rfl Tryd.isAgg24 Tryd.sizeOf24 ga (oa + j * 64 + 32) rfl (hbs p2) hp2s (fun w hw => HPR.out w hw)) hS0 ?_
          try simp only [Act.put, List.setIfInBounds_toArray, List.set_cons_zero, List.set_cons_succ]
          refine wpAnyH_take (i := 21) (oi := ({ dst := some 39, op := Op.move (Operand.tmp 1), type := 56, pos := "outright.go:134", after := #[{ on := 9, ground := Ground.guard }], guard := some (9, true) } : Oper)) (v := .slice (some ⟨gb, ob, none⟩) n bc) rfl (by kernel_rfl) (by kernel_rfl) (by kernel_rfl) (fun _ _ _ h => h) (Or.inl ⟨by kernel_rfl, by intro w hw; go_simp⟩) hS0 ?_
          try simp only [Act.put, List.setIfInBounds_toArray, List.set_cons_zero, List.set_cons_succ]
          refine wpAnyH_take (i := 22) (oi := ({ dst := some 40, op := Op.move (Operand.tmp 5), type := 3, pos := "outright.go:134", after := #[{ on := 9, ground := Ground.guard }], guard := some (9, true) } : Oper)) (v := .int .i64 (j : Int)) rfl (by kernel_rfl) (by kernel_rfl) (by kernel_rfl) (fun _ _ _ h => h) (Or.inl ⟨by kernel_rfl, by intro w hw; go_simp⟩) hS0 ?_
          try simp only [Act.put, List.setIfInBounds_toArray, List.set_cons_zero, List.set_cons_succ]
          refine wpAnyH_take (i := 23) (oi := ({ dst := some 41, op := Op.indexAddr 56 (Operand.tmp 39) (Operand.tmp 40), type := 0, pos := "outright.go:134", after := #[{ on := 21, ground := Ground.data }, { on := 22, ground := Ground.data }, { on := 9, ground := Ground.guard }], guard := some (9, true) } : Oper)) (v := .pointer (some ⟨gb, ob + j * 64, none⟩)) rfl (by kernel_rfl) (by kernel_rfl) (by kernel_rfl) (fun _ _ _ h => h) (Or.inl ⟨by kernel_rfl, by intro w hw; go_simp; try (intro hq; omega)⟩) hS0 ?_
          try simp only [Act.put, List.setIfInBounds_toArray, List.set_cons_zero, List.set_cons_succ]
          refine wpAnyH_take (i := 24) (oi := ({ dst := some 42, op := Op.fieldAddr 60 (Operand.tmp 41) 0, type := 0, pos := "outright.go:134", after := #[{ on := 23, ground := Ground.data }, { on := 9, ground := Ground.guard }], guard := some (9, true) } : Oper)) (v := .pointer (some ⟨gb, ob + j * 64, none⟩)) rfl (by kernel_rfl) (by kernel_rfl) (by kernel_rfl) (fun _ _ _ h => h) (Or.inl ⟨by kernel_rfl, by intro w hw; go_simp⟩) hS0 ?_
          try simp only [Act.put, List.setIfInBounds_toArray, List.set_cons_zero, List.set_cons_succ]
          refine wpAnyH_take (i := 25) (oi := ({ dst := some 43, op := Op.load 24 (Operand.tmp 42), type := 24, pos := "outright.go:134", after := #[{ on := 24, ground := Ground.data }, { on := 9, ground := Ground.guard }], guard := some (9, true) } : Oper)) (v := .agg (hbs q1)) rfl (by kernel_rfl) (by kernel_rfl) (by kernel_rfl) (fun _ _ _ h => h) (yields_loadV (by kernel_rfl) (.tmp 42) 24 32 rfl Tryd.isAgg24 Tryd.sizeOf24 gb (ob + j * 64) rfl (hbs q1) hq1s (fun w hw => HQL.out w hw)) hS0 ?_
          try simp only [Act.put, List.setIfInBounds_toArray, List.set_cons_zero, List.set_cons_succ]
          refine wpAnyH_take (i := 26) (oi := ({ dst := some 44, op := Op.move (Operand.tmp 1), type := 56, pos := "outright.go:134", after := #[{ on := 9, ground := Ground.guard }], guard := some (9, true) } : Oper)) (v := .slice (some ⟨gb, ob, none⟩) n bc) rfl (by kernel_rfl) (by kernel_rfl) (by kernel_rfl) (fun _ _ _ h => h) (Or.inl ⟨by kernel_rfl, by intro w hw; go_simp⟩) hS0 ?_
          try simp only [Act.put, List.setIfInBounds_toArray, List.set_cons_zero, List.set_cons_succ]
          refine wpAnyH_take (i := 27) (oi := ({ dst := some 45, op := Op.move (Operand.tmp 5), type := 3, pos := "outright.go:134", after := #[{ on := 9, ground := Ground.guard }], guard := some (9, true) } : Oper)) (v := .int .i64 (j : Int)) rfl (by kernel_rfl) (by kernel_rfl) (by kernel_rfl) (fun _ _ _ h => h) (Or.inl ⟨by kernel_rfl, by intro w hw; go_simp⟩) hS0 ?_
          try simp only [Act.put, List.setIfInBounds_toArray, List.set_cons_zero, List.set_cons_succ]
          refine wpAnyH_take (i := 28) (oi := ({ dst := some 46, op := Op.indexAddr 56 (Operand.tmp 44) (Operand.tmp 45), type := 0, pos := "outright.go:134", after := #[{ on := 26, ground := Ground.data }, { on := 27, ground := Ground.data }, { on := 9, ground := Ground.guard }], guard := some (9, true) } : Oper)) (v := .pointer (some ⟨gb, ob + j * 64, none⟩)) rfl (by kernel_rfl) (by kernel_rfl) (by kernel_rfl) (fun _ _ _ h => h) (Or.inl ⟨by kernel_rfl, by intro w hw; go_simp; try (intro hq; omega)⟩) hS0 ?_
          try simp only [Act.put, List.setIfInBounds_toArray, List.set_cons_zero, List.set_cons_succ]
          refine wpAnyH_take (i := 29) (oi := ({ dst := some 47, op := Op.fieldAddr 60 (Operand.tmp 46) 1, type := 0, pos := "outright.go:134", after := #[{ on := 28, ground := Ground.data }, { on := 9, ground := Ground.guard }], guard := some (9, true) } : Oper)) (v := .pointer (some ⟨gb, ob + j * 64 + 32, none⟩)) rfl (by kernel_rfl) (by kernel_rfl) (by kernel_rfl) (fun _ _ _ h => h) (Or.inl ⟨by kernel_rfl, by intro w hw; go_simp⟩) hS0 ?_
          try simp only [Act.put, List.setIfInBounds_toArray, List.set_cons_zero, List.set_cons_succ]
          refine wpAnyH_take (i := 30) (oi := ({ dst := some 48, op := Op.load 24 (Operand.tmp 47), type := 24, pos := "outright.go:134", after := #[{ on := 29, ground := Ground.data }, { on := 9, ground := Ground.guard }], guard := some (9, true) } : Oper)) (v := .agg (hbs q2)) rfl (by kernel_rfl) (by kernel_rfl) (by kernel_rfl) (fun _ _ _ h => h) (yields_loadV (by kernel_rfl) (.tmp 47) 24 32 rfl Tryd.isAgg24 Tryd.sizeOf24 gb (ob + j * 64 + 32) rfl (hbs q2) hq2s (fun w hw => HQR.out w hw)) hS0 ?_
          try simp only [Act.put, List.setIfInBounds_toArray, List.set_cons_zero, List.set_cons_succ]
          refine wpAnyH_ready (rs := [20]) (by kernel_rfl) (by simp) ?_
          refine (AllReadyH.cons (o := ({ dst := some 38, op := Op.call { callee := Callee.value (Operand.func 25), args := #[Operand.tmp 32, Operand.tmp 37], argTypes := #[24, 24] }, type := 24, pos := "outright.go:134", after := #[{ on := 14, ground := Ground.data }, { on := 19, ground := Ground.data }, { on := 9, ground := Ground.chain }, { on := 9, ground := Ground.guard }], guard := some (9, true) } : Oper)) rfl (fun K' hK => ?_) AllReadyH.nil)
          go_simp
          go_wp2_with (go_at_call 25; refine (QN1.out _ nb).mono ?_; rintro ex w101 ⟨rfl, nw101⟩)
          have nb := nb.tr nw101
          refine hK.out _ _ (nb) (fun hS0 => ?_)
          try simp only [Act.put, List.setIfInBounds_toArray, List.set_cons_zero, List.set_cons_succ]
          refine wpAnyH_ready (rs := [31]) (by kernel_rfl) (by simp) ?_
          refine (AllReadyH.cons (o := ({ dst := some 49, op := Op.call { callee := Callee.value (Operand.func 25), args := #[Operand.tmp 43, Operand.tmp 48], argTypes := #[24, 24] }, type := 24, pos := "outright.go:134", after := #[{ on := 25, ground := Ground.data }, { on := 30, ground := Ground.data }, { on := 20, ground := Ground.chain }, { on := 9, ground := Ground.guard }], guard := some (9, true) } : Oper)) rfl (fun K' hK => ?_) AllReadyH.nil)
          go_simp
          go_wp2_with (go_at_call 25; refine (QN2.out _ nb).mono ?_; rintro ex w102 ⟨rfl, nw102⟩)
          have nb := nb.tr nw102
          refine hK.out _ _ (nb) (fun hS0 => ?_)
          try simp only [Act.put, List.setIfInBounds_toArray, List.set_cons_zero, List.set_cons_succ]
          refine wpAnyH_take (i := 32) (oi := ({ dst := some 50, op := Op.binOp BinOp.eql 24 (Operand.tmp 38) (Operand.tmp 49) 24, type := 4, pos := "outright.go:134", after := #[{ on := 20, ground := Ground.data }, { on := 31, ground := Ground.data }, { on := 9, ground := Ground.guard }], guard := some (9, true) } : Oper)) (v := .bool false) rfl (by kernel_rfl) (by kernel_rfl) (by kernel_rfl) (fun _ _ _ h => h) (yields_eqB (by kernel_rfl) (.tmp 38) (.tmp 49) rfl z1 z2 Z1L.out Z2L.out rfl rfl false HE.out) hS0 ?_
          try simp only [Act.put, List.setIfInBounds_toArray, List.set_cons_zero, List.set_cons_succ]
          refine wpAnyH_take (i := 33) (oi := ({ dst := some 51, op := Op.pick (Operand.tmp 27) (Operand.tmp 50) (Operand.const (Value.bool false)), type := 4, pos := "outright.go:134", after := #[{ on := 9, ground := Ground.data }, { on := 32, ground := Ground.data }], guard := none } : Oper)) (v := .bool false) rfl (by kernel_rfl) (by kernel_rfl) (by kernel_rfl) (fun _ _ _ h => h) (Or.inl ⟨by kernel_rfl, by intro w hw; go_simp⟩) hS0 ?_
          try simp only [Act.put, List.setIfInBounds_toArray, List.set_cons_zero, List.set_cons_succ]
          refine wpAnyH_done (by kernel_rfl) ?_ _
          go_wp2_with fail
          exact ⟨⟨j + 1, by omega, by go_num, HBK.out.trans HNX.out, HNW.out.tr nb⟩, by simp [intOf]; omega⟩
    · obtain rfl : j = n := by omega
      have hki : ¬ (j : Int) < (j : Int) := by omega
      have HFL : Hid (brk (A.drop j) (B.drop j) = false) := by show _ = _; rw [List.drop_of_length_le (by rw [← HNA.out]; exact Nat.le_refl _)]; cases B.drop j <;> rfl
      go_wp2
      go_ret
      exact ⟨by rw [HBK.out, HFL.out]; rfl, HNW.out⟩
end Go.Proofs.YtaeocbdphfkflaaDoor
