/- CompactRefuses: the walk. -/
import Derived.Test.YthbimomhbeoieaaDoorX19
namespace Go.Proofs.YthbimomhbeoieaaDoor
open Go.RowKit Go.Shelf
set_option linter.unusedVariables false
set_option linter.unusedSimpArgs false
theorem hsc_cell (l : List (List UInt8)) : ∀ u ∈ hsc l, u.oneCell' = true := by
  intro u hu
  simp only [hsc, List.mem_flatMap] at hu
  obtain ⟨x, _, hu⟩ := hu
  exact hbs_one x u hu
theorem yields_build1 {P : Program} {ops : Array Oper} {S : World → Prop} {o : Oper} {a : Act} (hgd : o.guard = none) (tt : TypeId) (x : Operand) (ho : o.op = .build tt #[(0, x)]) (v : Value) (hv : a.eval x = v) (V : Array Value) (hb : ∀ W : World, (Instr.build tt #[(0, v)]).run P W = .ok (.agg V) W) : YieldsIf P ops S o (.agg V) a := by
  refine .inl ⟨by simp [Region.wanted, hgd], fun w hw => ?_⟩
  unfold execOp
  simp only [ho, List.map_toArray, List.map_cons, List.map_nil, hv, hb, Sem.run_bind, Sem.run_pure, Result.andThen_ok]
theorem build0h (W : World) : (Instr.buildSlice 41 0 #[]).run Tryd.prog W = .ok (.slice (some ⟨W.heap.size, 0, none⟩) 0 0) (W.alloc (.cells #[] 24)) := by
  simp only [Instr.buildSlice, Sem.run_bind, run_underlying Tryd.underlying41, Tryd.sizeOf24 W, Result.andThen_ok, Sem.run_pure]
  simp [Instr.fill, newRow, Array.range]
theorem step_build0 {P : Program} {ops : Array Oper} {o : Oper} {a : Act} {w : World} {K : Act → World → Prop} {Q : Exit → Act → World → Prop} {E : Prop} (hgd : o.guard = none) (ts te : TypeId) (ho : o.op = .buildSlice ts 0 #[])
    (hb : ∀ W : World, (Instr.buildSlice ts 0 #[]).run P W = .ok (.slice (some ⟨W.heap.size, 0, none⟩) 0 0) (W.alloc (.cells #[] te)))
    (h : K (a.put o.dst (.slice (some ⟨w.heap.size, 0, none⟩) 0 0)) (w.alloc (.cells #[] te))) : if Region.wanted o (yielded ops a.tmps) = true then Oper.wp P o a w K Q else E := by
  have hw : Region.wanted o (yielded ops a.tmps) = true := by simp [Region.wanted, hgd]
  rw [if_pos hw]
  unfold Oper.wp execOp
  simp only [ho, Sem.run_bind, Sem.run_pure, Result.andThen_ok, List.map_toArray, List.map_nil, hb]
  exact h
theorem hss1 (W : World) (X : List UInt8) (hX : X.length = 32) : Hss (W.alloc (.cells (hbs X) 24)) (.slice (some ⟨W.heap.size, 0, none⟩) 1 1) [X] := by
  refine ⟨_, _, rfl, fun k h hk => ⟨W.heap.size, 0, rfl, fun j hj => ?_⟩⟩
  rw [cell_of (heap_new _ _)]
  match k, hk with
  | 0, hk =>
    simp at hk; subst hk
    rw [show 0 + 0 * 32 + j = j by omega]
section
variable {w : World} {ops : Array Oper} {rest : List Oper} {o : Oper} {a : Act} {Q : Exit → Act → World → Prop}
theorem wpl_buildg (hwant : Region.wanted o (yielded ops a.tmps) = true) (tt : TypeId) (x : Operand) (ho : o.op = .build tt #[(0, x)]) (v : Value) (hv : a.eval x = v) (V : Array Value) (hb : ∀ W : World, (Instr.build tt #[(0, v)]).run Tryd.prog W = .ok (.agg V) W)
    (h : wpList Tryd.prog ops Q rest (a.put o.dst (.agg V)) w) : wpList Tryd.prog ops Q (o :: rest) a w := by
  refine wpList_step fun K hK => ?_
  rw [if_pos hwant]
  unfold Oper.wp execOp
  simp only [ho, List.map_toArray, List.map_cons, List.map_nil, hv, hb, Sem.run_bind, Sem.run_pure, Result.andThen_ok]
  exact hK _ _ h
theorem wp_build1g (hwant : Region.wanted o (yielded ops a.tmps) = true) (x : Operand) (ho : o.op = .buildSlice 41 1 #[(0, x)]) (V : Array Value) (hx : a.eval x = .agg V) (hV : V.size = 32)
    (h : wpList Tryd.prog ops Q rest (a.put o.dst (.slice (some ⟨w.heap.size, 0, none⟩) 1 1)) (w.alloc (.cells V 24))) : wpList Tryd.prog ops Q (o :: rest) a w := by
  refine wpList_step fun K hK => ?_
  rw [if_pos hwant]
  unfold Oper.wp execOp
  simp only [ho, Sem.run_bind, Sem.run_pure, Result.andThen_ok, List.map_toArray, List.map_cons, List.map_nil, hx, build1 V hV]
  exact hK _ _ h
end
theorem sta_le (b r : Nat) (hr : r ≤ 1000000) : sta b r + r ≤ 9223372036854775808 := by
  unfold sta
  split <;> omega
set_option maxRecDepth 100000 in
set_option maxHeartbeats 20000000 in
theorem refuses9_any (b0 : Nat) (hb0 : b0 < 18446744073709551616) (L : List (List UInt8)) (h32 : ∀ x ∈ L, x.length = 32) (hv : Value) (off : Nat) (hoff : off < 18446744073709551616) (hll : L.length < 4611686018427387904) (w : World) (hH : Hss w hv L) (hL : Laid w) (hT : TabAt w) {B : Nat} {a : Nat → Addr} (hS : Sent B w a) :
    Calls Tryd.prog 6 #[.int .u64 (b0 : Int), hv, .int .u64 (off : Int)] w fun e w' => e = .returned (.bool true) ∧ Nw w w' := by
  obtain ⟨ad, hcap, rfl⟩ := hH.form
  have HH : Hid (Hss w (.slice ad L.length hcap) L) := hH
  have H32 : Hid (∀ x ∈ L, x.length = 32) := h32
  have HL : Hid (Laid w) := hL
  have HT : Hid (TabAt w) := hT
  have HS : Hid (Sent B w a) := hS
  have SS : Hid (∀ V, Nw w V → Sent B V a) := fun V nV => HS.out.fr nV (fun _ _ f => f)
  have QA : Hid (∀ V, Nw w V → Calls Tryd.prog 15 #[] V fun e w' => e = .returned (.bool true) ∧ Nw V w') := fun V nV => alive9_any V (HL.out.nw nV)
  have QI2 : Hid (∀ V, Nw w V → Calls Tryd.prog 8 #[sen (a 1), .int .i64 2] V fun e w' => e = .returned (.bool true) ∧ Nw V w') := fun V nV => isj HS.out 1 (by decide) V nV
  have QI4 : Hid (∀ V, Nw w V → Calls Tryd.prog 8 #[sen (a 3), .int .i64 4] V fun e w' => e = .returned (.bool true) ∧ Nw V w') := fun V nV => isj HS.out 3 (by decide) V nV
  obtain ⟨m, hm⟩ : ∃ m, m = L.length := ⟨_, rfl⟩
  rw [← hm] at hll HH ⊢
  have HM : Hid (L.length = m) := hm.symm
  clear hH h32 hL hT hS hm
  by_cases h300 : 300 < m
  · have hi : (300 : Int) < (m : Int) := by omega
    go_enter Tryd.func6, Tryd.ntmps6
    go_wp2_with fail
    refine (QA.out _ (nwr w)).mono ?_
    rintro e w1 ⟨rfl, n1⟩
    go_wp2
    go_ret
    exact ⟨rfl, n1⟩
  · have hi : ¬ (300 : Int) < (m : Int) := by omega
    have hm300 : m ≤ 300 := by omega
    have hst := sta_le b0 (m + 1) (by omega)
    have q0 := start_any b0 (m + 1) hb0 (by omega) w
    obtain ⟨n, hn⟩ : ∃ n, n = sta b0 (m + 1) := ⟨_, rfl⟩
    rw [← hn] at hst q0
    have HST : Hid (n + (m + 1) ≤ 9223372036854775808) := hst
    obtain ⟨E, hE⟩ : ∃ E, E = n + m := ⟨_, rfl⟩
    obtain ⟨ob, hob⟩ : ∃ ob, ob = (E + off) % 18446744073709551616 := ⟨_, rfl⟩
    have HE : Hid (E = n + m) := hE
    have HOB : Hid (ob = (E + off) % 18446744073709551616) := hob
    have e0 : IntKind.u64.wrap (m : Int) = (m : Int) := by rw [w64]; omega
    have e1 : IntKind.u64.wrap ((n : Int) + (m : Int)) = (E : Int) := by rw [w64]; omega
    have e2 : IntKind.u64.wrap ((E : Int) + (off : Int)) = (ob : Int) := by rw [w64]; omega
    have e3 : ((m + 1 : Nat) : Int) = (m : Int) + 1 := by omega
    rw [e3] at q0
    have hee : ∀ W : World, (binOp .neq 34 .nilIface .nilIface).run Tryd.prog W = .ok (.bool false) W := fun W => by kernel_rfl
    clear hn hE hob e3 h300
    go_enter Tryd.func6, Tryd.ntmps6
    go_wp2_with fail
    refine q0.mono ?_
    rintro e w0 ⟨rfl, rfl⟩
    clear q0
    have q1 := appended_any n L H32.out _ HH.out (by rw [HM.out]; omega) (by rw [HM.out]; exact hll) HL.out
    rw [HM.out, ← HE.out] at q1
    clear hst
    go_wp2_with fail
    refine q1.mono ?_
    rintro e w1 ⟨rb, base, v, rfl, R1, l1, l2, n1⟩
    clear q1
    obtain ⟨T, hTT⟩ : ∃ T, T = apt n L := ⟨_, rfl⟩
    have hTl : T.length ≤ 128 := by rw [hTT]; exact apt_len n L H32.out (by rw [HM.out]; have := HST.out; omega)
    have hT32 : ∀ x ∈ hss T, x.length = 32 := fun x hx => by
      simp only [hss, List.mem_map] at hx
      obtain ⟨t, ht, rfl⟩ := hx
      rw [hTT] at ht
      exact (R1.ok t ht).h32
    have hTc : T.length = (cov n E).length := by
      have := ((apt_ok n _ L rfl H32.out (by rw [HM.out]; have := HST.out; omega)).2).cov
      rw [HM.out, ← HE.out, ← hTT] at this
      rw [← this]; simp [ats]
    rw [← hTT] at R1
    have HTC : Hid (T.length = (cov n E).length) := hTc
    have HT32 : Hid (∀ x ∈ hss T, x.length = 32) := hT32
    have HR1 : Hid (Rg w1 rb base v n E T) := R1
    have HL1 : Hid (w0.heap.size ≤ rb ∧ rb < base) := ⟨l1, l2⟩
    have N1 : Hid (Nw w0 w1) := n1
    have q2 := rnew_any ob (by have := HOB.out; omega) w1 (HL.out.nw n1)
    clear hTT hT32 hTc R1 l1 l2 n1
    go_wp2_with fail
    refine q2.mono ?_
    rintro e w2 ⟨rfl, g2, s2, n2⟩
    obtain ⟨qb, hqb⟩ : ∃ q, q = w1.heap.size := ⟨_, rfl⟩
    rw [← hqb] at g2 ⊢
    have HQB : Hid (qb = w1.heap.size) := hqb
    have G2 : Hid (Rg w2 qb (qb + 1) (.slice none 0 0) ob ob []) := g2
    have R2 : Hid (Rg w2 rb base v n E T) := HR1.out.nw n2
    have N2 : Hid (Nw w0 w2) := N1.out.tr n2
    have N12 : Hid (Nw w1 w2) := n2
    clear q2 hqb g2 s2 n2
    have q3 := rhashes_full R2.out (by omega)
    go_wp2_with fail
    refine q3.mono ?_
    rintro e w3 ⟨hg, hc, rfl, o3, n3⟩
    clear q3
    obtain ⟨tl, htl⟩ : ∃ tl, tl = T.length := ⟨_, rfl⟩
    have HTL : Hid (T.length = tl) := htl.symm
    rw [← htl] at o3 hTl ⊢
    have H3 : Hid (w3.ownsRow w2.heap.size 24 32 (.slice (some ⟨hg, 0, none⟩) tl hc) tl (hsc (hss T))) := o3
    have R3 : Hid (Rg w3 rb base v n E T) := R2.out.nw n3
    have N3 : Hid (Nw w2 w3) := n3
    have q4 := rspan_any R3.out
    clear o3 n3 htl
    go_wp2_with fail
    refine q4.mono ?_
    rintro e w4 ⟨rfl, n4⟩
    clear q4
    have N4 : Hid (Nw w3 w4) := n4
    clear n4
    go_upto_region 10 with fail
    obtain ⟨wq, hwq⟩ : ∃ q, w4.alloc (.cells #[.int .u64 (n : Int), .int .u64 (E : Int)] 27) = q := ⟨_, rfl⟩
    have nq : Nw w4 wq := by rw [← hwq]; exact nwa w4 _
    have bq : wq.heap[w4.heap.size]? = some (.cells #[.int .u64 (n : Int), .int .u64 (E : Int)] 27) := by rw [← hwq]; exact heap_new _ _
    rw [hwq]
    clear hwq
    obtain ⟨sb, hsb⟩ : ∃ q, q = w4.heap.size := ⟨_, rfl⟩
    rw [← hsb] at bq ⊢
    have HSB : Hid (w2.heap.size ≤ sb) := by show w2.heap.size ≤ sb; have := N3.out.size; have := N4.out.size; omega
    have BQ : Hid (wq.heap[sb]? = some (.cells #[.int .u64 (n : Int), .int .u64 (E : Int)] 27)) := bq
    have NQ2 : Hid (Nw w2 wq) := (N3.out.tr N4.out).tr nq
    have NQ : Hid (Nw w0 wq) := N2.out.tr NQ2.out
    have RQ : Hid (Rg wq rb base v n E T) := R3.out.nw (N4.out.tr nq)
    have GQ : Hid (Rg wq qb (qb + 1) (.slice none 0 0) ob ob []) := G2.out.nw NQ2.out
    have OQ : Hid (wq.ownsRow w2.heap.size 24 32 (.slice (some ⟨hg, 0, none⟩) tl hc) tl (hsc (hss T))) := ownsRow_keep H3.out (fun g hg => (N4.out.tr nq).block g (H3.out.lt g hg).2 (fun f => f))
    have HTL2 : Hid (T.length ≤ 1000000) := by show T.length ≤ 1000000; have := HTL.out; omega
    clear nq bq hsb H3 R3 R2 G2 N3 N4
    go_cut [77] from 46 to 77 (fun p wx => p = .bool false ∧ wx.heap[sb]? = some (.cells #[.int .u64 (n : Int), .int .u64 (E : Int)] 27) ∧ wx.ownsRow w2.heap.size 24 32 (.slice (some ⟨hg, 0, none⟩) tl hc) tl (hsc (hss T)) ∧ Nw w0 wx)
    case first =>
      by_cases ho : off = 0
      · have HOI : Hid ((off : Int) = 0) := by show (off : Int) = 0; omega
        have hoE : ob = E := by have := HOB.out; have := HST.out; have := HE.out; omega
        have GQE : Hid (Rg wq qb (qb + 1) (.slice none 0 0) E E []) := by have := GQ.out; rw [hoE] at this; exact this
        have hap : Apt rb qb v (.slice none 0 0) := ⟨by have := HR1.out.lt; have := HQB.out; omega, fun g q => by simp [Value.ownBlock] at q, fun g q => by have := (HR1.out.own.lt g q).2; have := HQB.out; omega, fun g _ g2 q => by simp [Value.ownBlock] at q⟩
        have HAP : Hid (Apt rb qb v (.slice none 0 0)) := hap
        have QJ : Hid (∀ V, Nw wq V → Calls Tryd.prog 10 #[.pointer (some ⟨rb, 0, none⟩), .pointer (some ⟨qb, 0, none⟩)] V fun e w' => e = .returned .nilIface ∧ ∃ v', Rg w' rb base v' n E T ∧ Fr (fun k => k = rb ∨ v.ownBlock = some k) V w') := fun V nV => (rjoin_yes (RQ.out.nw nV) (GQE.out.nw nV) HAP.out (by have := HTL2.out; have := HTL.out; simp; omega) (HL.out.nw (NQ.out.tr nV))).mono (fun e w' ⟨q1, v', q2, _, _, q5⟩ => ⟨q1, v', q2, q5⟩)
        have KP : Hid (∀ V, Nw wq V → V.heap[sb]? = some (.cells #[.int .u64 (n : Int), .int .u64 (E : Int)] 27)) := fun V nV => (nV.block _ (heap_lt BQ.out) (fun f => f)).trans BQ.out
        have KJ : Hid (∀ V V', Nw wq V → Fr (fun k => k = rb ∨ v.ownBlock = some k) V V' → V'.heap[sb]? = some (.cells #[.int .u64 (n : Int), .int .u64 (E : Int)] 27) ∧ V'.ownsRow w2.heap.size 24 32 (.slice (some ⟨hg, 0, none⟩) tl hc) tl (hsc (hss T)) ∧ Nw w0 V') := fun V V' nV fV => by
          have a1 := HR1.out.lt
          have a2 := HQB.out
          have a3 := HSB.out
          have a4 := HL1.out
          have a5 : w1.heap.size ≤ w2.heap.size := N12.out.size
          refine ⟨(fV.block sb (heap_lt (KP.out V nV)) (fun q => ?_)).trans (KP.out V nV), ownsRow_keep (ownsRow_keep OQ.out (fun g hg => nV.block g (OQ.out.lt g hg).2 (fun f => f))) (fun g hg => fV.block g (Nat.lt_of_lt_of_le (OQ.out.lt g hg).2 nV.size) (fun q => ?_)), (NQ.out.tr nV).trans fV (fun j hj q => ?_)⟩
          · rcases q with q | q
            · omega
            · have := (HR1.out.own.lt sb q).2; omega
          · have b1 := (OQ.out.lt g hg).1
            rcases q with q | q
            · omega
            · have := (HR1.out.own.lt g q).2; omega
          · rcases q with q | q
            · omega
            · have := (HR1.out.own.lt j q).1; omega
        clear hoE hap ho hoff hb0
        have nb : Nw wq wq.drew := (Fr.refl _ _).drew
        refine wp_region_held_drew (S := fun V => V.heap[sb]? = some (.cells #[.int .u64 (n : Int), .int .u64 (E : Int)] 27)) (by kernel_rfl) (KP.out _ nb) ?_
        intro hS0
        refine wpAnyH_take (i := 0) (oi := Oper.mk (some 46) _ _ _ _ _) (v := .int .u64 (off : Int)) rfl (by kernel_rfl) (by kernel_rfl) (by kernel_rfl) (fun _ _ _ h => h) (Or.inl ⟨by kernel_rfl, by intro w hw; go_simp⟩) hS0 ?_
        try simp only [Act.put, List.setIfInBounds_toArray, List.set_cons_zero, List.set_cons_succ]
        refine wpAnyH_take (i := 1) (oi := Oper.mk (some 47) _ _ _ _ _) (v := .bool false) rfl (by kernel_rfl) (by kernel_rfl) (by kernel_rfl) (fun _ _ _ h => h) (Or.inl ⟨by kernel_rfl, by intro w hw; have hz := HOI.out; go_simp⟩) hS0 ?_
        try simp only [Act.put, List.setIfInBounds_toArray, List.set_cons_zero, List.set_cons_succ]
        refine wpAnyH_take (i := 2) (oi := Oper.mk (some 48) _ _ _ _ _) (v := .bool false) rfl (by kernel_rfl) (by kernel_rfl) (by kernel_rfl) (fun _ _ _ h => h) (Or.inl ⟨by kernel_rfl, by intro w hw; go_simp⟩) hS0 ?_
        try simp only [Act.put, List.setIfInBounds_toArray, List.set_cons_zero, List.set_cons_succ]
        refine wpAnyH_take (i := 3) (oi := Oper.mk (some 49) _ _ _ _ _) (v := undef) rfl (by kernel_rfl) (by kernel_rfl) (by kernel_rfl) (fun _ _ _ h => h) (Or.inr ⟨by kernel_rfl, rfl⟩) hS0 ?_
        try simp only [Act.put, List.setIfInBounds_toArray, List.set_cons_zero, List.set_cons_succ]
        refine wpAnyH_take (i := 4) (oi := Oper.mk (some 50) _ _ _ _ _) (v := undef) rfl (by kernel_rfl) (by kernel_rfl) (by kernel_rfl) (fun _ _ _ h => h) (Or.inr ⟨by kernel_rfl, rfl⟩) hS0 ?_
        try simp only [Act.put, List.setIfInBounds_toArray, List.set_cons_zero, List.set_cons_succ]
        refine wpAnyH_take (i := 5) (oi := Oper.mk (some 51) _ _ _ _ _) (v := undef) rfl (by kernel_rfl) (by kernel_rfl) (by kernel_rfl) (fun _ _ _ h => h) (Or.inr ⟨by kernel_rfl, rfl⟩) hS0 ?_
        try simp only [Act.put, List.setIfInBounds_toArray, List.set_cons_zero, List.set_cons_succ]
        refine wpAnyH_take (i := 6) (oi := Oper.mk (some 52) _ _ _ _ _) (v := undef) rfl (by kernel_rfl) (by kernel_rfl) (by kernel_rfl) (fun _ _ _ h => h) (Or.inr ⟨by kernel_rfl, rfl⟩) hS0 ?_
        try simp only [Act.put, List.setIfInBounds_toArray, List.set_cons_zero, List.set_cons_succ]
        refine wpAnyH_take (i := 7) (oi := Oper.mk (some 53) _ _ _ _ _) (v := undef) rfl (by kernel_rfl) (by kernel_rfl) (by kernel_rfl) (fun _ _ _ h => h) (Or.inr ⟨by kernel_rfl, rfl⟩) hS0 ?_
        try simp only [Act.put, List.setIfInBounds_toArray, List.set_cons_zero, List.set_cons_succ]
        refine wpAnyH_take (i := 8) (oi := Oper.mk (some 54) _ _ _ _ _) (v := .bool false) rfl (by kernel_rfl) (by kernel_rfl) (by kernel_rfl) (fun _ _ _ h => h) (Or.inl ⟨by kernel_rfl, by intro w hw; go_simp⟩) hS0 ?_
        try simp only [Act.put, List.setIfInBounds_toArray, List.set_cons_zero, List.set_cons_succ]
        refine wpAnyH_take (i := 9) (oi := Oper.mk (some 55) _ _ _ _ _) (v := .bool false) rfl (by kernel_rfl) (by kernel_rfl) (by kernel_rfl) (fun _ _ _ h => h) (Or.inl ⟨by kernel_rfl, by intro w hw; go_simp⟩) hS0 ?_
        try simp only [Act.put, List.setIfInBounds_toArray, List.set_cons_zero, List.set_cons_succ]
        refine wpAnyH_take (i := 10) (oi := Oper.mk (some 56) _ _ _ _ _) (v := .int .u64 (off : Int)) rfl (by kernel_rfl) (by kernel_rfl) (by kernel_rfl) (fun _ _ _ h => h) (Or.inl ⟨by kernel_rfl, by intro w hw; go_simp⟩) hS0 ?_
        try simp only [Act.put, List.setIfInBounds_toArray, List.set_cons_zero, List.set_cons_succ]
        refine wpAnyH_take (i := 11) (oi := Oper.mk (some 57) _ _ _ _ _) (v := .bool true) rfl (by kernel_rfl) (by kernel_rfl) (by kernel_rfl) (fun _ _ _ h => h) (Or.inl ⟨by kernel_rfl, by intro w hw; have hz := HOI.out; go_simp⟩) hS0 ?_
        try simp only [Act.put, List.setIfInBounds_toArray, List.set_cons_zero, List.set_cons_succ]
        refine wpAnyH_take (i := 12) (oi := Oper.mk (some 58) _ _ _ _ _) (v := .bool true) rfl (by kernel_rfl) (by kernel_rfl) (by kernel_rfl) (fun _ _ _ h => h) (Or.inl ⟨by kernel_rfl, by intro w hw; go_simp⟩) hS0 ?_
        try simp only [Act.put, List.setIfInBounds_toArray, List.set_cons_zero, List.set_cons_succ]
        refine wpAnyH_take (i := 13) (oi := Oper.mk (some 59) _ _ _ _ _) (v := .pointer (some ⟨rb, 0, none⟩)) rfl (by kernel_rfl) (by kernel_rfl) (by kernel_rfl) (fun _ _ _ h => h) (Or.inl ⟨by kernel_rfl, by intro w hw; go_simp⟩) hS0 ?_
        try simp only [Act.put, List.setIfInBounds_toArray, List.set_cons_zero, List.set_cons_succ]
        refine wpAnyH_take (i := 14) (oi := Oper.mk (some 60) _ _ _ _ _) (v := .pointer (some ⟨qb, 0, none⟩)) rfl (by kernel_rfl) (by kernel_rfl) (by kernel_rfl) (fun _ _ _ h => h) (Or.inl ⟨by kernel_rfl, by intro w hw; go_simp⟩) hS0 ?_
        try simp only [Act.put, List.setIfInBounds_toArray, List.set_cons_zero, List.set_cons_succ]
        refine wpAnyH_ready (rs := [15]) (by kernel_rfl) (by simp) ?_
        refine AllReadyH.cons rfl (fun K' hK => ?_) AllReadyH.nil
        go_simp
        go_wp2_with (go_at_call 10; refine (QJ.out _ nb).mono ?_; rintro ewj wj ⟨rfl, vj, Rj, Fj⟩)
        obtain ⟨kj1, kj2, kj3⟩ := KJ.out _ _ nb Fj
        have RT : Hid (Rg wj rb base vj n E T) := Rj
        have NT : Hid (Nw w0 wj) := kj3
        have KT : Hid (∀ V, Nw wj V → V.heap[sb]? = some (.cells #[.int .u64 (n : Int), .int .u64 (E : Int)] 27)) := fun V nV => (nV.block _ (heap_lt kj1) (fun f => f)).trans kj1
        have OT : Hid (∀ V, Nw wj V → V.ownsRow w2.heap.size 24 32 (.slice (some ⟨hg, 0, none⟩) tl hc) tl (hsc (hss T))) := fun V nV => ownsRow_keep kj2 (fun g hg => nV.block g (kj2.lt g hg).2 (fun f => f))
        have nT : Nw wj wj := nwr wj
        refine hK.out _ _ ((kj1)) (fun hS0 => ?_)
        try simp only [Act.put, List.setIfInBounds_toArray, List.set_cons_zero, List.set_cons_succ]
        refine wpAnyH_take (i := 16) (oi := Oper.mk (some 62) _ _ _ _ _) (v := .bool false) rfl (by kernel_rfl) (by kernel_rfl) (by kernel_rfl) (fun _ _ _ h => h) (Or.inl ⟨by kernel_rfl, by intro w hw; have he := hee w; go_simp⟩) hS0 ?_
        try simp only [Act.put, List.setIfInBounds_toArray, List.set_cons_zero, List.set_cons_succ]
        refine wpAnyH_take (i := 17) (oi := Oper.mk (some 63) _ _ _ _ _) (v := .bool false) rfl (by kernel_rfl) (by kernel_rfl) (by kernel_rfl) (fun _ _ _ h => h) (Or.inl ⟨by kernel_rfl, by intro w hw; go_simp⟩) hS0 ?_
        try simp only [Act.put, List.setIfInBounds_toArray, List.set_cons_zero, List.set_cons_succ]
        refine wpAnyH_take (i := 18) (oi := Oper.mk (some 64) _ _ _ _ _) (v := .bool false) rfl (by kernel_rfl) (by kernel_rfl) (by kernel_rfl) (fun _ _ _ h => h) (Or.inl ⟨by kernel_rfl, by intro w hw; go_simp⟩) hS0 ?_
        try simp only [Act.put, List.setIfInBounds_toArray, List.set_cons_zero, List.set_cons_succ]
        refine wpAnyH_take (i := 19) (oi := Oper.mk (some 65) _ _ _ _ _) (v := .bool false) rfl (by kernel_rfl) (by kernel_rfl) (by kernel_rfl) (fun _ _ _ h => h) (Or.inl ⟨by kernel_rfl, by intro w hw; go_simp⟩) hS0 ?_
        try simp only [Act.put, List.setIfInBounds_toArray, List.set_cons_zero, List.set_cons_succ]
        refine wpAnyH_take (i := 20) (oi := Oper.mk (some 66) _ _ _ _ _) (v := .pointer (some ⟨rb, 0, none⟩)) rfl (by kernel_rfl) (by kernel_rfl) (by kernel_rfl) (fun _ _ _ h => h) (Or.inl ⟨by kernel_rfl, by intro w hw; go_simp⟩) hS0 ?_
        try simp only [Act.put, List.setIfInBounds_toArray, List.set_cons_zero, List.set_cons_succ]
        refine wpAnyH_take (i := 22) (oi := Oper.mk (some 68) _ _ _ _ _) (v := .agg #[.int .u64 (n : Int), .int .u64 (E : Int)]) rfl (by kernel_rfl) (by kernel_rfl) (by kernel_rfl) (fun _ _ _ h => h) (yields_load_g (by kernel_rfl) (.tmp 11) 27 2 rfl Tryd.isAgg27 Tryd.sizeOf27 sb 0 (by kernel_rfl) #[.int .u64 (n : Int), .int .u64 (E : Int)] rfl (fun V hV j _ => by rw [Nat.zero_add]; exact cell_of hV j)) hS0 ?_
        try simp only [Act.put, List.setIfInBounds_toArray, List.set_cons_zero, List.set_cons_succ]
        refine wpAnyH_ready (rs := [21]) (by kernel_rfl) (by simp) ?_
        refine AllReadyH.cons rfl (fun K' hK => ?_) AllReadyH.nil
        go_simp
        go_wp2_with (go_at_call 13; refine (rspan_any (RT.out.nw nT)).mono ?_; rintro ewd wd ⟨rfl, mwd⟩)
        have nwd : Nw wj wd := nT.tr mwd
        have hS0 := KT.out _ nwd
        refine hK.out _ _ (KT.out _ (nwd)) (fun hS0 => ?_)
        try simp only [Act.put, List.setIfInBounds_toArray, List.set_cons_zero, List.set_cons_succ]
        refine wpAnyH_take (i := 23) (oi := Oper.mk (some 69) _ _ _ _ _) (v := .bool false) rfl (by kernel_rfl) (by kernel_rfl) (by kernel_rfl) (fun _ _ _ h => h) (Or.inl ⟨by kernel_rfl, by intro w hw; go_simp⟩) hS0 ?_
        try simp only [Act.put, List.setIfInBounds_toArray, List.set_cons_zero, List.set_cons_succ]
        refine wpAnyH_take (i := 24) (oi := Oper.mk (some 70) _ _ _ _ _) (v := .bool false) rfl (by kernel_rfl) (by kernel_rfl) (by kernel_rfl) (fun _ _ _ h => h) (Or.inl ⟨by kernel_rfl, by intro w hw; go_simp⟩) hS0 ?_
        try simp only [Act.put, List.setIfInBounds_toArray, List.set_cons_zero, List.set_cons_succ]
        refine wpAnyH_take (i := 25) (oi := Oper.mk (some 71) _ _ _ _ _) (v := .bool false) rfl (by kernel_rfl) (by kernel_rfl) (by kernel_rfl) (fun _ _ _ h => h) (Or.inl ⟨by kernel_rfl, by intro w hw; go_simp⟩) hS0 ?_
        try simp only [Act.put, List.setIfInBounds_toArray, List.set_cons_zero, List.set_cons_succ]
        refine wpAnyH_take (i := 26) (oi := Oper.mk (some 72) _ _ _ _ _) (v := .pointer (some ⟨rb, 0, none⟩)) rfl (by kernel_rfl) (by kernel_rfl) (by kernel_rfl) (fun _ _ _ h => h) (Or.inl ⟨by kernel_rfl, by intro w hw; go_simp⟩) hS0 ?_
        try simp only [Act.put, List.setIfInBounds_toArray, List.set_cons_zero, List.set_cons_succ]
        refine wpAnyH_take (i := 28) (oi := Oper.mk (some 74) _ _ _ _ _) (v := .slice (some ⟨hg, 0, none⟩) tl hc) rfl (by kernel_rfl) (by kernel_rfl) (by kernel_rfl) (fun _ _ _ h => h) (Or.inl ⟨by kernel_rfl, by intro w hw; go_simp⟩) hS0 ?_
        try simp only [Act.put, List.setIfInBounds_toArray, List.set_cons_zero, List.set_cons_succ]
        refine wpAnyH_ready (rs := [27]) (by kernel_rfl) (by simp) ?_
        refine AllReadyH.cons rfl (fun K' hK => ?_) AllReadyH.nil
        go_simp
        go_wp2_with (go_at_call 14; refine (rhashes_full (RT.out.nw nwd) HTL2.out).mono ?_; rintro ewe we ⟨g2, c2, rfl, oe, mwe⟩)
        rw [HTL.out] at oe ⊢
        have nwe : Nw wj we := nwd.tr mwe
        have QH : Calls Tryd.prog 22 #[.slice (some ⟨g2, 0, none⟩) tl c2, .slice (some ⟨hg, 0, none⟩) tl hc] we fun e w' => e = .returned (.bool true) ∧ Nw we w' := sameh_yes _ _ (hss T) HT32.out we (Hss.of HT32.out (by rw [show (hss T).length = tl by rw [← HTL.out]; simp [hss]]; exact oe)) (Hss.of HT32.out (by rw [show (hss T).length = tl by rw [← HTL.out]; simp [hss]]; exact OT.out _ nwe)) (by rw [show (hss T).length = tl by rw [← HTL.out]; simp [hss]]; omega)
        refine hK.out _ _ (KT.out _ (nwe)) (fun hS0 => ?_)
        try simp only [Act.put, List.setIfInBounds_toArray, List.set_cons_zero, List.set_cons_succ]
        refine wpAnyH_ready (rs := [29]) (by kernel_rfl) (by simp) ?_
        refine AllReadyH.cons rfl (fun K' hK => ?_) AllReadyH.nil
        go_simp
        go_wp2_with (go_at_call 22; refine (QH).mono ?_; rintro ewf wf ⟨rfl, mwf⟩)
        have nwf : Nw wj wf := nwe.tr mwf
        refine hK.out _ _ (KT.out _ (nwf)) (fun hS0 => ?_)
        try simp only [Act.put, List.setIfInBounds_toArray, List.set_cons_zero, List.set_cons_succ]
        refine wpAnyH_take (i := 30) (oi := Oper.mk (some 76) _ _ _ _ _) (v := .bool false) rfl (by kernel_rfl) (by kernel_rfl) (by kernel_rfl) (fun _ _ _ h => h) (Or.inl ⟨by kernel_rfl, by intro w hw; go_simp⟩) hS0 ?_
        try simp only [Act.put, List.setIfInBounds_toArray, List.set_cons_zero, List.set_cons_succ]
        refine wpAnyH_take (i := 31) (oi := Oper.mk (some 77) _ _ _ _ _) (v := .bool false) rfl (by kernel_rfl) (by kernel_rfl) (by kernel_rfl) (fun _ _ _ h => h) (Or.inl ⟨by kernel_rfl, by intro w hw; go_simp⟩) hS0 ?_
        try simp only [Act.put, List.setIfInBounds_toArray, List.set_cons_zero, List.set_cons_succ]
        refine wpAnyH_done (by kernel_rfl) ?_ _
        try go_wp2_with fail
        go_meet
        exact ⟨rfl, KT.out _ nwf, OT.out _ nwf, NT.out.tr nwf⟩
      · have HOI : Hid (¬ off = 0) := ho
        have hoE : ob ≠ E := by have := HOB.out; have := HST.out; have := HE.out; omega
        have QJ : Hid (∀ V, Nw wq V → Calls Tryd.prog 10 #[.pointer (some ⟨rb, 0, none⟩), .pointer (some ⟨qb, 0, none⟩)] V fun e w' => e = .returned (sen (a 1)) ∧ Nw V w') := fun V nV => rjoin_arg (RQ.out.nw nV) (GQ.out.nw nV) hoE (SS.out V (NQ.out.tr nV))
        have KP : Hid (∀ V, Nw wq V → V.heap[sb]? = some (.cells #[.int .u64 (n : Int), .int .u64 (E : Int)] 27)) := fun V nV => (nV.block _ (heap_lt BQ.out) (fun f => f)).trans BQ.out
        clear hoE ho hoff hb0
        have nb : Nw wq wq.drew := (Fr.refl _ _).drew
        refine wp_region_held_drew (S := fun V => V.heap[sb]? = some (.cells #[.int .u64 (n : Int), .int .u64 (E : Int)] 27)) (by kernel_rfl) (KP.out _ nb) ?_
        intro hS0
        have RT : Hid (Rg wq rb base v n E T) := RQ.out
        have NT : Hid (Nw w0 wq) := NQ.out
        have KT : Hid (∀ V, Nw wq V → V.heap[sb]? = some (.cells #[.int .u64 (n : Int), .int .u64 (E : Int)] 27)) := KP.out
        have OT : Hid (∀ V, Nw wq V → V.ownsRow w2.heap.size 24 32 (.slice (some ⟨hg, 0, none⟩) tl hc) tl (hsc (hss T))) := fun V nV => ownsRow_keep OQ.out (fun g hg => nV.block g (OQ.out.lt g hg).2 (fun f => f))
        refine wpAnyH_take (i := 0) (oi := Oper.mk (some 46) _ _ _ _ _) (v := .int .u64 (off : Int)) rfl (by kernel_rfl) (by kernel_rfl) (by kernel_rfl) (fun _ _ _ h => h) (Or.inl ⟨by kernel_rfl, by intro w hw; go_simp⟩) hS0 ?_
        try simp only [Act.put, List.setIfInBounds_toArray, List.set_cons_zero, List.set_cons_succ]
        refine wpAnyH_take (i := 1) (oi := Oper.mk (some 47) _ _ _ _ _) (v := .bool true) rfl (by kernel_rfl) (by kernel_rfl) (by kernel_rfl) (fun _ _ _ h => h) (Or.inl ⟨by kernel_rfl, by intro w hw; have hz := HOI.out; go_simp⟩) hS0 ?_
        try simp only [Act.put, List.setIfInBounds_toArray, List.set_cons_zero, List.set_cons_succ]
        refine wpAnyH_take (i := 2) (oi := Oper.mk (some 48) _ _ _ _ _) (v := .bool true) rfl (by kernel_rfl) (by kernel_rfl) (by kernel_rfl) (fun _ _ _ h => h) (Or.inl ⟨by kernel_rfl, by intro w hw; go_simp⟩) hS0 ?_
        try simp only [Act.put, List.setIfInBounds_toArray, List.set_cons_zero, List.set_cons_succ]
        refine wpAnyH_take (i := 3) (oi := Oper.mk (some 49) _ _ _ _ _) (v := .pointer (some ⟨rb, 0, none⟩)) rfl (by kernel_rfl) (by kernel_rfl) (by kernel_rfl) (fun _ _ _ h => h) (Or.inl ⟨by kernel_rfl, by intro w hw; go_simp⟩) hS0 ?_
        try simp only [Act.put, List.setIfInBounds_toArray, List.set_cons_zero, List.set_cons_succ]
        refine wpAnyH_take (i := 4) (oi := Oper.mk (some 50) _ _ _ _ _) (v := .pointer (some ⟨qb, 0, none⟩)) rfl (by kernel_rfl) (by kernel_rfl) (by kernel_rfl) (fun _ _ _ h => h) (Or.inl ⟨by kernel_rfl, by intro w hw; go_simp⟩) hS0 ?_
        try simp only [Act.put, List.setIfInBounds_toArray, List.set_cons_zero, List.set_cons_succ]
        refine wpAnyH_ready (rs := [5]) (by kernel_rfl) (by simp) ?_
        refine AllReadyH.cons rfl (fun K' hK => ?_) AllReadyH.nil
        go_simp
        go_wp2_with (go_at_call 10; refine (QJ.out _ nb).mono ?_; rintro ewa wa ⟨rfl, mwa⟩)
        have nwa' : Nw wq wa := nb.tr mwa
        refine hK.out _ _ (KT.out _ (nwa')) (fun hS0 => ?_)
        try simp only [Act.put, List.setIfInBounds_toArray, List.set_cons_zero, List.set_cons_succ]
        refine wpAnyH_ready (rs := [6]) (by kernel_rfl) (by simp) ?_
        refine AllReadyH.cons rfl (fun K' hK => ?_) AllReadyH.nil
        go_simp
        go_wp2_with (go_at_call 8; refine (QI2.out _ (NQ.out.tr nwa')).mono ?_; rintro ewb wb ⟨rfl, mwb⟩)
        have nwb : Nw wq wb := nwa'.tr mwb
        refine hK.out _ _ (KT.out _ (nwb)) (fun hS0 => ?_)
        try simp only [Act.put, List.setIfInBounds_toArray, List.set_cons_zero, List.set_cons_succ]
        refine wpAnyH_take (i := 7) (oi := Oper.mk (some 53) _ _ _ _ _) (v := .bool false) rfl (by kernel_rfl) (by kernel_rfl) (by kernel_rfl) (fun _ _ _ h => h) (Or.inl ⟨by kernel_rfl, by intro w hw; go_simp⟩) hS0 ?_
        try simp only [Act.put, List.setIfInBounds_toArray, List.set_cons_zero, List.set_cons_succ]
        refine wpAnyH_take (i := 8) (oi := Oper.mk (some 54) _ _ _ _ _) (v := .bool false) rfl (by kernel_rfl) (by kernel_rfl) (by kernel_rfl) (fun _ _ _ h => h) (Or.inl ⟨by kernel_rfl, by intro w hw; go_simp⟩) hS0 ?_
        try simp only [Act.put, List.setIfInBounds_toArray, List.set_cons_zero, List.set_cons_succ]
        refine wpAnyH_take (i := 9) (oi := Oper.mk (some 55) _ _ _ _ _) (v := .bool false) rfl (by kernel_rfl) (by kernel_rfl) (by kernel_rfl) (fun _ _ _ h => h) (Or.inl ⟨by kernel_rfl, by intro w hw; go_simp⟩) hS0 ?_
        try simp only [Act.put, List.setIfInBounds_toArray, List.set_cons_zero, List.set_cons_succ]
        refine wpAnyH_take (i := 10) (oi := Oper.mk (some 56) _ _ _ _ _) (v := .int .u64 (off : Int)) rfl (by kernel_rfl) (by kernel_rfl) (by kernel_rfl) (fun _ _ _ h => h) (Or.inl ⟨by kernel_rfl, by intro w hw; go_simp⟩) hS0 ?_
        try simp only [Act.put, List.setIfInBounds_toArray, List.set_cons_zero, List.set_cons_succ]
        refine wpAnyH_take (i := 11) (oi := Oper.mk (some 57) _ _ _ _ _) (v := .bool false) rfl (by kernel_rfl) (by kernel_rfl) (by kernel_rfl) (fun _ _ _ h => h) (Or.inl ⟨by kernel_rfl, by intro w hw; have hz := HOI.out; go_simp⟩) hS0 ?_
        try simp only [Act.put, List.setIfInBounds_toArray, List.set_cons_zero, List.set_cons_succ]
        refine wpAnyH_take (i := 12) (oi := Oper.mk (some 58) _ _ _ _ _) (v := .bool false) rfl (by kernel_rfl) (by kernel_rfl) (by kernel_rfl) (fun _ _ _ h => h) (Or.inl ⟨by kernel_rfl, by intro w hw; go_simp⟩) hS0 ?_
        try simp only [Act.put, List.setIfInBounds_toArray, List.set_cons_zero, List.set_cons_succ]
        refine wpAnyH_take (i := 13) (oi := Oper.mk (some 59) _ _ _ _ _) (v := undef) rfl (by kernel_rfl) (by kernel_rfl) (by kernel_rfl) (fun _ _ _ h => h) (Or.inr ⟨by kernel_rfl, rfl⟩) hS0 ?_
        try simp only [Act.put, List.setIfInBounds_toArray, List.set_cons_zero, List.set_cons_succ]
        refine wpAnyH_take (i := 14) (oi := Oper.mk (some 60) _ _ _ _ _) (v := undef) rfl (by kernel_rfl) (by kernel_rfl) (by kernel_rfl) (fun _ _ _ h => h) (Or.inr ⟨by kernel_rfl, rfl⟩) hS0 ?_
        try simp only [Act.put, List.setIfInBounds_toArray, List.set_cons_zero, List.set_cons_succ]
        refine wpAnyH_take (i := 15) (oi := Oper.mk (some 61) _ _ _ _ _) (v := undef) rfl (by kernel_rfl) (by kernel_rfl) (by kernel_rfl) (fun _ _ _ h => h) (Or.inr ⟨by kernel_rfl, rfl⟩) hS0 ?_
        try simp only [Act.put, List.setIfInBounds_toArray, List.set_cons_zero, List.set_cons_succ]
        refine wpAnyH_take (i := 16) (oi := Oper.mk (some 62) _ _ _ _ _) (v := undef) rfl (by kernel_rfl) (by kernel_rfl) (by kernel_rfl) (fun _ _ _ h => h) (Or.inr ⟨by kernel_rfl, rfl⟩) hS0 ?_
        try simp only [Act.put, List.setIfInBounds_toArray, List.set_cons_zero, List.set_cons_succ]
        refine wpAnyH_take (i := 17) (oi := Oper.mk (some 63) _ _ _ _ _) (v := .bool false) rfl (by kernel_rfl) (by kernel_rfl) (by kernel_rfl) (fun _ _ _ h => h) (Or.inl ⟨by kernel_rfl, by intro w hw; go_simp⟩) hS0 ?_
        try simp only [Act.put, List.setIfInBounds_toArray, List.set_cons_zero, List.set_cons_succ]
        refine wpAnyH_take (i := 18) (oi := Oper.mk (some 64) _ _ _ _ _) (v := .bool false) rfl (by kernel_rfl) (by kernel_rfl) (by kernel_rfl) (fun _ _ _ h => h) (Or.inl ⟨by kernel_rfl, by intro w hw; go_simp⟩) hS0 ?_
        try simp only [Act.put, List.setIfInBounds_toArray, List.set_cons_zero, List.set_cons_succ]
        refine wpAnyH_take (i := 19) (oi := Oper.mk (some 65) _ _ _ _ _) (v := .bool false) rfl (by kernel_rfl) (by kernel_rfl) (by kernel_rfl) (fun _ _ _ h => h) (Or.inl ⟨by kernel_rfl, by intro w hw; go_simp⟩) hS0 ?_
        try simp only [Act.put, List.setIfInBounds_toArray, List.set_cons_zero, List.set_cons_succ]
        refine wpAnyH_take (i := 20) (oi := Oper.mk (some 66) _ _ _ _ _) (v := .pointer (some ⟨rb, 0, none⟩)) rfl (by kernel_rfl) (by kernel_rfl) (by kernel_rfl) (fun _ _ _ h => h) (Or.inl ⟨by kernel_rfl, by intro w hw; go_simp⟩) hS0 ?_
        try simp only [Act.put, List.setIfInBounds_toArray, List.set_cons_zero, List.set_cons_succ]
        refine wpAnyH_take (i := 22) (oi := Oper.mk (some 68) _ _ _ _ _) (v := .agg #[.int .u64 (n : Int), .int .u64 (E : Int)]) rfl (by kernel_rfl) (by kernel_rfl) (by kernel_rfl) (fun _ _ _ h => h) (yields_load_g (by kernel_rfl) (.tmp 11) 27 2 rfl Tryd.isAgg27 Tryd.sizeOf27 sb 0 (by kernel_rfl) #[.int .u64 (n : Int), .int .u64 (E : Int)] rfl (fun V hV j _ => by rw [Nat.zero_add]; exact cell_of hV j)) hS0 ?_
        try simp only [Act.put, List.setIfInBounds_toArray, List.set_cons_zero, List.set_cons_succ]
        refine wpAnyH_ready (rs := [21]) (by kernel_rfl) (by simp) ?_
        refine AllReadyH.cons rfl (fun K' hK => ?_) AllReadyH.nil
        go_simp
        go_wp2_with (go_at_call 13; refine (rspan_any (RT.out.nw nwb)).mono ?_; rintro ewd wd ⟨rfl, mwd⟩)
        have nwd : Nw wq wd := nwb.tr mwd
        have hS0 := KT.out _ nwd
        refine hK.out _ _ (KT.out _ (nwd)) (fun hS0 => ?_)
        try simp only [Act.put, List.setIfInBounds_toArray, List.set_cons_zero, List.set_cons_succ]
        refine wpAnyH_take (i := 23) (oi := Oper.mk (some 69) _ _ _ _ _) (v := .bool false) rfl (by kernel_rfl) (by kernel_rfl) (by kernel_rfl) (fun _ _ _ h => h) (Or.inl ⟨by kernel_rfl, by intro w hw; go_simp⟩) hS0 ?_
        try simp only [Act.put, List.setIfInBounds_toArray, List.set_cons_zero, List.set_cons_succ]
        refine wpAnyH_take (i := 24) (oi := Oper.mk (some 70) _ _ _ _ _) (v := .bool false) rfl (by kernel_rfl) (by kernel_rfl) (by kernel_rfl) (fun _ _ _ h => h) (Or.inl ⟨by kernel_rfl, by intro w hw; go_simp⟩) hS0 ?_
        try simp only [Act.put, List.setIfInBounds_toArray, List.set_cons_zero, List.set_cons_succ]
        refine wpAnyH_take (i := 25) (oi := Oper.mk (some 71) _ _ _ _ _) (v := .bool false) rfl (by kernel_rfl) (by kernel_rfl) (by kernel_rfl) (fun _ _ _ h => h) (Or.inl ⟨by kernel_rfl, by intro w hw; go_simp⟩) hS0 ?_
        try simp only [Act.put, List.setIfInBounds_toArray, List.set_cons_zero, List.set_cons_succ]
        refine wpAnyH_take (i := 26) (oi := Oper.mk (some 72) _ _ _ _ _) (v := .pointer (some ⟨rb, 0, none⟩)) rfl (by kernel_rfl) (by kernel_rfl) (by kernel_rfl) (fun _ _ _ h => h) (Or.inl ⟨by kernel_rfl, by intro w hw; go_simp⟩) hS0 ?_
        try simp only [Act.put, List.setIfInBounds_toArray, List.set_cons_zero, List.set_cons_succ]
        refine wpAnyH_take (i := 28) (oi := Oper.mk (some 74) _ _ _ _ _) (v := .slice (some ⟨hg, 0, none⟩) tl hc) rfl (by kernel_rfl) (by kernel_rfl) (by kernel_rfl) (fun _ _ _ h => h) (Or.inl ⟨by kernel_rfl, by intro w hw; go_simp⟩) hS0 ?_
        try simp only [Act.put, List.setIfInBounds_toArray, List.set_cons_zero, List.set_cons_succ]
        refine wpAnyH_ready (rs := [27]) (by kernel_rfl) (by simp) ?_
        refine AllReadyH.cons rfl (fun K' hK => ?_) AllReadyH.nil
        go_simp
        go_wp2_with (go_at_call 14; refine (rhashes_full (RT.out.nw nwd) HTL2.out).mono ?_; rintro ewe we ⟨g2, c2, rfl, oe, mwe⟩)
        rw [HTL.out] at oe ⊢
        have nwe : Nw wq we := nwd.tr mwe
        have QH : Calls Tryd.prog 22 #[.slice (some ⟨g2, 0, none⟩) tl c2, .slice (some ⟨hg, 0, none⟩) tl hc] we fun e w' => e = .returned (.bool true) ∧ Nw we w' := sameh_yes _ _ (hss T) HT32.out we (Hss.of HT32.out (by rw [show (hss T).length = tl by rw [← HTL.out]; simp [hss]]; exact oe)) (Hss.of HT32.out (by rw [show (hss T).length = tl by rw [← HTL.out]; simp [hss]]; exact OT.out _ nwe)) (by rw [show (hss T).length = tl by rw [← HTL.out]; simp [hss]]; omega)
        refine hK.out _ _ (KT.out _ (nwe)) (fun hS0 => ?_)
        try simp only [Act.put, List.setIfInBounds_toArray, List.set_cons_zero, List.set_cons_succ]
        refine wpAnyH_ready (rs := [29]) (by kernel_rfl) (by simp) ?_
        refine AllReadyH.cons rfl (fun K' hK => ?_) AllReadyH.nil
        go_simp
        go_wp2_with (go_at_call 22; refine (QH).mono ?_; rintro ewf wf ⟨rfl, mwf⟩)
        have nwf : Nw wq wf := nwe.tr mwf
        refine hK.out _ _ (KT.out _ (nwf)) (fun hS0 => ?_)
        try simp only [Act.put, List.setIfInBounds_toArray, List.set_cons_zero, List.set_cons_succ]
        refine wpAnyH_take (i := 30) (oi := Oper.mk (some 76) _ _ _ _ _) (v := .bool false) rfl (by kernel_rfl) (by kernel_rfl) (by kernel_rfl) (fun _ _ _ h => h) (Or.inl ⟨by kernel_rfl, by intro w hw; go_simp⟩) hS0 ?_
        try simp only [Act.put, List.setIfInBounds_toArray, List.set_cons_zero, List.set_cons_succ]
        refine wpAnyH_take (i := 31) (oi := Oper.mk (some 77) _ _ _ _ _) (v := .bool false) rfl (by kernel_rfl) (by kernel_rfl) (by kernel_rfl) (fun _ _ _ h => h) (Or.inl ⟨by kernel_rfl, by intro w hw; go_simp⟩) hS0 ?_
        try simp only [Act.put, List.setIfInBounds_toArray, List.set_cons_zero, List.set_cons_succ]
        refine wpAnyH_done (by kernel_rfl) ?_ _
        try go_wp2_with fail
        go_meet
        exact ⟨rfl, KT.out _ nwf, OT.out _ nwf, NT.out.tr nwf⟩
    case rest =>
      obtain ⟨rfl, hsx, hox, hnx⟩ := hcut
      obtain ⟨wq2, hwq2⟩ : ∃ q, q = wc := ⟨_, rfl⟩
      subst hwq2
      have NX : Hid (Nw w0 wq2) := hnx
      have OX : Hid (wq2.ownsRow w2.heap.size 24 32 (.slice (some ⟨hg, 0, none⟩) tl hc) tl (hsc (hss T))) := hox
      have BX : Hid (wq2.heap[sb]? = some (.cells #[.int .u64 (n : Int), .int .u64 (E : Int)] 27)) := hsx
      clear hsx hox hnx HOB HR1 HSB BQ NQ2 NQ RQ GQ OQ N12 N1 N2 HL1 HQB hoff hb0
      obtain ⟨i0, hi0, hz0, hz1, hz2⟩ := info_parts infoHs
      have hA1 : (hbs (h1 1)).size = 32 := by rw [hbs_size, h1_len]
      have BA : Hid (∀ W : World, (Instr.build 24 #[(0, .int .u8 1)]).run Tryd.prog W = .ok (.agg (hbs (h1 1))) W) := build_h1 1 1 rfl
      obtain ⟨A1, hA1e⟩ : ∃ A, A = h1 1 := ⟨_, rfl⟩
      rw [← hA1e] at hA1 BA
      clear hA1e
      have KP : Hid (∀ V, Nw wq2 V → V.heap[sb]? = some (.cells #[.int .u64 (n : Int), .int .u64 (E : Int)] 27)) := fun V nV => (nV.block _ (heap_lt BX.out) (fun f => f)).trans BX.out
      have CW : Hid (∀ V, Nw wq2 V → ∀ j u, (hsc (hss T))[j]? = some u → V.cell? ((⟨hg, 0, none⟩ : Addr).add j) = some u) := fun V nV j u hu => nV.cellOf (OX.out.cells (g := hg) rfl j u hu)
      have CL : Hid ((hsc (hss T)).length = tl * 32) := OX.out.1
      have C1 : Hid (∀ u ∈ hsc (hss T), u.oneCell' = true) := hsc_cell _
      have QL : Hid (∀ V ad l c, Nw wq2 V → l = 0 + tl + 1 → Calls Tryd.prog 21 #[.agg #[.int .u64 (n : Int), .int .u64 (E : Int)], .slice ad l c] V fun x w' => x = .returned (.tuple #[.pointer none, sen (a 1)]) ∧ Nw V w') := fun V ad l c nV hl => rload_arg n E (by have := HE.out; omega) (by have := HE.out; have := HST.out; omega) ad l c (by rw [← HTC.out, HTL.out]; omega) (HT.out.nw (NX.out.tr nV)) (SS.out V (NX.out.tr nV))
      go_upto_region 12 with fail
      go_cut [12, 13] from 78 to 88 (fun p q wx => p = .pointer none ∧ q = sen (a 1) ∧ Nw w0 wx)
      case first =>
        have nb : Nw wq2 wq2.drew := (Fr.refl _ _).drew
        refine wp_region_held_drew (S := fun V => V.heap[sb]? = some (.cells #[.int .u64 (n : Int), .int .u64 (E : Int)] 27)) (by kernel_rfl) (KP.out _ nb) ?_
        intro hS0
        refine wpAnyH_take (i := 0) (oi := Oper.mk (some 79) _ _ _ _ _) (v := .agg #[.int .u64 (n : Int), .int .u64 (E : Int)]) rfl (by kernel_rfl) (by kernel_rfl) (by kernel_rfl) (fun _ _ _ h => h) (yields_load_g (by kernel_rfl) (.tmp 11) 27 2 rfl Tryd.isAgg27 Tryd.sizeOf27 sb 0 (by kernel_rfl) #[.int .u64 (n : Int), .int .u64 (E : Int)] rfl (fun V hV j _ => by rw [Nat.zero_add]; exact cell_of hV j)) hS0 ?_
        try simp only [Act.put, List.setIfInBounds_toArray, List.set_cons_zero, List.set_cons_succ]
        refine wpAnyH_take (i := 2) (oi := Oper.mk (some 81) _ _ _ _ _) (v := .slice (some ⟨hg, 0, none⟩) tl hc) rfl (by kernel_rfl) (by kernel_rfl) (by kernel_rfl) (fun _ _ _ h => h) (Or.inl ⟨by kernel_rfl, by intro w hw; go_simp⟩) hS0 ?_
        try simp only [Act.put, List.setIfInBounds_toArray, List.set_cons_zero, List.set_cons_succ]
        refine wpAnyH_take (i := 4) (oi := Oper.mk (some 83) _ _ _ _ _) (v := .agg (hbs A1)) rfl (by kernel_rfl) (by kernel_rfl) (by kernel_rfl) (fun _ _ _ h => h) (yields_build1 rfl 24 (.const (.int .u8 1)) rfl (.int .u8 1) rfl (hbs A1) BA.out) hS0 ?_
        try simp only [Act.put, List.setIfInBounds_toArray, List.set_cons_zero, List.set_cons_succ]
        refine wpAnyH_ready (rs := [1, 5]) (by kernel_rfl) (by simp) ?_
        refine AllReadyH.cons rfl (fun K' hK => ?_) (AllReadyH.cons rfl (fun K' hK => ?_) AllReadyH.nil)
        · show if Region.wanted (Oper.mk _ _ _ _ _ _) _ = true then _ else _
          refine step_build0 rfl 41 24 rfl build0h ?_
          have o80 := own_emptyh (wq2.drew)
          obtain ⟨u1, hu1⟩ : ∃ q, (wq2.drew).alloc (.cells #[] 24) = q := ⟨_, rfl⟩
          have nu1 : Nw wq2 u1 := by rw [← hu1]; exact (nb).alloc _
          have mu1 : Nw (wq2.drew) u1 := by rw [← hu1]; exact nwa _ _
          rw [hu1] at o80 ⊢
          obtain ⟨g80, hg80⟩ : ∃ q, q = (wq2.drew).heap.size := ⟨_, rfl⟩
          have l80 : wq2.heap.size ≤ g80 := by have := (nb).size; omega
          rw [← hg80] at o80 ⊢
          clear hu1 hg80
          have B80 : g80 ≤ u1.heap.size := Nat.le_of_lt (o80.lt g80 rfl).2
          refine hK.out _ _ (KP.out _ (nu1)) (fun hS0 => ?_)
          try simp only [Act.put, List.setIfInBounds_toArray, List.set_cons_zero, List.set_cons_succ]
          refine wpAnyH_ready (rs := [3, 5]) (by kernel_rfl) (by simp) ?_
          refine AllReadyH.cons rfl (fun K' hK => ?_) (AllReadyH.cons rfl (fun K' hK => ?_) AllReadyH.nil)
          · show if Region.wanted (Oper.mk _ _ _ _ _ _) _ = true then _ else _
            refine step_two rfl (.tmp 80) (.tmp 81) 41 rfl g80 24 i0 (.agg z32) 32 32 Tryd.underlying41 hi0 hz0 hz1 hz2 z32_size (by decide) (.slice (some ⟨g80, 0, none⟩) 0 0) 0 [] (by kernel_rfl) o80 ⟨hg, 0, none⟩ tl hc (hsc (hss T)) (by kernel_rfl) CL.out (CW.out _ nu1) C1.out (by unfold maxLen; omega) (by omega) (by have := (o80.lt g80 rfl).2; omega) ?_
            intro v82 u2 o82 t2
            have nu2 : Nw wq2 u2 := (nu1).trans t2.fr (fun j hj e => by simp only [Value.ownBlock, Option.some.injEq] at e; omega)
            obtain ⟨xa, xc, rfl⟩ := ownsRow_form o82
            have B80 : g80 ≤ u2.heap.size := Nat.le_trans B80 t2.fr.size
            refine hK.out _ _ (KP.out _ (nu2)) (fun hS0 => ?_)
            try simp only [Act.put, List.setIfInBounds_toArray, List.set_cons_zero, List.set_cons_succ]
            refine wpAnyH_ready (rs := [5]) (by kernel_rfl) (by simp) ?_
            refine AllReadyH.cons rfl (fun K' hK => ?_) AllReadyH.nil
            show if Region.wanted (Oper.mk _ _ _ _ _ _) _ = true then _ else _
            refine step_build1 rfl (.tmp 83) 41 24 rfl (hbs A1) (by kernel_rfl) (build1 (hbs A1) hA1) ?_
            have c84 := hash_new (u2) (hbs A1) 24
            obtain ⟨u3, hu3⟩ : ∃ q, (u2).alloc (.cells (hbs A1) 24) = q := ⟨_, rfl⟩
            have nu3 : Nw wq2 u3 := by rw [← hu3]; exact (nu2).alloc _
            have mu3 : Nw (u2) u3 := by rw [← hu3]; exact nwa _ _
            rw [hu3] at c84 ⊢
            obtain ⟨g84, hg84⟩ : ∃ q, q = (u2).heap.size := ⟨_, rfl⟩
            have l84 : g84 < u3.heap.size := by rw [hg84, ← hu3]; simp
            rw [← hg84] at c84 ⊢
            clear hu3
            have o82 := ownsRow_keep o82 (fun g hg => mu3.block g (o82.lt g hg).2 (fun f => f))
            have B80 : g80 ≤ u3.heap.size := Nat.le_trans B80 mu3.size
            refine hK.out _ _ (KP.out _ (nu3)) (fun hS0 => ?_)
            try simp only [Act.put, List.setIfInBounds_toArray, List.set_cons_zero, List.set_cons_succ]
            refine wpAnyH_ready (rs := [6]) (by kernel_rfl) (by simp) ?_
            refine AllReadyH.cons rfl (fun K' hK => ?_) AllReadyH.nil
            show if Region.wanted (Oper.mk _ _ _ _ _ _) _ = true then _ else _
            refine step_two rfl (.tmp 82) (.tmp 84) 41 rfl g80 24 i0 (.agg z32) 32 32 Tryd.underlying41 hi0 hz0 hz1 hz2 z32_size (by decide) (.slice xa (0 + tl) xc) (0 + tl) ([] ++ hsc (hss T)) (by kernel_rfl) o82 ⟨g84, 0, none⟩ 1 1 (hbs A1).toList (by kernel_rfl) (by rw [Array.length_toList, hA1]) c84 (hbs_one _) (by unfold maxLen; omega) (by omega) (by have := B80; omega) ?_
            intro v85 u4 o85 t4
            have nu4 : Nw wq2 u4 := (nu3).trans t4.fr (fun j hj e => by have := (o82.lt j e).1; omega)
            obtain ⟨ya, yc, rfl⟩ := ownsRow_form o85
            refine hK.out _ _ (KP.out _ (nu4)) (fun hS0 => ?_)
            try simp only [Act.put, List.setIfInBounds_toArray, List.set_cons_zero, List.set_cons_succ]
            refine wpAnyH_ready (rs := [7]) (by kernel_rfl) (by simp) ?_
            refine AllReadyH.cons rfl (fun K' hK => ?_) AllReadyH.nil
            go_simp
            go_wp2_with (go_at_call 21; refine (QL.out _ _ _ _ nu4 (by omega)).mono ?_; rintro ew wz ⟨rfl, mz⟩)
            have nz : Nw wq2 wz := (nu4).tr mz
            refine hK.out _ _ (KP.out _ (nz)) (fun hS0 => ?_)
            try simp only [Act.put, List.setIfInBounds_toArray, List.set_cons_zero, List.set_cons_succ]
            refine wpAnyH_take (i := 8) (oi := Oper.mk (some 78) _ _ _ _ _) (v := .tuple #[.pointer none, sen (a 1)]) rfl (by kernel_rfl) (by kernel_rfl) (by kernel_rfl) (fun _ _ _ h => h) (Or.inl ⟨by kernel_rfl, by intro w hw; go_simp⟩) hS0 ?_
            try simp only [Act.put, List.setIfInBounds_toArray, List.set_cons_zero, List.set_cons_succ]
            refine wpAnyH_take (i := 9) (oi := Oper.mk (some 87) _ _ _ _ _) (v := .pointer none) rfl (by kernel_rfl) (by kernel_rfl) (by kernel_rfl) (fun _ _ _ h => h) (Or.inl ⟨by kernel_rfl, by intro w hw; go_simp⟩) hS0 ?_
            try simp only [Act.put, List.setIfInBounds_toArray, List.set_cons_zero, List.set_cons_succ]
            refine wpAnyH_take (i := 10) (oi := Oper.mk (some 88) _ _ _ _ _) (v := sen (a 1)) rfl (by kernel_rfl) (by kernel_rfl) (by kernel_rfl) (fun _ _ _ h => h) (Or.inl ⟨by kernel_rfl, by intro w hw; go_simp⟩) hS0 ?_
            try simp only [Act.put, List.setIfInBounds_toArray, List.set_cons_zero, List.set_cons_succ]
            refine wpAnyH_ready (rs := [11]) (by kernel_rfl) (by simp) ?_
            refine AllReadyH.cons rfl (fun K' hK => ?_) AllReadyH.nil
            go_simp
            refine hK.out _ _ (KP.out _ (nz)) (fun hS0 => ?_)
            try simp only [Act.put, List.setIfInBounds_toArray, List.set_cons_zero, List.set_cons_succ]
            refine wpAnyH_ready (rs := [12]) (by kernel_rfl) (by simp) ?_
            refine AllReadyH.cons rfl (fun K' hK => ?_) AllReadyH.nil
            go_simp
            refine hK.out _ _ (KP.out _ (nz)) (fun hS0 => ?_)
            try simp only [Act.put, List.setIfInBounds_toArray, List.set_cons_zero, List.set_cons_succ]
            refine wpAnyH_done (by kernel_rfl) ?_ _
            try go_wp2_with fail
            go_meet
            exact ⟨rfl, rfl, NX.out.tr nz⟩
          · show if Region.wanted (Oper.mk _ _ _ _ _ _) _ = true then _ else _
            refine step_build1 rfl (.tmp 83) 41 24 rfl (hbs A1) (by kernel_rfl) (build1 (hbs A1) hA1) ?_
            have c84 := hash_new (u1) (hbs A1) 24
            obtain ⟨u2, hu2⟩ : ∃ q, (u1).alloc (.cells (hbs A1) 24) = q := ⟨_, rfl⟩
            have nu2 : Nw wq2 u2 := by rw [← hu2]; exact (nu1).alloc _
            have mu2 : Nw (u1) u2 := by rw [← hu2]; exact nwa _ _
            rw [hu2] at c84 ⊢
            obtain ⟨g84, hg84⟩ : ∃ q, q = (u1).heap.size := ⟨_, rfl⟩
            have l84 : g84 < u2.heap.size := by rw [hg84, ← hu2]; simp
            rw [← hg84] at c84 ⊢
            clear hu2
            have hgne : g84 ≠ g80 := by have := (o80.lt g80 rfl).2; omega
            have o80 := ownsRow_keep o80 (fun g hg => mu2.block g (o80.lt g hg).2 (fun f => f))
            have B80 : g80 ≤ u2.heap.size := Nat.le_trans B80 mu2.size
            clear hg84
            refine hK.out _ _ (KP.out _ (nu2)) (fun hS0 => ?_)
            try simp only [Act.put, List.setIfInBounds_toArray, List.set_cons_zero, List.set_cons_succ]
            refine wpAnyH_ready (rs := [3]) (by kernel_rfl) (by simp) ?_
            refine AllReadyH.cons rfl (fun K' hK => ?_) AllReadyH.nil
            show if Region.wanted (Oper.mk _ _ _ _ _ _) _ = true then _ else _
            refine step_two rfl (.tmp 80) (.tmp 81) 41 rfl g80 24 i0 (.agg z32) 32 32 Tryd.underlying41 hi0 hz0 hz1 hz2 z32_size (by decide) (.slice (some ⟨g80, 0, none⟩) 0 0) 0 [] (by kernel_rfl) o80 ⟨hg, 0, none⟩ tl hc (hsc (hss T)) (by kernel_rfl) CL.out (CW.out _ nu2) C1.out (by unfold maxLen; omega) (by omega) (by have := (o80.lt g80 rfl).2; omega) ?_
            intro v82 u3 o82 t3
            have nu3 : Nw wq2 u3 := (nu2).trans t3.fr (fun j hj e => by simp only [Value.ownBlock, Option.some.injEq] at e; omega)
            have c84 : ∀ j u, (hbs A1).toList[j]? = some u → u3.cell? ((⟨g84, 0, none⟩ : Addr).add j) = some u := fun j u hu => by
              have q := c84 j u hu
              rw [addZ] at q ⊢
              exact (t3.fr.cell (p := ⟨g84, j, none⟩) (World.block_lt_of_cell? _ _ q) (fun e => by simp only [Value.ownBlock, Option.some.injEq] at e; omega)).trans q
            obtain ⟨xa, xc, rfl⟩ := ownsRow_form o82
            have B80 : g80 ≤ u3.heap.size := Nat.le_trans B80 t3.fr.size
            refine hK.out _ _ (KP.out _ (nu3)) (fun hS0 => ?_)
            try simp only [Act.put, List.setIfInBounds_toArray, List.set_cons_zero, List.set_cons_succ]
            refine wpAnyH_ready (rs := [6]) (by kernel_rfl) (by simp) ?_
            refine AllReadyH.cons rfl (fun K' hK => ?_) AllReadyH.nil
            show if Region.wanted (Oper.mk _ _ _ _ _ _) _ = true then _ else _
            refine step_two rfl (.tmp 82) (.tmp 84) 41 rfl g80 24 i0 (.agg z32) 32 32 Tryd.underlying41 hi0 hz0 hz1 hz2 z32_size (by decide) (.slice xa (0 + tl) xc) (0 + tl) ([] ++ hsc (hss T)) (by kernel_rfl) o82 ⟨g84, 0, none⟩ 1 1 (hbs A1).toList (by kernel_rfl) (by rw [Array.length_toList, hA1]) c84 (hbs_one _) (by unfold maxLen; omega) (by omega) (by have := B80; omega) ?_
            intro v85 u4 o85 t4
            have nu4 : Nw wq2 u4 := (nu3).trans t4.fr (fun j hj e => by have := (o82.lt j e).1; omega)
            obtain ⟨ya, yc, rfl⟩ := ownsRow_form o85
            refine hK.out _ _ (KP.out _ (nu4)) (fun hS0 => ?_)
            try simp only [Act.put, List.setIfInBounds_toArray, List.set_cons_zero, List.set_cons_succ]
            refine wpAnyH_ready (rs := [7]) (by kernel_rfl) (by simp) ?_
            refine AllReadyH.cons rfl (fun K' hK => ?_) AllReadyH.nil
            go_simp
            go_wp2_with (go_at_call 21; refine (QL.out _ _ _ _ nu4 (by omega)).mono ?_; rintro ew wz ⟨rfl, mz⟩)
            have nz : Nw wq2 wz := (nu4).tr mz
            refine hK.out _ _ (KP.out _ (nz)) (fun hS0 => ?_)
            try simp only [Act.put, List.setIfInBounds_toArray, List.set_cons_zero, List.set_cons_succ]
            refine wpAnyH_take (i := 8) (oi := Oper.mk (some 78) _ _ _ _ _) (v := .tuple #[.pointer none, sen (a 1)]) rfl (by kernel_rfl) (by kernel_rfl) (by kernel_rfl) (fun _ _ _ h => h) (Or.inl ⟨by kernel_rfl, by intro w hw; go_simp⟩) hS0 ?_
            try simp only [Act.put, List.setIfInBounds_toArray, List.set_cons_zero, List.set_cons_succ]
            refine wpAnyH_take (i := 9) (oi := Oper.mk (some 87) _ _ _ _ _) (v := .pointer none) rfl (by kernel_rfl) (by kernel_rfl) (by kernel_rfl) (fun _ _ _ h => h) (Or.inl ⟨by kernel_rfl, by intro w hw; go_simp⟩) hS0 ?_
            try simp only [Act.put, List.setIfInBounds_toArray, List.set_cons_zero, List.set_cons_succ]
            refine wpAnyH_take (i := 10) (oi := Oper.mk (some 88) _ _ _ _ _) (v := sen (a 1)) rfl (by kernel_rfl) (by kernel_rfl) (by kernel_rfl) (fun _ _ _ h => h) (Or.inl ⟨by kernel_rfl, by intro w hw; go_simp⟩) hS0 ?_
            try simp only [Act.put, List.setIfInBounds_toArray, List.set_cons_zero, List.set_cons_succ]
            refine wpAnyH_ready (rs := [11]) (by kernel_rfl) (by simp) ?_
            refine AllReadyH.cons rfl (fun K' hK => ?_) AllReadyH.nil
            go_simp
            refine hK.out _ _ (KP.out _ (nz)) (fun hS0 => ?_)
            try simp only [Act.put, List.setIfInBounds_toArray, List.set_cons_zero, List.set_cons_succ]
            refine wpAnyH_ready (rs := [12]) (by kernel_rfl) (by simp) ?_
            refine AllReadyH.cons rfl (fun K' hK => ?_) AllReadyH.nil
            go_simp
            refine hK.out _ _ (KP.out _ (nz)) (fun hS0 => ?_)
            try simp only [Act.put, List.setIfInBounds_toArray, List.set_cons_zero, List.set_cons_succ]
            refine wpAnyH_done (by kernel_rfl) ?_ _
            try go_wp2_with fail
            go_meet
            exact ⟨rfl, rfl, NX.out.tr nz⟩
        · show if Region.wanted (Oper.mk _ _ _ _ _ _) _ = true then _ else _
          refine step_build1 rfl (.tmp 83) 41 24 rfl (hbs A1) (by kernel_rfl) (build1 (hbs A1) hA1) ?_
          have c84 := hash_new (wq2.drew) (hbs A1) 24
          obtain ⟨u1, hu1⟩ : ∃ q, (wq2.drew).alloc (.cells (hbs A1) 24) = q := ⟨_, rfl⟩
          have nu1 : Nw wq2 u1 := by rw [← hu1]; exact (nb).alloc _
          have mu1 : Nw (wq2.drew) u1 := by rw [← hu1]; exact nwa _ _
          rw [hu1] at c84 ⊢
          obtain ⟨g84, hg84⟩ : ∃ q, q = (wq2.drew).heap.size := ⟨_, rfl⟩
          have l84 : g84 < u1.heap.size := by rw [hg84, ← hu1]; simp
          rw [← hg84] at c84 ⊢
          clear hu1
          refine hK.out _ _ (KP.out _ (nu1)) (fun hS0 => ?_)
          try simp only [Act.put, List.setIfInBounds_toArray, List.set_cons_zero, List.set_cons_succ]
          refine wpAnyH_ready (rs := [1]) (by kernel_rfl) (by simp) ?_
          refine AllReadyH.cons rfl (fun K' hK => ?_) AllReadyH.nil
          show if Region.wanted (Oper.mk _ _ _ _ _ _) _ = true then _ else _
          refine step_build0 rfl 41 24 rfl build0h ?_
          have o80 := own_emptyh (u1)
          obtain ⟨u2, hu2⟩ : ∃ q, (u1).alloc (.cells #[] 24) = q := ⟨_, rfl⟩
          have nu2 : Nw wq2 u2 := by rw [← hu2]; exact (nu1).alloc _
          have mu2 : Nw (u1) u2 := by rw [← hu2]; exact nwa _ _
          rw [hu2] at o80 ⊢
          obtain ⟨g80, hg80⟩ : ∃ q, q = (u1).heap.size := ⟨_, rfl⟩
          have l80 : wq2.heap.size ≤ g80 := by have := (nu1).size; omega
          rw [← hg80] at o80 ⊢
          have hg80' : g84 < g80 := by omega
          clear hu2 hg80
          have hgne : g84 ≠ g80 := by omega
          have c84 : ∀ j u, (hbs A1).toList[j]? = some u → u2.cell? ((⟨g84, 0, none⟩ : Addr).add j) = some u := fun j u hu => mu2.cellOf (c84 j u hu)
          have B80 : g80 ≤ u2.heap.size := Nat.le_of_lt (o80.lt g80 rfl).2
          refine hK.out _ _ (KP.out _ (nu2)) (fun hS0 => ?_)
          try simp only [Act.put, List.setIfInBounds_toArray, List.set_cons_zero, List.set_cons_succ]
          refine wpAnyH_ready (rs := [3]) (by kernel_rfl) (by simp) ?_
          refine AllReadyH.cons rfl (fun K' hK => ?_) AllReadyH.nil
          show if Region.wanted (Oper.mk _ _ _ _ _ _) _ = true then _ else _
          refine step_two rfl (.tmp 80) (.tmp 81) 41 rfl g80 24 i0 (.agg z32) 32 32 Tryd.underlying41 hi0 hz0 hz1 hz2 z32_size (by decide) (.slice (some ⟨g80, 0, none⟩) 0 0) 0 [] (by kernel_rfl) o80 ⟨hg, 0, none⟩ tl hc (hsc (hss T)) (by kernel_rfl) CL.out (CW.out _ nu2) C1.out (by unfold maxLen; omega) (by omega) (by have := (o80.lt g80 rfl).2; omega) ?_
          intro v82 u3 o82 t3
          have nu3 : Nw wq2 u3 := (nu2).trans t3.fr (fun j hj e => by simp only [Value.ownBlock, Option.some.injEq] at e; omega)
          have c84 : ∀ j u, (hbs A1).toList[j]? = some u → u3.cell? ((⟨g84, 0, none⟩ : Addr).add j) = some u := fun j u hu => by
            have q := c84 j u hu
            rw [addZ] at q ⊢
            exact (t3.fr.cell (p := ⟨g84, j, none⟩) (World.block_lt_of_cell? _ _ q) (fun e => by simp only [Value.ownBlock, Option.some.injEq] at e; omega)).trans q
          obtain ⟨xa, xc, rfl⟩ := ownsRow_form o82
          have B80 : g80 ≤ u3.heap.size := Nat.le_trans B80 t3.fr.size
          refine hK.out _ _ (KP.out _ (nu3)) (fun hS0 => ?_)
          try simp only [Act.put, List.setIfInBounds_toArray, List.set_cons_zero, List.set_cons_succ]
          refine wpAnyH_ready (rs := [6]) (by kernel_rfl) (by simp) ?_
          refine AllReadyH.cons rfl (fun K' hK => ?_) AllReadyH.nil
          show if Region.wanted (Oper.mk _ _ _ _ _ _) _ = true then _ else _
          refine step_two rfl (.tmp 82) (.tmp 84) 41 rfl g80 24 i0 (.agg z32) 32 32 Tryd.underlying41 hi0 hz0 hz1 hz2 z32_size (by decide) (.slice xa (0 + tl) xc) (0 + tl) ([] ++ hsc (hss T)) (by kernel_rfl) o82 ⟨g84, 0, none⟩ 1 1 (hbs A1).toList (by kernel_rfl) (by rw [Array.length_toList, hA1]) c84 (hbs_one _) (by unfold maxLen; omega) (by omega) (by have := B80; omega) ?_
          intro v85 u4 o85 t4
          have nu4 : Nw wq2 u4 := (nu3).trans t4.fr (fun j hj e => by have := (o82.lt j e).1; omega)
          obtain ⟨ya, yc, rfl⟩ := ownsRow_form o85
          refine hK.out _ _ (KP.out _ (nu4)) (fun hS0 => ?_)
          try simp only [Act.put, List.setIfInBounds_toArray, List.set_cons_zero, List.set_cons_succ]
          refine wpAnyH_ready (rs := [7]) (by kernel_rfl) (by simp) ?_
          refine AllReadyH.cons rfl (fun K' hK => ?_) AllReadyH.nil
          go_simp
          go_wp2_with (go_at_call 21; refine (QL.out _ _ _ _ nu4 (by omega)).mono ?_; rintro ew wz ⟨rfl, mz⟩)
          have nz : Nw wq2 wz := (nu4).tr mz
          refine hK.out _ _ (KP.out _ (nz)) (fun hS0 => ?_)
          try simp only [Act.put, List.setIfInBounds_toArray, List.set_cons_zero, List.set_cons_succ]
          refine wpAnyH_take (i := 8) (oi := Oper.mk (some 78) _ _ _ _ _) (v := .tuple #[.pointer none, sen (a 1)]) rfl (by kernel_rfl) (by kernel_rfl) (by kernel_rfl) (fun _ _ _ h => h) (Or.inl ⟨by kernel_rfl, by intro w hw; go_simp⟩) hS0 ?_
          try simp only [Act.put, List.setIfInBounds_toArray, List.set_cons_zero, List.set_cons_succ]
          refine wpAnyH_take (i := 9) (oi := Oper.mk (some 87) _ _ _ _ _) (v := .pointer none) rfl (by kernel_rfl) (by kernel_rfl) (by kernel_rfl) (fun _ _ _ h => h) (Or.inl ⟨by kernel_rfl, by intro w hw; go_simp⟩) hS0 ?_
          try simp only [Act.put, List.setIfInBounds_toArray, List.set_cons_zero, List.set_cons_succ]
          refine wpAnyH_take (i := 10) (oi := Oper.mk (some 88) _ _ _ _ _) (v := sen (a 1)) rfl (by kernel_rfl) (by kernel_rfl) (by kernel_rfl) (fun _ _ _ h => h) (Or.inl ⟨by kernel_rfl, by intro w hw; go_simp⟩) hS0 ?_
          try simp only [Act.put, List.setIfInBounds_toArray, List.set_cons_zero, List.set_cons_succ]
          refine wpAnyH_ready (rs := [11]) (by kernel_rfl) (by simp) ?_
          refine AllReadyH.cons rfl (fun K' hK => ?_) AllReadyH.nil
          go_simp
          refine hK.out _ _ (KP.out _ (nz)) (fun hS0 => ?_)
          try simp only [Act.put, List.setIfInBounds_toArray, List.set_cons_zero, List.set_cons_succ]
          refine wpAnyH_ready (rs := [12]) (by kernel_rfl) (by simp) ?_
          refine AllReadyH.cons rfl (fun K' hK => ?_) AllReadyH.nil
          go_simp
          refine hK.out _ _ (KP.out _ (nz)) (fun hS0 => ?_)
          try simp only [Act.put, List.setIfInBounds_toArray, List.set_cons_zero, List.set_cons_succ]
          refine wpAnyH_done (by kernel_rfl) ?_ _
          try go_wp2_with fail
          go_meet
          exact ⟨rfl, rfl, NX.out.tr nz⟩
      case rest =>
        obtain ⟨rfl, rfl, hnx⟩ := hcut
        obtain ⟨wr, hwr⟩ : ∃ q, q = wc := ⟨_, rfl⟩
        subst hwr
        have NR : Hid (Nw w0 wr) := hnx
        clear hnx QL CW CL C1 KP BX OX NX BA
        have b5 : Hid (∀ W : World, (Instr.build 24 #[(0, .int .u8 5)]).run Tryd.prog W = .ok (.agg (hbs (h1 5))) W) := build_h1 5 5 rfl
        have b6 : Hid (∀ W : World, (Instr.build 24 #[(0, .int .u8 6)]).run Tryd.prog W = .ok (.agg (hbs (h1 6))) W) := build_h1 6 6 rfl
        have b7 : Hid (∀ W : World, (Instr.build 24 #[(0, .int .u8 7)]).run Tryd.prog W = .ok (.agg (hbs (h1 7))) W) := build_h1 7 7 rfl
        obtain ⟨A5, h5⟩ : ∃ A, A = h1 5 := ⟨_, rfl⟩
        obtain ⟨A6, h6⟩ : ∃ A, A = h1 6 := ⟨_, rfl⟩
        obtain ⟨A7, h7⟩ : ∃ A, A = h1 7 := ⟨_, rfl⟩
        have L5 : Hid (A5.length = 32) := by rw [h5]; exact h1_len _
        have L6 : Hid (A6.length = 32) := by rw [h6]; exact h1_len _
        have L7 : Hid (A7.length = 32) := by rw [h7]; exact h1_len _
        rw [← h5] at b5
        rw [← h6] at b6
        rw [← h7] at b7
        have s5 : (hbs A5).size = 32 := by rw [hbs_size, L5.out]
        have P1 : Hid (∀ x ∈ [A5], x.length = 32) := by intro x hx; simp only [List.mem_cons, List.not_mem_nil, or_false] at hx; rw [hx]; exact L5.out
        have QF : Hid (∀ V, Nw w0 V → Calls Tryd.prog 21 #[.agg #[.int .u64 9223372036854775807, .int .u64 9223372036854775808], .slice (some ⟨V.heap.size, 0, none⟩) 1 1] (V.alloc (.cells (hbs A5) 24)) fun x w' => ∃ fb base v, x = .returned (.tuple #[.pointer (some ⟨fb, 0, none⟩), .nilIface]) ∧ Rg w' fb base v 9223372036854775807 9223372036854775808 [⟨0, 9223372036854775807, A5⟩] ∧ Nw V w') := fun V nV => by
          have q := rload_yes (w := V.alloc (.cells (hbs A5) 24)) 9223372036854775807 9223372036854775808 (by decide) (by decide) _ [A5] P1.out (hss1 V A5 L5.out) (by rw [cov_last]; rfl) (HT.out.nw (nV.alloc _)) (HL.out.nw (nV.alloc _))
          rw [cov_last] at q
          exact q.mono (fun x w' ⟨fb, base, v, q1, q2, _, _, q3⟩ => ⟨fb, base, v, q1, q2, Nw.tr (nwa V _) q3⟩)
        obtain ⟨lt, hlt⟩ : ∃ lt, lt = 9223372036854775808 + off % 9223372036854775808 := ⟨_, rfl⟩
        have e9 : IntKind.u64.wrap (9223372036854775808 + (off : Int) % 9223372036854775808) = (lt : Int) := by rw [w64]; omega
        have HLT : Hid (9223372036854775808 ≤ lt ∧ lt < 18446744073709551616) := ⟨by omega, by omega⟩
        clear h5 h6 h7 hlt hA1 e0 e1 e2 hi hll
        go_wp2_with fail
        refine (QI2.out _ NR.out).mono ?_
        rintro e wa ⟨rfl, nz⟩
        have NN : Hid (Nw w0 wa) := NR.out.tr nz
        clear nz
        go_wp2_with first
          | refine wpl_build rfl 24 (.const (.int .u8 5)) rfl (.int .u8 5) rfl (hbs A5) b5.out ?_
          | refine wp_build1 rfl (.tmp 98) rfl (hbs A5) rfl s5 ?_
        refine (QF.out _ NN.out).mono ?_
        rintro e wb ⟨fb, base2, v2, rfl, R2, nz⟩
        have RF : Hid (Rg wb fb base2 v2 9223372036854775807 9223372036854775808 [⟨0, 9223372036854775807, A5⟩]) := R2
        have NB : Hid (Nw w0 wb) := NN.out.tr nz
        have q1 := rappend_lim RF.out (by decide) A6 L6.out (SS.out _ NB.out)
        clear nz R2
        go_wp2_with (refine wpl_buildg rfl 24 (.const (.int .u8 6)) rfl (.int .u8 6) rfl (hbs A6) b6.out ?_)
        refine q1.mono ?_
        rintro e wd ⟨rfl, nd⟩
        have ND : Hid (Nw wb wd) := nd
        clear nd q1
        go_wp2_with fail
        refine (QI4.out _ (NB.out.tr ND.out)).mono ?_
        rintro e we ⟨rfl, nd⟩
        have NE : Hid (Nw wb we) := ND.out.tr nd
        clear nd
        have q2 := rhashes_full (RF.out.nw NE.out) (by simp)
        go_wp2_with fail
        refine q2.mono ?_
        rintro e wf ⟨fg, fc, rfl, of, nf⟩
        have HF : Hid (Hss wf (.slice (some ⟨fg, 0, none⟩) 1 fc) [A5]) := Hss.of P1.out of
        have NF : Hid (Nw w0 wf) := (NB.out.tr NE.out).tr nf
        have q3 : Hid (Calls Tryd.prog 22 #[.slice (some ⟨fg, 0, none⟩) 1 fc, .slice (some ⟨wf.heap.size, 0, none⟩) 1 1] (wf.alloc (.cells (hbs A5) 24)) fun e w' => e = .returned (.bool true) ∧ Nw (wf.alloc (.cells (hbs A5) 24)) w') := sameh_yes _ _ [A5] P1.out _ (HF.out.nw P1.out (nwa wf _)) (hss1 wf A5 L5.out) (by simp)
        clear q2 of nf
        rw [show [(⟨0, 9223372036854775807, A5⟩ : Tre)].length = 1 from rfl]
        go_wp2_with first
          | refine wpl_buildg rfl 24 (.const (.int .u8 5)) rfl (.int .u8 5) rfl (hbs A5) b5.out ?_
          | refine wp_build1g rfl (.tmp 119) rfl (hbs A5) rfl s5 ?_
        refine q3.out.mono ?_
        rintro e wg ⟨rfl, ng⟩
        have NG : Hid (Nw w0 wg) := NF.out.tr (Nw.tr (nwa wf _) ng)
        clear ng q3
        have q4 := rnew_any lt HLT.out.2 wg (HL.out.nw NG.out)
        go_wp2_with fail
        refine q4.mono ?_
        rintro e wh ⟨rfl, gh, _, nh⟩
        obtain ⟨lb, hlb⟩ : ∃ q, q = wg.heap.size := ⟨_, rfl⟩
        rw [← hlb] at gh ⊢
        have GH : Hid (Rg wh lb (lb + 1) (.slice none 0 0) lt lt []) := gh
        have NH : Hid (Nw w0 wh) := NG.out.tr nh
        have q5 := rappend_lim GH.out HLT.out.1 A7 L7.out (SS.out _ NH.out)
        clear gh nh q4 hlb
        go_wp2_with (refine wpl_buildg rfl 24 (.const (.int .u8 7)) rfl (.int .u8 7) rfl (hbs A7) b7.out ?_)
        refine q5.mono ?_
        rintro e wi ⟨rfl, ni⟩
        have NI : Hid (Nw wh wi) := ni
        clear ni q5
        go_wp2_with fail
        refine (QI4.out _ (NH.out.tr NI.out)).mono ?_
        rintro e wj ⟨rfl, nj⟩
        have NJ : Hid (Nw wh wj) := NI.out.tr nj
        clear nj
        have q6 := rhashes_full (GH.out.nw NJ.out) (by simp)
        go_wp2_with fail
        refine q6.mono ?_
        rintro e wk ⟨kg, kc, rfl, ok, nk⟩
        have NK : Hid (Nw w0 wk) := (NH.out.tr NJ.out).tr nk
        clear q6 ok nk
        rw [show ([] : List Tre).length = 0 from rfl]
        go_wp2_with fail
        refine (QA.out _ NK.out).mono ?_
        rintro e wl ⟨rfl, nl⟩
        go_wp2
        go_ret
        exact ⟨rfl, NK.out.tr nl⟩
end Go.Proofs.YthbimomhbeoieaaDoor
