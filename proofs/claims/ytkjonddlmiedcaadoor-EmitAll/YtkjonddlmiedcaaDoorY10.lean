/- emit: some answers that the document fixes. -/
import Derived.Test.YtkjonddlmiedcaaDoorY9a
namespace Go.Proofs.YtkjonddlmiedcaaDoor
open Go.RowKit Go.Shelf
set_option linter.unusedVariables false
set_option linter.unusedSimpArgs false
/-- Rows of two kinds lie apart. -/
theorem row_ne {w : World} {b1 b2 : Nat} {e1 e2 : TypeId} {s1 s2 n1 n2 : Nat} {v1 v2 : Value} {x1 x2 : List Value} (h1 : w.ownsRow b1 e1 s1 v1 n1 x1) (h2 : w.ownsRow b2 e2 s2 v2 n2 x2) (hne : e1 ≠ e2) : ∀ g, v1.ownBlock = some g → v2.ownBlock ≠ some g := by
  intro g hg1 hg2
  rcases h1.2 with ⟨rfl, _⟩ | ⟨g1, c1, cur1, rfl, z1, z2⟩
  · simp [Value.ownBlock] at hg1
  · rcases h2.2 with ⟨rfl, _⟩ | ⟨g2, c2, cur2, rfl, y1, y2⟩
    · simp [Value.ownBlock] at hg2
    · simp only [Value.ownBlock, Option.some.injEq] at hg1 hg2
      subst hg1
      subst hg2
      have q := z2.1.symm.trans y2.1
      simp only [Option.some.injEq, Obj.cells.injEq] at q
      exact hne q.2.1
theorem isj {w : World} {B : Nat} {a : Nat → Addr} (hS : Sent B w a) (j : Nat) (hj : j < 16) (W : World) (hW : Nw w W) : Calls Tryd.prog 19 #[sen (a j), .int .i64 ((j + 1 : Nat) : Int)] W fun e w' => e = .returned (.bool true) ∧ Nw W w' := by
  have hsb : sameB (j + 1) none ((j + 1 : Nat) : Int) (-1) = true := by simp [sameB]
  have q := isE_any (hS.fr hW (fun _ _ f => f)) (show EV W a (sen (a j)) (j + 1) none from .inr (.inl ⟨j, hj, rfl, rfl, rfl⟩)) ((j + 1 : Nat) : Int)
  rw [hsb] at q
  exact q
section
variable {w : World} {o : Oper} {a : Act} {K : Act → Prop}
theorem quiet_zero (ho : o.op = .build 32 #[]) {C : World → Prop} (hk : K (a.put o.dst (.agg (hbs zh)))) : o.quiet Tryd.prog a C K := by
  refine quiet_val (.agg (hbs zh)) (fun W => ?_) hk
  unfold execOp
  simp only [ho, Sem.run_bind, Sem.run_pure, Result.andThen_ok, List.map_toArray, List.map_nil, build_zero W]
end
set_option maxRecDepth 100000 in
set_option maxHeartbeats 4000000 in
theorem alive10_any (w : World) (hL : Laid w) (hT : TabAt w) {B0 : Nat} {a : Nat → Addr} (hS : Sent B0 w a) :
    Calls Tryd.prog 4 #[] w fun e w' => e = .returned (.bool true) ∧ Nw w w' := by
  have HL : Hid (Laid w) := hL
  have q0 := enew_any w hL
  have QE : Hid (∀ V, Nw w V → Calls Tryd.prog 15 #[] V fun e w' => e = .returned (.agg (hbs (Sh []))) ∧ Nw V w') := fun V nV => empty_any V (HL.out.nw nV)
  obtain ⟨Z, hZ⟩ : ∃ Z, Z = Sh [] := ⟨_, rfl⟩
  rw [← hZ] at QE
  have Z32 : Hid (Z.length = 32) := by rw [hZ]; exact Sh_len _
  have hZs : (hbs Z).size = 32 := by rw [hbs_size, Z32.out]
  have HZ : Hid (Z = Sh []) := hZ
  have ZD : Hid (Z.getD 0 0 ≠ zh.getD 0 0) := by rw [hZ]; exact em_first
  have zh32 : zh.length = 32 := by simp
  obtain ⟨X, hX⟩ : ∃ X, X = Sh [0, 97] := ⟨_, rfl⟩
  obtain ⟨Y, hY⟩ : ∃ Y, Y = Sh [0, 98] := ⟨_, rfl⟩
  have X32 : Hid (X.length = 32) := by rw [hX]; exact Sh_len _
  have Y32 : Hid (Y.length = 32) := by rw [hY]; exact Sh_len _
  have hXs : (hbs X).size = 32 := by rw [hbs_size, X32.out]
  have hYs : (hbs Y).size = 32 := by rw [hbs_size, Y32.out]
  have QA : Hid (∀ V, Nw w V → Calls Tryd.prog 16 #[.string ⟨#[97]⟩] V fun e w' => e = .returned (.agg (hbs X)) ∧ Nw V w') := fun V nV => by rw [hX]; exact leaf_any ⟨#[97]⟩ V (HL.out.nw nV) (by decide)
  have QB : Hid (∀ V, Nw w V → Calls Tryd.prog 16 #[.string ⟨#[98]⟩] V fun e w' => e = .returned (.agg (hbs Y)) ∧ Nw V w') := fun V nV => by rw [hY]; exact leaf_any ⟨#[98]⟩ V (HL.out.nw nV) (by decide)
  have XY : Hid ((nod X Y).getD 0 0 ≠ zh.getD 0 0) := by rw [hX, hY]; exact ab_first
  clear hL hZ hX hY
  go_enter Tryd.func4, Tryd.ntmps4
  go_wp2_with fail
  refine q0.mono ?_
  rintro e w1 ⟨rfl, g1, s1, n1⟩
  clear q0
  obtain ⟨rb, hrb⟩ : ∃ rb, rb = w.heap.size := ⟨_, rfl⟩
  rw [← hrb] at g1 s1 ⊢
  have HRB : Hid (rb = w.heap.size) := hrb
  have S1 : Hid (w1.heap.size = rb + 1) := s1
  have G1 : Hid (Bd w1 rb (rb + 1) (.slice none 0 0) 0 []) := g1
  have N1 : Hid (Nw w w1) := n1
  clear hrb s1 g1 n1
  have q1 := eroot_empty G1.out (HL.out.nw N1.out)
  rw [← HZ.out] at q1
  go_wp2_with fail
  refine q1.mono ?_
  rintro e w2 ⟨rfl, n2⟩
  have N2 : Hid (Nw w1 w2) := n2
  clear n2 q1
  go_wp2_with fail
  refine (QE.out _ (N1.out.tr N2.out)).mono ?_
  rintro e w3 ⟨rfl, n3⟩
  have N3 : Hid (Nw w1 w3) := N2.out.tr n3
  clear n3 N2
  go_wp2_with (refine wpl_neq rfl (.tmp 16) (.tmp 17) rfl Z Z32.out rfl rfl ?_)
  refine (QE.out _ (N1.out.tr N3.out)).mono ?_
  rintro e w4 ⟨rfl, n4⟩
  have N4 : Hid (Nw w1 w4) := N3.out.tr n4
  clear n4 N3
  go_wp2_with first
    | refine wpl_zero rfl rfl ?_
    | refine wpl_eql_dif rfl (.tmp 21) (.tmp 22) rfl Z zh Z32.out zh32 ZD.out rfl rfl ?_
  refine (QA.out _ (N1.out.tr N4.out)).mono ?_
  rintro e w5 ⟨rfl, n5⟩
  have N5 : Hid (Nw w1 w5) := N4.out.tr n5
  clear n5 N4
  go_wp2_with (refine wp_store_agg rfl (.tmp 2) (.tmp 25) 32 32 rfl Tryd.sizeOf32 w5.heap.size 0 rfl _ 32 (heap_new _ _) (hbs X) rfl hXs (hbs_one _) (by decide) (hbs X) (by simp) ?_; intro w6 j6 f6 zz; clear zz; have N6 : Hid (Nw w1 w6) := (N5.out.alloc _).trans f6 (fun k hk q => by have := N5.out.size; omega); have J6 : Hid (w6.heap[w5.heap.size]? = some (.cells (hbs X) 32 (0, 0))) := j6; clear j6 f6)
  refine (QB.out _ (N1.out.tr N6.out)).mono ?_
  rintro e w7 ⟨rfl, n7⟩
  have N7 : Hid (Nw w1 w7) := N6.out.tr n7
  have J7 : Hid (w7.heap[w5.heap.size]? = some (.cells (hbs X) 32)) := (n7.block _ (heap_lt J6.out) (fun f => f)).trans J6.out
  clear n7 J6
  go_wp2_with first
    | (refine wp_store_agg rfl (.tmp 3) (.tmp 26) 32 32 rfl Tryd.sizeOf32 w7.heap.size 0 rfl _ 32 (heap_new _ _) (hbs Y) rfl hYs (hbs_one _) (by decide) (hbs Y) (by simp) ?_; intro w8 j8 f8 zz; clear zz; have N8 : Hid (Nw w1 w8) := (N7.out.alloc _).trans f8 (fun k hk q => by have := N7.out.size; omega); have J8 : Hid (w8.heap[w5.heap.size]? = some (.cells (hbs X) 32)) := (((nwa w7 _).trans f8 (fun k hk q => by omega) : Nw w7 w8).block _ (heap_lt J7.out) (fun f => f)).trans J7.out; have I8 : Hid (w8.heap[w7.heap.size]? = some (.cells (hbs Y) 32 (0, 0))) := j8; clear j8 f8)
    | refine wpl_load rfl (.tmp 2) rfl w5.heap.size 0 rfl X X32.out (hash_cells J8.out) ?_
  obtain ⟨bx, hbx⟩ : ∃ q, q = w5.heap.size := ⟨_, rfl⟩
  obtain ⟨vy, hvy⟩ : ∃ q, q = w7.heap.size := ⟨_, rfl⟩
  rw [← hbx] at J8 ⊢
  rw [← hvy] at I8 ⊢
  have LT8 : Hid (rb < bx ∧ rb < vy ∧ bx < w8.heap.size ∧ vy < w8.heap.size) := by
    have := heap_lt J8.out; have := heap_lt I8.out; have := N5.out.size; have := N7.out.size; have := S1.out
    exact ⟨by omega, by omega, by omega, by omega⟩
  clear hbx hvy N5 N6 N7 J7
  have HT : Hid (TabAt w) := hT
  have HSS : Hid (Sent B0 w a) := hS
  clear hT hS
  have N8w : Hid (Nw w w8) := N1.out.tr N8.out
  have q9 := eadd_any (G1.out.nw N8.out) (by decide) X X32.out 0 (by decide) (by simp) (fun i hi => by omega) (by simp) (HL.out.nw N8w.out) (HT.out.nw N8w.out)
  refine q9.mono ?_
  clear q9
  rintro e w9 ⟨tv, v9, rfl, o9, b9, s9, f9⟩
  obtain ⟨ta, tc, rfl⟩ := ownsRow_form o9
  have B9 : Hid (Bd w9 rb (rb + 1) v9 1 [X]) := b9
  have O9 : Hid (w9.ownsRow w8.heap.size 38 34 (.slice ta 1 tc) 1 (tsc [⟨0, 0, X⟩])) := o9
  have F9 : Hid (Fr (fun k => k = rb) w8 w9) := f9.mono (fun k _ q => q.elim id (fun q => by simp [Value.ownBlock] at q))
  have S9 : Hid (∀ g, v9.ownBlock = some g → w8.heap.size ≤ g) := fun g hg => by
    rcases s9 with q | ⟨g', q, q2⟩
    · rw [hg] at q; simp [Value.ownBlock] at q
    · rw [hg] at q; cases q; exact q2
  have I9 : Hid (w9.heap[vy]? = some (.cells (hbs Y) 32)) := (F9.out.block _ (heap_lt I8.out) (fun q => by have := LT8.out; omega)).trans I8.out
  have J9 : Hid (w9.heap[bx]? = some (.cells (hbs X) 32)) := (F9.out.block _ (heap_lt J8.out) (fun q => by have := LT8.out; omega)).trans J8.out
  have N9w : Hid (Nw w w9) := N8w.out.trans F9.out (fun k hk q => by have := HRB.out; omega)
  clear o9 b9 s9 f9 I8 J8
  have q10 := eadd_any B9.out (by decide) Y Y32.out 1 (by decide) (by simp) (fun i hi => by obtain rfl : i = 0 := (by omega); exact ⟨by unfold may; decide, by decide⟩) (by simp) (HL.out.nw N9w.out) (HT.out.nw N9w.out)
  go_wp2_with (refine wpl_load rfl (.tmp 3) rfl vy 0 rfl Y Y32.out (hash_cells I9.out) ?_)
  refine q10.mono ?_
  clear q10
  rintro e wa ⟨tv, va, rfl, oa, ba, sa, fa⟩
  obtain ⟨ua, uc, rfl⟩ := ownsRow_form oa
  obtain ⟨M, hM⟩ : ∃ M, M = nod X Y := ⟨_, rfl⟩
  have HM : Hid (M = nod X Y) := hM
  have Ba : Hid (Bd wa rb (rb + 1) va 2 [M]) := by rw [hM]; exact ba
  have Oa : Hid (wa.ownsRow w9.heap.size 38 34 (.slice ua 2 uc) 2 (tsc [⟨0, 1, Y⟩, ⟨1, 0, M⟩])) := by rw [hM]; exact oa
  have Fa : Hid (Fr (fun k => k = rb ∨ v9.ownBlock = some k) w9 wa) := fa
  have M32 : Hid (M.length = 32) := by rw [hM]; exact Sh_len _
  have MD : Hid (M.getD 0 0 ≠ zh.getD 0 0) := by rw [hM]; exact XY.out
  have Pa : Hid (wa.ownsRow w8.heap.size 38 34 (.slice ta 1 tc) 1 (tsc [⟨0, 0, X⟩])) := ownsRow_keep O9.out (fun g hg => Fa.out.block g (O9.out.lt g hg).2 (fun q => by
    rcases q with q | q
    · have := (O9.out.lt g hg).1; have := LT8.out; omega
    · exact row_ne O9.out B9.out.own (by decide) g hg q))
  have Ia : Hid (wa.heap[vy]? = some (.cells (hbs Y) 32)) := (Fa.out.block _ (heap_lt I9.out) (fun q => by have := LT8.out; rcases q with q | q; omega; have := S9.out _ q; omega)).trans I9.out
  have Ja : Hid (wa.heap[bx]? = some (.cells (hbs X) 32)) := (Fa.out.block _ (heap_lt J9.out) (fun q => by have := LT8.out; rcases q with q | q; omega; have := S9.out _ q; omega)).trans J9.out
  have Naw : Hid (Nw w wa) := N9w.out.trans Fa.out (fun k hk q => by have := HRB.out; have := N8w.out.size; rcases q with q | q; omega; have := S9.out _ q; omega)
  have QM : Hid (∀ V, Nw w V → Calls Tryd.prog 12 #[.agg (hbs X), .agg (hbs Y)] V fun e w' => e = .returned (.agg (hbs M)) ∧ Nw V w') := fun V nV => by rw [hM]; exact node_any X Y X32.out Y32.out V (HL.out.nw nV)
  clear oa ba sa fa hM I9 J9 O9
  go_wp2_with first
    | refine wpl_load rfl (.tmp 2) rfl bx 0 rfl X X32.out (hash_cells Ja.out) ?_
    | refine wpl_load rfl (.tmp 3) rfl vy 0 rfl Y Y32.out (hash_cells Ia.out) ?_
  refine (QM.out _ Naw.out).mono ?_
  rintro e wb ⟨rfl, nb⟩
  have hMs : (hbs M).size = 32 := by rw [hbs_size, M32.out]
  have hn0 : ∀ W : World, (binOp .neq 28 .nilIface .nilIface).run Tryd.prog W = .ok (.bool false) W := fun W => by kernel_rfl
  have NB : Hid (Nw wa wb) := nb
  clear nb
  go_wp2_with first
    | (refine wp_store_agg rfl (.tmp 8) (.tmp 41) 32 32 rfl Tryd.sizeOf32 wb.heap.size 0 rfl _ 32 (heap_new _ _) (hbs M) rfl hMs (hbs_one _) (by decide) (hbs M) (by simp) ?_; intro wc jc fc zz; clear zz; have NC : Hid (Nw wa wc) := (NB.out.alloc _).trans fc (fun k hk q => by have := NB.out.size; omega); have MC : Hid (wc.heap[wb.heap.size]? = some (.cells (hbs M) 32 (0, 0))) := jc; clear jc fc)
    | refine wpl_load rfl (.tmp 2) rfl bx 0 rfl X X32.out (hash_cells ((NC.out.block _ (heap_lt Ja.out) (fun f => f)).trans Ja.out)) ?_
    | refine wpw_node0 rfl (.tmp 50) rfl X X32.out rfl ?_
    | refine wpw_row1 rfl (.tmp 51) rfl (Tre.mk 0 0 X).c (Tre.size X32.out) rfl ?_
  have P1 : Hid (∀ x ∈ [Tre.mk 0 0 X], x.H.length = 32) := by intro x hx; simp only [List.mem_singleton] at hx; subst hx; exact X32.out
  have P2 : Hid (∀ x ∈ [Tre.mk 0 1 Y, Tre.mk 1 0 M], x.H.length = 32) := by intro x hx; simp only [List.mem_cons, List.not_mem_nil, or_false] at hx; rcases hx with rfl | rfl; exact Y32.out; exact M32.out
  have R1 : Hid (Nds wa (.slice ta 1 tc) [Tre.mk 0 0 X]) := Nds.of P1.out Pa.out
  have R2 : Hid (Nds wa (.slice ua 2 uc) [Tre.mk 0 1 Y, Tre.mk 1 0 M]) := Nds.of P2.out Oa.out
  obtain ⟨bm, hbm⟩ : ∃ q, q = wb.heap.size := ⟨_, rfl⟩
  rw [← hbm] at MC ⊢
  clear hbm
  refine (samen_yes _ _ [Tre.mk 0 0 X] P1.out _ (R1.out.nw P1.out (NC.out.tr (nwa wc _))) (Nds.one wc _ X32.out) (by simp)).mono ?_
  rintro e wd ⟨rfl, nd⟩
  have ND : Hid (Nw wa wd) := (NC.out.tr (nwa wc _)).tr nd
  have MD2 : Hid (wd.heap[bm]? = some (.cells (hbs M) 32)) := (((nwa wc _).tr nd).block _ (heap_lt MC.out) (fun f => f)).trans MC.out
  clear nd
  go_wp2_with first
    | refine wpl_load rfl (.tmp 3) rfl vy 0 rfl Y Y32.out (hash_cells ((ND.out.block _ (heap_lt Ia.out) (fun f => f)).trans Ia.out)) ?_
    | refine wpl_load rfl (.tmp 8) rfl bm 0 rfl M M32.out (hash_cells MD2.out) ?_
    | refine wpw_node rfl (.tmp 58) (.tmp 59) rfl 0 1 Y Y32.out rfl rfl ?_
    | refine wpw_node rfl (.tmp 61) (.tmp 62) rfl 1 0 M M32.out rfl rfl ?_
    | refine wpw_row2 rfl (.tmp 60) (.tmp 63) rfl (Tre.mk 0 1 Y).c (Tre.mk 1 0 M).c (Tre.size Y32.out) (Tre.size M32.out) rfl rfl ?_
  refine (samen_yes _ _ [Tre.mk 0 1 Y, Tre.mk 1 0 M] P2.out _ (R2.out.nw P2.out (ND.out.tr (nwa wd _))) (Nds.two wd _ _ Y32.out M32.out) (by simp)).mono ?_
  rintro e we ⟨rfl, ne⟩
  have NE : Hid (Nw wa we) := (ND.out.tr (nwa wd _)).tr ne
  have ME : Hid (we.heap[bm]? = some (.cells (hbs M) 32)) := (((nwa wd _).tr ne).block _ (heap_lt MD2.out) (fun f => f)).trans MD2.out
  clear ne
  go_wp2_with fail
  have Nwe : Hid (Nw w we) := Naw.out.tr NE.out
  have q11 := eload_arg (w := we) 3 (by decide) none 0 0 (by decide) (HSS.out.fr Nwe.out (fun _ _ f => f))
  rw [show ((3 : Nat) : Int) = 3 from rfl] at q11
  refine q11.mono ?_
  clear q11
  rintro e wf ⟨rfl, nf⟩
  have NF : Hid (Nw wa wf) := NE.out.tr nf
  have MF : Hid (wf.heap[bm]? = some (.cells (hbs M) 32)) := (nf.block _ (heap_lt ME.out) (fun f => f)).trans ME.out
  have Nwf : Hid (Nw w wf) := Nwe.out.tr nf
  clear nf ME
  have QS : Hid (∀ V, Nw wf V → Calls Tryd.prog 13 #[.pointer (some ⟨rb, 0, none⟩)] V fun e w' => e = .returned (.int .u64 2) ∧ Nw V w') := fun V nV => (esize_any ((Ba.out.nw NF.out).nw nV)).mono (by rintro e w' ⟨rfl, rfl⟩; exact ⟨rfl, nwr _⟩)
  have QR : Hid (∀ V, Nw wf V → Calls Tryd.prog 14 #[.pointer (some ⟨rb, 0, none⟩)] V fun e w' => e = .returned (.agg (hbs M)) ∧ Nw V w') := fun V nV => eroot_some ((Ba.out.nw NF.out).nw nV) (by simp) (by simp) (HL.out.nw (Nwf.out.tr nV))
  have QI : Hid (∀ V, Nw wf V → Calls Tryd.prog 19 #[sen (a 1), .int .i64 2] V fun e w' => e = .returned (.bool true) ∧ Nw V w') := fun V nV => isj (HSS.out.fr Nwf.out (fun _ _ f => f)) 1 (by decide) V nV
  clear HM
  go_upto_region 12 with fail
  (refine wp_region_grown (by kernel_rfl) (by kernel_rfl) ?_; (repeat (first | go_big_quiet_skip | (go_big_quiet_want; first | (refine quiet_load (.tmp 8) rfl bm 0 rfl M M32.out (hash_cells MF.out) ?_; ((try simp only [Act.put, List.setIfInBounds_toArray, List.set_cons_zero, List.set_cons_succ]); go_big_quiet_on)) | (refine quiet_eql (.tmp 77) (.tmp 78) rfl M M32.out rfl rfl ?_; ((try simp only [Act.put, List.setIfInBounds_toArray, List.set_cons_zero, List.set_cons_succ]); go_big_quiet_on)) | (refine quiet_zero rfl ?_; ((try simp only [Act.put, List.setIfInBounds_toArray, List.set_cons_zero, List.set_cons_succ]); go_big_quiet_on)) | (refine quiet_neq_dif (.tmp 82) (.tmp 83) rfl M zh M32.out zh32 MD.out rfl rfl ?_; ((try simp only [Act.put, List.setIfInBounds_toArray, List.set_cons_zero, List.set_cons_succ]); go_big_quiet_on)) | (go_big_quiet_op; first | go_big_quiet_on | go_big_quiet_call (first | rfl | with_reducible exact grw_call QS.out (nwr _) _ | with_reducible exact grw_call QR.out (nwr _) _ | with_reducible exact grw_call QI.out (nwr _) _))))); refine wpQuiet_nil ?_; rintro W ⟨⟨_, nW⟩, rfl⟩)
  go_wp2
  go_ret
  exact ⟨rfl, Nwf.out.tr nW⟩
end Go.Proofs.YtkjonddlmiedcaaDoor
