/- tiled: the law's alive. -/
import Derived.Test.YtihmckficphccaaGreatDoorIhm
import Derived.Test.YtihmckficphccaaGreatDoorIk
import Derived.Test.YtihmckficphccaaGreatDoorLg1
import Derived.BigQuiet
namespace Go.Proofs.YtihmckficphccaaGreatDoor
open Go.RowKit
set_option linter.unusedVariables false
set_option linter.unusedSimpArgs false
theorem eqItems_difI (w : World) (A B : Array Value) (x y : Int) (hA : A[0]? = some (.int .u8 x)) (hB : B[0]? = some (.int .u8 y)) (hne : x ≠ y) (is : List Nat) : (Op.eqItems 9999 5 1 A B (0 :: is)).run Tryz.prog w = .ok false w := by
  have hp := run_part_plain w plain8 (xs := A) (off := 0 * 1) hA
  have hq := run_part_plain w plain8 (xs := B) (off := 0 * 1) hB
  have he : (Op.equalIn 9999 5 (.int .u8 x) (.int .u8 y)).run Tryz.prog w = .ok false w := by
    rw [run_equalIn_int w 9998 5 .u8 .u8 _ _ Tryz.underlying5]; simp [hne]
  simp only [Op.eqItems, Sem.run_bind, hp, hq, he, Result.andThen_ok, Bool.not_false, if_true, Sem.run_pure]
theorem hbs_difI (A B : List UInt8) (hA : A.length = 32) (hB : B.length = 32) (hne : A.getD 0 0 ≠ B.getD 0 0) (w : World) : (Op.equalIn 10000 64 (.agg (hbs A)) (.agg (hbs B))).run Tryz.prog w = .ok false w := by
  obtain ⟨i0, hi, _⟩ := Option.map_eq_some_iff.1 info8
  rw [run_equalIn_array w 9999 _ _ Tryz.underlying64 hi, cells5]
  exact eqItems_difI w _ _ _ _ (hbs_get A 0 (by omega)) (hbs_get B 0 (by omega)) (fun e => hne (UInt8.toNat_inj.1 (Int.ofNat_inj.1 e))) _
theorem hbs_neq_difI (A B : List UInt8) (hA : A.length = 32) (hB : B.length = 32) (hne : A.getD 0 0 ≠ B.getD 0 0) (w : World) : (binOp .neq 64 (.agg (hbs A)) (.agg (hbs B))).run Tryz.prog w = .ok (.bool true) w := by
  simp only [binOp]
  simp [Op.equal, Op.maxDepth, hbs_difI A B hA hB hne w]
section
variable {w : World} {o : Oper} {a : Act} {K : Act → Prop}
theorem quiet_neq_difI (x y : Operand) (ho : o.op = .binOp .neq 64 x y 64) (A B : List UInt8) (hA : A.length = 32) (hB : B.length = 32) (hne : A.getD 0 0 ≠ B.getD 0 0) (hx : a.eval x = .agg (hbs A)) (hy : a.eval y = .agg (hbs B)) {C : World → Prop} (hk : K (a.put o.dst (.bool true))) : o.quiet Tryz.prog a C K := by
  refine quiet_val (.bool true) (fun W => ?_) hk
  unfold execOp
  simp only [ho, hx, hy, run_eqGuard, hbs_neq_difI A B hA hB hne W, Sem.run_bind, Sem.run_pure, Result.andThen_ok]
theorem quiet_zeroI (ho : o.op = .build 64 #[]) {C : World → Prop} (hk : K (a.put o.dst (.agg (hbs zh)))) : o.quiet Tryz.prog a C K := by
  refine quiet_val (.agg (hbs zh)) (fun W => ?_) hk
  unfold execOp
  simp only [ho, Sem.run_bind, Sem.run_pure, Result.andThen_ok, List.map_toArray, List.map_nil, build_zero W]
end
theorem Sent.upI {B B' : Nat} {w : World} {a : Nat → Addr} (h : Sent B w a) (hB : B ≤ B') (hs : B' ≤ w.heap.size) : Sent B' w a :=
  { h with blk := fun i hi => ⟨Nat.lt_of_lt_of_le (h.blk i hi).1 hB, (h.blk i hi).2⟩, hB := Nat.le_trans h.hB hB, hsz := hs }
theorem Gd.upI {B : Nat} {w : World} {a : Nat → Addr} (h : Gd B a w) : Gd w.heap.size a w := Gd.of (h.s.upI h.s.hsz (Nat.le_refl _)) h.l h.pow
theorem evI {w : World} {a : Nat → Addr} (i : Nat) (hi : i < 16) : EV w a (sen (a i)) (i + 1) none := .inr (.inl ⟨i, hi, rfl, rfl, rfl⟩)
theorem is_senI {B : Nat} {w : World} {a : Nat → Addr} (hS : Sent B w a) (i : Nat) (hi : i < 16) {c : Int} (hc : c = (i + 1 : Nat)) :
    Calls Tryz.prog 19 #[sen (a i), .int .i64 c] w fun e w' => e = .returned (.bool true) ∧ Nw w w' := by
  have := isE_any hS (evI (w := w) (a := a) i hi) c
  have e : sameB (i + 1) none c (-1) = true := by simp [sameB, hc]
  rw [e] at this
  exact this
theorem spl2I : spl 2 = 1 := spl_of (k := 0) (by decide) (by decide)
theorem spl3I : spl 3 = 2 := spl_of (k := 1) (by decide) (by decide)
theorem pth203 : pth 2 0 3 = [(0, 2)] := by
  rw [pth_right (by decide) (by rw [show (3 : Nat) - 0 = 3 from rfl, spl3I]; decide), show (3 : Nat) - 0 = 3 from rfl, spl3I, show 0 + 2 = 2 from rfl, pth_one (by decide)]; rfl
theorem mth2I (x y : ByteArray) : mth [x, y] = Sh (1 :: (mth [x] ++ mth [y])) := by
  rw [mth_cut (by simp), show [x, y].length = 2 from rfl, spl2I]; rfl
theorem mth3I (x y z : ByteArray) : mth [x, y, z] = Sh (1 :: (mth [x, y] ++ mth [z])) := by
  rw [mth_cut (by simp), show [x, y, z].length = 3 from rfl, spl3I]; rfl
theorem cov03 : cov 0 3 = [(1, 0), (0, 2)] := (cov_uniq [(1, 0), (0, 2)] 0 3 ⟨by decide, by decide, rfl⟩ ⟨by decide, trivial⟩).symm
theorem cov02 : cov 0 2 = [(1, 0)] := (cov_uniq [(1, 0)] 0 2 ⟨by decide, rfl⟩ trivial).symm
abbrev aA : List UInt8 := Sh [0, 48]
abbrev aB : List UInt8 := Sh [0, 49]
abbrev aC : List UInt8 := Sh [0, 50]
abbrev aP : List UInt8 := Sh (1 :: (aA ++ aB))
abbrev aH : List UInt8 := Sh (1 :: (aP ++ aC))
theorem ldH3 : ldH 3 = [aA, aB, aC] := rfl
theorem phl3 : phL (ldH 3) (cov 0 3) = aH := by rw [cov03]; rfl
theorem phl2 : phL (ldH 3) (cov 0 2) = aP := by rw [cov02]; rfl
theorem mth_three : mth (sbl (ldS 3) 0 3) = aH := by
  show mth [dgS 0, dgS 1, dgS 2] = _
  rw [mth3I, mth2I, mth_one, mth_one, mth_one]; rfl
theorem aH_first : aH.getD 0 0 ≠ zh.getD 0 0 := by decide +kernel
end Go.Proofs.YtihmckficphccaaGreatDoor
namespace Go.Proofs.YtihmckficphccaaGreatDoor
open Go.RowKit
set_option linter.unusedVariables false
set_option linter.unusedSimpArgs false
set_option maxRecDepth 100000 in
set_option maxHeartbeats 4000000 in
theorem alive16_any {B : Nat} {w : World} {a : Nat → Addr} (hG : Gd B a w) (hT : TabAt w) : Calls Tryz.prog 6 #[] w fun e w' => e = .returned (.bool true) ∧ Nw w w' := by
  have GD : Hid (Gd w.heap.size a w) := hG.upI
  have HT : Hid (TabAt w) := hT
  have q1 := lying_any 3 (by omega) w GD.out (Nat.le_refl _)
  clear hG hT
  go_enter Tryz.func6, Tryz.ntmps6
  go_wp2_with fail
  refine q1.mono ?_
  rintro e w1 ⟨lb, base, v, b, bm, g, T, M, rfl, hlb, lg1, lt1, hld, hTT, hne, hsp, n1⟩
  have N1 : Hid (Nw w w1) := n1
  have LG1 : Hid (Lg w1 lb base v (ldS 3)) := lg1
  have SEP : Hid ((lb ≠ b ∧ lb ≠ bm ∧ lb ≠ g) ∧ (∀ q, v.ownBlock = some q → q ≠ b ∧ q ≠ bm ∧ q ≠ g)) := ⟨hne, hsp⟩
  have q2 := RS.made (K := 0) lt1.2.2.2 hld (ldH_32 3) lt1.2.2.1.2 ⟨lt1.1, lt1.2.1, lt1.2.2.1.1⟩ rfl (by simp) ⟨Int.le_refl _, Int.le_refl _⟩ 2 (by omega) (GD.out.nw n1).s
  clear q1 hlb lg1 lt1 hld hTT hne hsp n1
  go_wp2_with fail
  refine q2.mono ?_
  rintro e w2 ⟨s, rfl, A2, hsb, hbm, hzs, hcap, hrn, hx, hy, hM, hL, htg, n2⟩
  have HA2 : Hid (s.At (ldH 3) w.heap.size 0 w2) := A2
  have HZ : Hid (s.zs = [] ∧ s.x = 0) := ⟨hzs, hx⟩
  have N2 : Hid (Nw w w2) := N1.out.tr n2
  have LG2 : Hid (Lg w2 lb base v (ldS 3)) := LG1.out.nw n2
  have TG2 : Hid (s.tg lb = 9 ∧ ∀ q, v.ownBlock = some q → s.tg q = 9) := ⟨htg lb (heap_lt LG1.out.blk) SEP.out.1.1 SEP.out.1.2.1 SEP.out.1.2.2, fun q hq => htg q (LG1.out.own.lt q hq).2 (SEP.out.2 q hq).1 (SEP.out.2 q hq).2.1 (SEP.out.2 q hq).2.2⟩
  have q3 := gnew_yes A2 3 (by omega) (GD.out.nw N2.out).s
  obtain ⟨rb, hrb⟩ : ∃ x, x = s.rb := ⟨_, rfl⟩
  rw [← hrb] at q3 ⊢
  clear q2 A2 hsb hbm hzs hcap hrn hx hy hM hL htg n2 hrb
  go_wp2_with fail
  refine q3.mono ?_
  rintro e w3 ⟨eb, rfl, en3, heb, n3⟩
  have EN3 : Hid (Eng s w3 eb 3) := en3
  have N23 : Hid (Nw w2 w3) := n3
  have q4 := gnew_no (w := w3) (.inl rfl) 3 (GD.out.nw (N2.out.tr n3)).s
  clear q3 en3 heb n3
  go_wp2_with fail
  refine q4.mono ?_
  rintro e w4 ⟨rfl, n4⟩
  have N24 : Hid (Nw w2 w4) := N23.out.tr n4
  have N34 : Hid (Nw w3 w4) := n4
  have q5 := is_senI (GD.out.nw (N2.out.tr N24.out)).s 0 (by decide) (c := 1) (by decide)
  clear q4 n4
  go_wp2_with fail
  refine q5.mono ?_
  rintro e w5 ⟨rfl, n5⟩
  have N25 : Hid (Nw w2 w5) := N24.out.tr n5
  have EN5 : Hid (Eng s w5 eb (ldH 3).length) := (EN3.out.nw (N34.out.tr n5))
  have HA5 : Hid (s.At (ldH 3) w.heap.size 0 w5) := HA2.out.nw N25.out
  have N5 : Hid (Nw w w5) := N2.out.tr N25.out
  have LG5 : Hid (Lg w5 lb base v (ldS 3)) := LG2.out.nw N25.out
  have q6 := groot_any HA5.out EN5.out (by rw [ldH_len]; omega) 3 (by rw [ldH_len]; omega) (GD.out.nw N5.out) (HT.out.nw N5.out) HZ.out.1 (by omega)
  rw [phl3] at q6
  have hHs : (hbs aH).size = 32 := by rw [hbs_size, Sh_len]
  have HH : Hid (aH.length = 32 ∧ aH.getD 0 0 ≠ zh.getD 0 0) := ⟨Sh_len _, aH_first⟩
  have HMT := mth_three
  obtain ⟨H, hH⟩ : ∃ H, H = aH := ⟨_, rfl⟩
  rw [← hH] at q6 hHs HH HMT
  clear q5 n5 hH
  go_wp2_with fail
  refine q6.mono ?_
  rintro e w6 ⟨s6, rfl, an6⟩
  have AN6 : Hid (Ansd s s6 (ldH 3) w.heap.size 0 (tls (ldH 3).length (cov 0 3)).length w5 w6 eb) := an6
  have N6 : Hid (Nw w w6) := N5.out.trans an6.fr (fun k hk q => by have := HA5.out.bt k q; omega)
  have LG6 : Hid (Lg w6 lb base v (ldS 3)) := LG5.out.fr an6.fr (fun q => by have := TG2.out.1; unfold RS.Ff at q; omega) (fun g hg q => by have := TG2.out.2 g hg; unfold RS.Ff at q; omega)
  clear q6 an6
  go_wp2_with (refine wp_store_agg rfl (.tmp 10) (.tmp 59) 64 32 rfl Tryz.sizeOf64 w6.heap.size 0 rfl _ 64 (heap_new _ _) (hbs H) rfl hHs (hbs_one _) (by decide) (hbs H) (by simp) ?_; intro w7 j7 f7 zz; clear zz; have N67 : Hid (Nw w6 w7) := (Fr.alloc (Fr.refl _ w6) _).trans f7 (fun k hk q => by omega); have J7 : Hid (w7.heap[w6.heap.size]? = some (.cells (hbs H) 64 (0, 0))) := j7; clear j7 f7)
  have N7 : Hid (Nw w w7) := N6.out.tr N67.out
  have q7 := Root_any (LG6.out.nw N67.out) 3 (by omega) (GD.out.nw N7.out).l (GD.out.nw N7.out).s
  unfold treeA at q7
  rw [if_pos (by rw [ldS_len]; omega), HMT] at q7
  obtain ⟨h7, hh7⟩ : ∃ x, x = w6.heap.size := ⟨_, rfl⟩
  have HH7 : Hid (h7 = w6.heap.size) := hh7
  rw [← hh7] at J7 ⊢
  clear hh7 HMT
  refine q7.mono ?_
  rintro e w8 ⟨rfl, n8⟩
  have N68 : Hid (Nw w6 w8) := N67.out.tr n8
  have J8 : Hid (w8.heap[h7]? = some (.cells (hbs H) 64 (0, 0))) := (n8.block _ (heap_lt J7.out) (fun f => f)).trans J7.out
  clear q7 n8
  go_wp2_with (refine wp_store_agg rfl (.tmp 12) (.tmp 64) 64 32 rfl Tryz.sizeOf64 w8.heap.size 0 rfl _ 64 (heap_new _ _) (hbs H) rfl hHs (hbs_one _) (by decide) (hbs H) (by simp) ?_; intro w9 j9 f9 zz; clear zz; have N89 : Hid (Nw w8 w9) := (Fr.alloc (Fr.refl _ w8) _).trans f9 (fun k hk q => by omega); have J9 : Hid (w9.heap[w8.heap.size]? = some (.cells (hbs H) 64 (0, 0))) := j9; clear j9 f9)
  have N69 : Hid (Nw w6 w9) := N68.out.tr N89.out
  have J79 : Hid (w9.heap[h7]? = some (.cells (hbs H) 64 (0, 0))) := (N89.out.block _ (heap_lt J8.out) (fun f => f)).trans J8.out
  have N9 : Hid (Nw w w9) := N6.out.tr N69.out
  have HTN : Hid ((tls (ldH 3).length (cov 0 3)).length ≤ 1000) := Nat.le_trans (tls_len _ _) (Nat.le_trans (cov_len 0 3 (by decide)) (by omega))
  have q9 := gpath_any (AN6.out.at_.nw N69.out) (AN6.out.eng.nw N69.out) (by rw [ldH_len]; omega) 2 3 (by omega) (by rw [ldH_len]; omega) (GD.out.nw N9.out) (HT.out.nw N9.out) AN6.out.zs (by have := HTN.out; omega)
  rw [pth203] at q9
  have e9 : [((0 : Nat), (2 : Nat))].map (fun s => phL (ldH 3) (cvr s)) = [aP] := by show [phL (ldH 3) (cov 0 2)] = _; rw [phl2]
  rw [e9] at q9
  obtain ⟨h9, hh9⟩ : ∃ x, x = w8.heap.size := ⟨_, rfl⟩
  have HH9 : Hid (h9 = w8.heap.size) := hh9
  rw [← hh9] at J9 ⊢
  clear hh9 e9
  refine q9.mono ?_
  rintro e w10 ⟨s10, gp, cp, rfl, o10, ht10, an10⟩
  have FF : Hid (Fr s6.Ff w9 w10) := an10.fr
  have nf : ∀ k, w6.heap.size ≤ k → ¬ s6.Ff k := fun k hk q => by have := AN6.out.at_.nt k hk; unfold RS.Ff at q; omega
  have JA : Hid (w10.heap[h7]? = some (.cells (hbs H) 64 (0, 0))) := (FF.out.block _ (heap_lt J79.out) (nf _ (by have := HH7.out; omega))).trans J79.out
  have JB : Hid (w10.heap[h9]? = some (.cells (hbs H) 64 (0, 0))) := (FF.out.block _ (heap_lt J9.out) (nf _ (by have := HH9.out; have := N68.out.size; omega))).trans J9.out
  have N10 : Hid (Nw w w10) := N9.out.trans FF.out (fun k hk q => by have := AN6.out.at_.bt k q; omega)
  have CP : Hid (∀ j, j < 32 → w10.cell? ⟨gp, 0 + j, none⟩ = (hbs aP)[j]?) := fun j hj => by
    have := hss_atI (k := 0) (x := aP) (fun x hx => by simp at hx; rw [hx]; exact Sh_len _) rfl o10 rfl j hj
    simpa using this
  have hgp := (o10.lt gp rfl).2
  have Q0 : Hid (∀ V, Nw w10 V → Calls Tryz.prog 26 #[.string ⟨#[48]⟩] V fun e w' => e = .returned (.agg (hbs aA)) ∧ Nw V w') := fun V nV => leaf_any ⟨#[48]⟩ V (GD.out.nw (N10.out.tr nV)).l (by decide)
  have Q1 : Hid (∀ V, Nw w10 V → Calls Tryz.prog 26 #[.string ⟨#[49]⟩] V fun e w' => e = .returned (.agg (hbs aB)) ∧ Nw V w') := fun V nV => leaf_any ⟨#[49]⟩ V (GD.out.nw (N10.out.tr nV)).l (by decide)
  have QN : Hid (∀ V, Nw w10 V → Calls Tryz.prog 25 #[.agg (hbs aA), .agg (hbs aB)] V fun e w' => e = .returned (.agg (hbs aP)) ∧ Nw V w') := fun V nV => node_any _ _ (Sh_len _) (Sh_len _) V (GD.out.nw (N10.out.tr nV)).l
  have HPL : Hid (aP.length = 32) := Sh_len _
  have HZL : Hid (zh.length = 32) := rfl
  obtain ⟨P, hP⟩ : ∃ P, P = aP := ⟨_, rfl⟩
  rw [← hP] at CP QN HPL
  generalize aA = A at *
  generalize aB = B' at *
  clear q9 o10 ht10 an10 nf hP
  go_wp2_with fail
  (refine wp_region_grown (by kernel_rfl) (by kernel_rfl) ?_; (repeat (first | go_big_quiet_skip | (go_big_quiet_want; first | (refine quiet_load (.tmp 10) rfl h7 0 rfl H HH.out.1 (hash_cells JA.out) ?_; ((try simp only [Act.put, List.setIfInBounds_toArray, List.set_cons_zero, List.set_cons_succ]); go_big_quiet_on)) | (refine quiet_load (.tmp 12) rfl h9 0 rfl H HH.out.1 (hash_cells JB.out) ?_; ((try simp only [Act.put, List.setIfInBounds_toArray, List.set_cons_zero, List.set_cons_succ]); go_big_quiet_on)) | (refine quiet_zeroI rfl ?_; ((try simp only [Act.put, List.setIfInBounds_toArray, List.set_cons_zero, List.set_cons_succ]); go_big_quiet_on)) | (refine quiet_load (.tmp 98) rfl gp 0 rfl P HPL.out CP.out ?_; ((try simp only [Act.put, List.setIfInBounds_toArray, List.set_cons_zero, List.set_cons_succ]); go_big_quiet_on)) | (refine quiet_neq_difI (.tmp 87) (.tmp 88) rfl H zh HH.out.1 HZL.out HH.out.2 rfl rfl ?_; ((try simp only [Act.put, List.setIfInBounds_toArray, List.set_cons_zero, List.set_cons_succ]); go_big_quiet_on)) | (refine quiet_eql (.tmp 82) (.tmp 83) rfl H HH.out.1 rfl rfl ?_; ((try simp only [Act.put, List.setIfInBounds_toArray, List.set_cons_zero, List.set_cons_succ]); go_big_quiet_on)) | (refine quiet_eql (.tmp 99) (.tmp 102) rfl P HPL.out rfl rfl ?_; ((try simp only [Act.put, List.setIfInBounds_toArray, List.set_cons_zero, List.set_cons_succ]); go_big_quiet_on)) | (go_big_quiet_op; first | go_big_quiet_on | go_big_quiet_call (first | rfl | with_reducible exact grw_call Q0.out (Fr.refl _ w10) _ | with_reducible exact grw_call Q1.out (Fr.refl _ w10) _ | with_reducible exact grw_call QN.out (Fr.refl _ w10) _))))); refine wpQuiet_nil ?_; rintro W ⟨⟨_, nW⟩, rfl⟩)
  go_wp2
  go_ret
  exact ⟨rfl, N10.out.tr nW⟩
end Go.Proofs.YtihmckficphccaaGreatDoor
namespace Go.Proofs.YtihmckficphccaaGreatDoor
open Go.RowKit
set_option linter.unusedVariables false
set_option linter.unusedSimpArgs false
theorem wpl_neqI {w : World} {ops : Array Oper} {rest : List Oper} {o : Oper} {a : Act} {Q : Exit → Act → World → Prop} (hwant : Region.wanted o (yielded ops a.tmps) = true) (x y : Operand) (ho : o.op = .binOp .neq 64 x y 64) (A : List UInt8) (hA : A.length = 32) (hx : a.eval x = .agg (hbs A)) (hy : a.eval y = .agg (hbs A))
    (h : wpList Tryz.prog ops Q rest (a.put o.dst (.bool false)) w) : wpList Tryz.prog ops Q (o :: rest) a w := by
  refine wpList_step fun K hK => ?_
  rw [if_pos hwant]
  unfold Oper.wp execOp
  simp only [ho, hx, hy, run_eqGuard, hbs_neq A hA w, Sem.run_bind, Sem.run_pure, Result.andThen_ok]
  exact hK _ _ h
set_option maxRecDepth 100000 in
set_option maxHeartbeats 4000000 in
theorem none16_any {B : Nat} {w : World} {a : Nat → Addr} (hG : Gd B a w) (hT : TabAt w) (x y z : Nat) : Calls Tryz.prog 5 #[.int .u64 (x : Int), .int .u64 (y : Int), .int .u64 (z : Int)] w fun e w' => e = .returned (.bool true) ∧ Nw w w' := by
  have GD : Hid (Gd B a w) := hG
  have q1 := alive16_any hG hT
  clear hG hT
  go_enter Tryz.func5, Tryz.ntmps5
  go_wp2_with fail
  refine q1.mono ?_
  rintro e w1 ⟨rfl, n1⟩
  have N1 : Hid (Nw w w1) := n1
  clear n1 q1
  go_upto_region 5 with fail
  have h0 := heap_new w1 (.cells #[.pointer none, .int .u64 0] 61)
  have h1 := heap_new (w1.alloc (.cells #[.pointer none, .int .u64 0] 61)) (.cells #[.pointer none, .pointer (some ⟨w1.heap.size, 0, none⟩)] 62)
  rw [World.size_alloc] at h1
  refine gen_w (fun V => Nw w1 V ∧ V.heap[w1.heap.size]? = some (.cells #[.pointer none, .int .u64 0] 61) ∧ V.heap[w1.heap.size + 1]? = some (.cells #[.pointer none, .pointer (some ⟨w1.heap.size, 0, none⟩)] 62)) ⟨(by repeat first | with_reducible exact Fr.refl _ _ | with_reducible refine Fr.alloc ?_ _ | with_reducible refine Fr.drew ?_ | (with_reducible refine Fr.setCell ?_ _ _ (fun h => ?_); rotate_left; focus (simp only at h; omega))), by (repeat first | with_reducible exact h0 | with_reducible exact heap_new _ _ | with_reducible exact heap_next _ _ _ | with_reducible exact heap_third _ _ _ _ | with_reducible refine hp_dr ?_ | (with_reducible refine hp_ne ?_ ?_; focus omega) | (with_reducible refine hp_al ?_ ?_; focus (first | omega | (simp <;> omega))) | with_reducible apply hp_set) <;> rfl, by (repeat first | with_reducible exact h1 | with_reducible exact heap_new _ _ | with_reducible exact heap_next _ _ _ | with_reducible exact heap_third _ _ _ _ | with_reducible refine hp_dr ?_ | (with_reducible refine hp_ne ?_ ?_; focus omega) | (with_reducible refine hp_al ?_ ?_; focus (first | omega | (simp <;> omega))) | with_reducible apply hp_set) <;> rfl⟩ ?_
  rintro w2 ⟨n2, b0, b1⟩
  have N2 : Hid (Nw w w2) := N1.out.tr n2
  have HE : Hid (w2.heap[w1.heap.size]? = some (.cells #[.pointer none, .int .u64 0] 61)) := b0
  have HL : Hid (w2.heap[w1.heap.size + 1]? = some (.cells #[.pointer none, .pointer (some ⟨w1.heap.size, 0, none⟩)] 62)) := b1
  have HP : Hid (∀ k : Nat, k < 2 → ∃ p, w2.cell? ⟨w1.heap.size + 1, k, none⟩ = some p ∧ NoG w2 p ∧ (p = .pointer none ∨ ∃ b, p = .pointer (some b))) := fun k hk => by
    have hk2 : k = 0 ∨ k = 1 := by omega
    rcases hk2 with rfl | rfl
    · exact ⟨.pointer none, (cell_of b1 0).trans rfl, .inl rfl, .inl rfl⟩
    · exact ⟨.pointer (some ⟨w1.heap.size, 0, none⟩), (cell_of b1 1).trans rfl, .inr ⟨_, rfl, b0⟩, .inr ⟨_, rfl⟩⟩
  obtain ⟨bl, hbl⟩ : ∃ q, q = w1.heap.size + 1 := ⟨_, rfl⟩
  rw [← hbl] at HL HP ⊢
  have hZs : (hbs zh).size = 32 := by rw [hbs_size]; rfl
  have hZl : zh.length = 32 := rfl
  clear n2 b0 b1 h0 h1 hbl HE
  go_wp2_with fail
  go_loopw [9] (fun i wr => ∃ (k : Nat), k ≤ 2 ∧ i = .int .i64 k ∧ Nw w2 wr) (fun i _ => 2 - (intOf i).toNat)
  case atStart => exact ⟨0, by omega, rfl, nwr w2⟩
  case round =>
    obtain ⟨k, hk, rfl, hnw⟩ := hrel
    have HW : Hid (Nw w2 wr) := hnw
    by_cases hlt : k < 2
    · obtain ⟨p, c0, hp, hpf⟩ := HP.out k hlt
      have HNP : Hid (NoG w2 p) := hp
      have HC : Hid (w2.cell? ⟨bl, k, none⟩ = some p) := c0
      have hki : (k : Int) < 2 := by omega
      have GV : Hid (∀ V, Nw w2 V → Gd B a V) := fun V nV => GD.out.nw (N2.out.tr nV)
      have ck := hnw.cellOf c0
      have lk := Nat.lt_of_lt_of_le (heap_lt HL.out) hnw.size
      have HLB : Hid (bl < w2.heap.size) := heap_lt HL.out
      clear c0 hp hnw hpf
      have Q1 : Hid (∀ V, Nw w2 V → Calls Tryz.prog 20 #[p, .int .u64 (x : Int)] V fun e w' => e = .returned (.tuple #[.agg (hbs zh), sen (a 0)]) ∧ Nw V w') := fun V nV => groot_no (HNP.out.nw nV) x (GV.out V nV).s
      have Q2 : Hid (∀ V, Nw w2 V → Calls Tryz.prog 21 #[p, .int .u64 (x : Int), .int .u64 (y : Int)] V fun e w' => e = .returned (.tuple #[.slice none 0 0, sen (a 0)]) ∧ Nw V w') := fun V nV => gpath_no (HNP.out.nw nV) x y (GV.out V nV).s
      have Q3 : Hid (∀ V, Nw w2 V → Calls Tryz.prog 22 #[p, .int .u64 (x : Int), .int .u64 (y : Int)] V fun e w' => e = .returned (.tuple #[.slice none 0 0, sen (a 0)]) ∧ Nw V w') := fun V nV => gproof_no (HNP.out.nw nV) x y (GV.out V nV).s
      have Q4 : Hid (∀ V, Nw w2 V → Calls Tryz.prog 23 #[p, .int .u64 (x : Int), .int .u64 (y : Int), .int .u64 (z : Int)] V fun e w' => e = .returned (.tuple #[.slice none 0 0, sen (a 0)]) ∧ Nw V w') := fun V nV => gbatch_no (HNP.out.nw nV) x y z (GV.out V nV).s
      have Q5 : Hid (∀ V, Nw w2 V → Calls Tryz.prog 12 #[p] V fun e w' => e = .returned (.int .u64 0) ∧ w' = V) := fun V nV => gsize_no (HNP.out.nw nV)
      have Q6 : Hid (∀ V, Nw w2 V → Calls Tryz.prog 19 #[sen (a 0), .int .i64 1] V fun e w' => e = .returned (.bool true) ∧ Nw V w') := fun V nV => is_senI (GV.out V nV).s 0 (by decide) (by decide)
      obtain ⟨Z, hZ⟩ : ∃ Z, Z = zh := ⟨_, rfl⟩
      have HZ : Hid (Z = zh) := hZ
      rw [← hZ] at Q1 hZs hZl
      clear hZ
      go_wp2_with fail
      refine (Q1.out _ HW.out).mono ?_
      rintro e w3 ⟨rfl, n3⟩
      have N3 : Hid (Nw w2 w3) := HW.out.tr n3
      clear n3 ck
      go_wp2_with (refine wp_store_agg rfl (.tmp 10) (.tmp 38) 64 32 rfl Tryz.sizeOf64 w3.heap.size 0 rfl _ 64 (heap_new _ _) (hbs Z) rfl hZs (hbs_one _) (by decide) (hbs Z) (by simp) ?_; intro w4 j4 f4 zz; clear zz; have N4 : Hid (Nw w2 w4) := N3.out.tr ((Fr.alloc (Fr.refl _ w3) _).trans f4 (fun k hk q => by omega)); have J4 : Hid (w4.heap[w3.heap.size]? = some (.cells (hbs Z) 64 (0, 0))) := j4; have ck := N4.out.cellOf HC.out; have lk4 := Nat.lt_of_lt_of_le HLB.out N4.out.size; clear j4 f4)
      obtain ⟨hb, hhb⟩ : ∃ q, q = w3.heap.size := ⟨_, rfl⟩
      rw [← hhb] at J4 ⊢
      clear hhb
      refine (Q2.out _ N4.out).mono ?_
      rintro e w5 ⟨rfl, n5⟩
      have N5 : Hid (Nw w2 w5) := N4.out.tr n5
      have J5 : Hid (w5.heap[hb]? = some (.cells (hbs Z) 64 (0, 0))) := (n5.block _ (heap_lt J4.out) (fun f => f)).trans J4.out
      have ck5 := N5.out.cellOf HC.out
      have lk5 := Nat.lt_of_lt_of_le HLB.out N5.out.size
      clear n5 ck lk4
      go_wp2_with fail
      refine (Q3.out _ N5.out).mono ?_
      rintro e w6 ⟨rfl, n6⟩
      have N6 : Hid (Nw w2 w6) := N5.out.tr n6
      have J6 : Hid (w6.heap[hb]? = some (.cells (hbs Z) 64 (0, 0))) := (n6.block _ (heap_lt J5.out) (fun f => f)).trans J5.out
      have ck6 := N6.out.cellOf HC.out
      have lk6 := Nat.lt_of_lt_of_le HLB.out N6.out.size
      clear n6 ck5 lk5
      go_wp2_with fail
      refine (Q4.out _ N6.out).mono ?_
      rintro e w7 ⟨rfl, n7⟩
      have N7 : Hid (Nw w2 w7) := N6.out.tr n7
      have J7 : Hid (w7.heap[hb]? = some (.cells (hbs Z) 64 (0, 0))) := (n7.block _ (heap_lt J6.out) (fun f => f)).trans J6.out
      have ck7 := N7.out.cellOf HC.out
      have lk7 := Nat.lt_of_lt_of_le HLB.out N7.out.size
      clear n7 ck6 lk6
      go_wp2_with first
        | refine wpl_load (by rfl) (.tmp 10) rfl hb 0 rfl Z hZl (fun j _ => by rw [Nat.zero_add]; exact cell_of J7.out j) ?_
        | (refine wpl_zero (by rfl) rfl ?_; rw [← HZ.out])
        | refine wpl_neqI (by rfl) (.tmp 68) (.tmp 69) rfl Z hZl rfl rfl ?_
      refine (Q5.out _ N7.out).mono ?_
      rintro e w8 ⟨rfl, rfl⟩
      go_wp2_with fail
      refine (Q6.out _ N7.out).mono ?_
      rintro e wa ⟨rfl, na⟩
      have NA : Hid (Nw w2 wa) := N7.out.tr na
      clear na
      go_wp2_with fail
      refine (Q6.out _ NA.out).mono ?_
      rintro e wb ⟨rfl, nb⟩
      have NB : Hid (Nw w2 wb) := NA.out.tr nb
      clear nb
      go_wp2_with fail
      refine (Q6.out _ NB.out).mono ?_
      rintro e wc ⟨rfl, nc⟩
      have NC : Hid (Nw w2 wc) := NB.out.tr nc
      clear nc
      go_wp2_with fail
      refine (Q6.out _ NC.out).mono ?_
      rintro e wd ⟨rfl, nd⟩
      have ND : Hid (Nw w2 wd) := NC.out.tr nd
      clear nd
      go_wp2
      exact ⟨⟨k + 1, by omega, by go_num, ND.out⟩, by simp [intOf]; omega⟩
    · obtain rfl : k = 2 := by omega
      have NW2 : Hid (Nw w wr) := N2.out.tr HW.out
      have q3 := gnew_no (w := wr) (.inl rfl) x (GD.out.nw NW2.out).s
      clear hnw
      go_wp2_with fail
      refine q3.mono ?_
      rintro e w3 ⟨rfl, n3⟩
      have N3 : Hid (Nw w w3) := NW2.out.tr n3
      have nr := nwa w3 (.cells #[.pointer none, .pointer none, .int .i64 0, .int .i64 0] 72)
      have q4 := gnew_no (w := w3.alloc (.cells #[.pointer none, .pointer none, .int .i64 0, .int .i64 0] 72)) (.inr ⟨w3.heap.size, _, _, _, rfl, heap_new _ _⟩) x (GD.out.nw (N3.out.tr nr)).s
      clear n3 q3
      go_wp2_with fail
      refine q4.mono ?_
      rintro e w4 ⟨rfl, n4⟩
      have N4 : Hid (Nw w w4) := (N3.out.tr nr).tr n4
      have q5 := is_senI (GD.out.nw N4.out).s 0 (by decide) (c := 1) (by decide)
      clear n4 q4
      go_wp2_with fail
      refine q5.mono ?_
      rintro e w5 ⟨rfl, n5⟩
      have N5 : Hid (Nw w w5) := N4.out.tr n5
      have q6 := is_senI (GD.out.nw N5.out).s 0 (by decide) (c := 1) (by decide)
      clear n5 q5
      go_wp2_with fail
      refine q6.mono ?_
      rintro e w6 ⟨rfl, n6⟩
      have N6 : Hid (Nw w w6) := N5.out.tr n6
      clear n6 q6
      go_wp2
      go_ret
      exact ⟨rfl, N6.out⟩
end Go.Proofs.YtihmckficphccaaGreatDoor
