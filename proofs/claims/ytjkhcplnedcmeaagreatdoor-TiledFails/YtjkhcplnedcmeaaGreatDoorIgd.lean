/- tiled: the law's alive. -/
import Derived.Test.YtjkhcplnedcmeaaGreatDoorIhm
import Derived.Test.YtjkhcplnedcmeaaGreatDoorIk
import Derived.Test.YtjkhcplnedcmeaaGreatDoorLg1
import Derived.BigQuiet
namespace Go.Proofs.YtjkhcplnedcmeaaGreatDoor
open Go.RowKit
set_option linter.unusedVariables false
set_option linter.unusedSimpArgs false
theorem eqItems_difI (w : World) (A B : Array Value) (x y : Int) (hA : A[0]? = some (.int .u8 x)) (hB : B[0]? = some (.int .u8 y)) (hne : x ≠ y) (is : List Nat) : (Op.eqItems 9999 5 1 A B (0 :: is)).run Tryz.prog w = .ok false w := by
  have hp := run_part_plain w plain8 (xs := A) (off := 0 * 1) hA
  have hq := run_part_plain w plain8 (xs := B) (off := 0 * 1) hB
  have he : (Op.equalIn 9999 5 (.int .u8 x) (.int .u8 y)).run Tryz.prog w = .ok false w := by
    rw [run_equalIn_int w 9998 5 .u8 .u8 _ _ Tryz.underlying5]; simp [hne]
  simp only [Op.eqItems, Sem.run_bind, hp, hq, he, Result.andThen_ok, Bool.not_false, if_true, Sem.run_pure]
theorem hbs_difI (A B : List UInt8) (hA : A.length = 32) (hB : B.length = 32) (hne : A.getD 0 0 ≠ B.getD 0 0) (w : World) : (Op.equalIn 10000 69 (.agg (hbs A)) (.agg (hbs B))).run Tryz.prog w = .ok false w := by
  obtain ⟨i0, hi, _⟩ := Option.map_eq_some_iff.1 info8
  rw [run_equalIn_array w 9999 _ _ Tryz.underlying69 hi, cells5]
  exact eqItems_difI w _ _ _ _ (hbs_get A 0 (by omega)) (hbs_get B 0 (by omega)) (fun e => hne (UInt8.toNat_inj.1 (Int.ofNat_inj.1 e))) _
theorem hbs_neq_difI (A B : List UInt8) (hA : A.length = 32) (hB : B.length = 32) (hne : A.getD 0 0 ≠ B.getD 0 0) (w : World) : (binOp .neq 69 (.agg (hbs A)) (.agg (hbs B))).run Tryz.prog w = .ok (.bool true) w := by
  simp only [binOp]
  simp [Op.equal, Op.maxDepth, hbs_difI A B hA hB hne w]
section
variable {w : World} {o : Oper} {a : Act} {K : Act → Prop}
theorem quiet_neq_difI (x y : Operand) (ho : o.op = .binOp .neq 69 x y 69) (A B : List UInt8) (hA : A.length = 32) (hB : B.length = 32) (hne : A.getD 0 0 ≠ B.getD 0 0) (hx : a.eval x = .agg (hbs A)) (hy : a.eval y = .agg (hbs B)) {C : World → Prop} (hk : K (a.put o.dst (.bool true))) : o.quiet Tryz.prog a C K := by
  refine quiet_val (.bool true) (fun W => ?_) hk
  unfold execOp
  simp only [ho, hx, hy, run_eqGuard, hbs_neq_difI A B hA hB hne W, Sem.run_bind, Sem.run_pure, Result.andThen_ok]
theorem quiet_zeroI (ho : o.op = .build 69 #[]) {C : World → Prop} (hk : K (a.put o.dst (.agg (hbs zh)))) : o.quiet Tryz.prog a C K := by
  refine quiet_val (.agg (hbs zh)) (fun W => ?_) hk
  unfold execOp
  simp only [ho, Sem.run_bind, Sem.run_pure, Result.andThen_ok, List.map_toArray, List.map_nil, build_zero W]
end
theorem Sent.upI {B B' : Nat} {w : World} {a : Nat → Addr} (h : Sent B w a) (hB : B ≤ B') (hs : B' ≤ w.heap.size) : Sent B' w a :=
  { h with blk := fun i hi => ⟨Nat.lt_of_lt_of_le (h.blk i hi).1 hB, (h.blk i hi).2⟩, hB := Nat.le_trans h.hB hB, hsz := hs }
theorem Gd.upI {B : Nat} {w : World} {a : Nat → Addr} (h : Gd B a w) : Gd w.heap.size a w := Gd.of (h.s.upI h.s.hsz (Nat.le_refl _)) h.l h.pow
theorem evI {w : World} {a : Nat → Addr} (i : Nat) (hi : i < 16) : EV w a (sen (a i)) (i + 1) none := .inr (.inl ⟨i, hi, rfl, rfl, rfl⟩)
theorem is_senI {B : Nat} {w : World} {a : Nat → Addr} (hS : Sent B w a) (i : Nat) (hi : i < 16) {c : Int} (hc : c = (i + 1 : Nat)) :
    Calls Tryz.prog 22 #[sen (a i), .int .i64 c] w fun e w' => e = .returned (.bool true) ∧ Nw w w' := by
  have := isE_any hS (evI (w := w) (a := a) i hi) c
  have e : sameB (i + 1) none c (-1) = true := by simp [sameB, hc]
  rw [e] at this
  exact this
theorem spl2I : spl 2 = 1 := spl_of (k := 0) (by decide) (by decide)
theorem spl3I : spl 3 = 2 := spl_of (k := 1) (by decide) (by decide)
theorem pth203 : pth 2 0 3 = [(0, 2)] := by
  rw [pth_right (by decide) (by rw [show (3 : Nat) - 0 = 3 from rfl, spl3I]; decide), show (3 : Nat) - 0 = 3 from rfl, spl3I, show 0 + 2 = 2 from rfl, pth_one (by decide)]; rfl
theorem mth2I (x y : ByteArray) : mth [x, y] = Sh (1 :: (mth [x] ++ mth [y])) := by
  rw [mth_cut (by simp), show [x, y].length = 2 from rfl, spl2I]; rfl
theorem mth3I (x y z : ByteArray) : mth [x, y, z] = Sh (1 :: (mth [x, y] ++ mth [z])) := by
  rw [mth_cut (by simp), show [x, y, z].length = 3 from rfl, spl3I]; rfl
theorem cov03 : cov 0 3 = [(1, 0), (0, 2)] := (cov_uniq [(1, 0), (0, 2)] 0 3 ⟨by decide, by decide, rfl⟩ ⟨by decide, trivial⟩).symm
theorem cov02 : cov 0 2 = [(1, 0)] := (cov_uniq [(1, 0)] 0 2 ⟨by decide, rfl⟩ trivial).symm
abbrev aA : List UInt8 := Sh [0, 48]
abbrev aB : List UInt8 := Sh [0, 49]
abbrev aC : List UInt8 := Sh [0, 50]
abbrev aP : List UInt8 := Sh (1 :: (aA ++ aB))
abbrev aH : List UInt8 := Sh (1 :: (aP ++ aC))
theorem phl3 : phL (ldH 3) (cov 0 3) = aH := by rw [cov03]; rfl
theorem phl2 : phL (ldH 3) (cov 0 2) = aP := by rw [cov02]; rfl
theorem mth_three : mth (sbl (ldS 3) 0 3) = aH := by
  show mth [dgS 0, dgS 1, dgS 2] = _
  rw [mth3I, mth2I, mth_one, mth_one, mth_one]; rfl
theorem aH_first : aH.getD 0 0 ≠ zh.getD 0 0 := by decide +kernel
end Go.Proofs.YtjkhcplnedcmeaaGreatDoor
namespace Go.Proofs.YtjkhcplnedcmeaaGreatDoor
open Go.RowKit
set_option linter.unusedVariables false
set_option linter.unusedSimpArgs false
set_option maxRecDepth 100000 in
set_option maxHeartbeats 4000000 in
theorem alive16_any {B : Nat} {w : World} {a : Nat → Addr} (hG : Gd B a w) (hT : TabAt w) : Calls Tryz.prog 9 #[] w fun e w' => e = .returned (.bool true) ∧ Nw w w' := by
  have GD : Hid (Gd w.heap.size a w) := hG.upI
  have HT : Hid (TabAt w) := hT
  have q1 := lying_any 3 (by omega) w GD.out (Nat.le_refl _)
  clear hG hT
  go_enter Tryz.func9, Tryz.ntmps9
  go_wp2_with fail
  refine q1.mono ?_
  rintro e w1 ⟨lb, base, v, b, bm, g, T, M, rfl, hlb, lg1, lt1, hld, hTT, hne, hsp, n1⟩
  have N1 : Hid (Nw w w1) := n1
  have LG1 : Hid (Lg w1 lb base v (ldS 3)) := lg1
  have SEP : Hid ((lb ≠ b ∧ lb ≠ bm ∧ lb ≠ g) ∧ (∀ q, v.ownBlock = some q → q ≠ b ∧ q ≠ bm ∧ q ≠ g)) := ⟨hne, hsp⟩
  have q2 := RS.made (K := 0) lt1.2.2.2 hld (ldH_32 3) lt1.2.2.1.2 ⟨lt1.1, lt1.2.1, lt1.2.2.1.1⟩ rfl (by simp) ⟨Int.le_refl _, Int.le_refl _⟩ 2 (by omega) (GD.out.nw n1).s
  clear q1 hlb lg1 lt1 hld hTT hne hsp n1
  go_wp2_with fail
  refine q2.mono ?_
  rintro e w2 ⟨s, rfl, A2, hsb, hbm, hzs, hcap, hrn, hx, hy, hM, hL, htg, n2⟩
  have HA2 : Hid (s.At (ldH 3) w.heap.size 0 w2) := A2
  have HZ : Hid (s.zs = [] ∧ s.x = 0) := ⟨hzs, hx⟩
  have N2 : Hid (Nw w w2) := N1.out.tr n2
  have LG2 : Hid (Lg w2 lb base v (ldS 3)) := LG1.out.nw n2
  have TG2 : Hid (s.tg lb = 9 ∧ ∀ q, v.ownBlock = some q → s.tg q = 9) := ⟨htg lb (heap_lt LG1.out.blk) SEP.out.1.1 SEP.out.1.2.1 SEP.out.1.2.2, fun q hq => htg q (LG1.out.own.lt q hq).2 (SEP.out.2 q hq).1 (SEP.out.2 q hq).2.1 (SEP.out.2 q hq).2.2⟩
  have q3 := gnew_yes A2 3 (by omega) (GD.out.nw N2.out).s
  obtain ⟨rb, hrb⟩ : ∃ x, x = s.rb := ⟨_, rfl⟩
  rw [← hrb] at q3 ⊢
  clear q2 A2 hsb hbm hzs hcap hrn hx hy hM hL htg n2 hrb
  go_wp2_with fail
  refine q3.mono ?_
  rintro e w3 ⟨eb, rfl, en3, heb, n3⟩
  have EN3 : Hid (Eng s w3 eb 3) := en3
  have N23 : Hid (Nw w2 w3) := n3
  have q4 := gnew_no (w := w3) (.inl rfl) 3 (GD.out.nw (N2.out.tr n3)).s
  clear q3 en3 heb n3
  go_wp2_with fail
  refine q4.mono ?_
  rintro e w4 ⟨rfl, n4⟩
  have N24 : Hid (Nw w2 w4) := N23.out.tr n4
  have N34 : Hid (Nw w3 w4) := n4
  have q5 := is_senI (GD.out.nw (N2.out.tr N24.out)).s 0 (by decide) (c := 1) (by decide)
  clear q4 n4
  go_wp2_with fail
  refine q5.mono ?_
  rintro e w5 ⟨rfl, n5⟩
  have N25 : Hid (Nw w2 w5) := N24.out.tr n5
  have EN5 : Hid (Eng s w5 eb (ldH 3).length) := (EN3.out.nw (N34.out.tr n5))
  have HA5 : Hid (s.At (ldH 3) w.heap.size 0 w5) := HA2.out.nw N25.out
  have N5 : Hid (Nw w w5) := N2.out.tr N25.out
  have LG5 : Hid (Lg w5 lb base v (ldS 3)) := LG2.out.nw N25.out
  have q6 := groot_any HA5.out EN5.out (by rw [ldH_len]; omega) 3 (by rw [ldH_len]; omega) (GD.out.nw N5.out) (HT.out.nw N5.out) HZ.out.1 (by omega)
  rw [phl3] at q6
  have hHs : (hbs aH).size = 32 := by rw [hbs_size, Sh_len]
  have HH : Hid (aH.length = 32 ∧ aH.getD 0 0 ≠ zh.getD 0 0) := ⟨Sh_len _, aH_first⟩
  have HMT := mth_three
  obtain ⟨H, hH⟩ : ∃ H, H = aH := ⟨_, rfl⟩
  rw [← hH] at q6 hHs HH HMT
  clear q5 n5 hH
  go_wp2_with fail
  refine q6.mono ?_
  rintro e w6 ⟨s6, rfl, an6⟩
  have AN6 : Hid (Ansd s s6 (ldH 3) w.heap.size 0 (tls (ldH 3).length (cov 0 3)).length w5 w6 eb) := an6
  have N6 : Hid (Nw w w6) := N5.out.trans an6.fr (fun k hk q => by have := HA5.out.bt k q; omega)
  have LG6 : Hid (Lg w6 lb base v (ldS 3)) := LG5.out.fr an6.fr (fun q => by have := TG2.out.1; unfold RS.Ff at q; omega) (fun g hg q => by have := TG2.out.2 g hg; unfold RS.Ff at q; omega)
  clear q6 an6
  go_wp2_with (refine wp_store_agg rfl (.tmp 10) (.tmp 59) 69 32 rfl Tryz.sizeOf69 w6.heap.size 0 rfl _ 69 (heap_new _ _) (hbs H) rfl hHs (hbs_one _) (by decide) (hbs H) (by simp) ?_; intro w7 j7 f7 zz; clear zz; have N67 : Hid (Nw w6 w7) := (Fr.alloc (Fr.refl _ w6) _).trans f7 (fun k hk q => by omega); have J7 : Hid (w7.heap[w6.heap.size]? = some (.cells (hbs H) 69 (0, 0))) := j7; clear j7 f7)
  have N7 : Hid (Nw w w7) := N6.out.tr N67.out
  have q7 := Root_any (LG6.out.nw N67.out) 3 (by omega) (GD.out.nw N7.out).l (GD.out.nw N7.out).s
  unfold treeA at q7
  rw [if_pos (by rw [ldS_len]; omega), HMT] at q7
  obtain ⟨h7, hh7⟩ : ∃ x, x = w6.heap.size := ⟨_, rfl⟩
  have HH7 : Hid (h7 = w6.heap.size) := hh7
  rw [← hh7] at J7 ⊢
  clear hh7 HMT
  refine q7.mono ?_
  rintro e w8 ⟨rfl, n8⟩
  have N68 : Hid (Nw w6 w8) := N67.out.tr n8
  have J8 : Hid (w8.heap[h7]? = some (.cells (hbs H) 69 (0, 0))) := (n8.block _ (heap_lt J7.out) (fun f => f)).trans J7.out
  clear q7 n8
  go_wp2_with (refine wp_store_agg rfl (.tmp 12) (.tmp 64) 69 32 rfl Tryz.sizeOf69 w8.heap.size 0 rfl _ 69 (heap_new _ _) (hbs H) rfl hHs (hbs_one _) (by decide) (hbs H) (by simp) ?_; intro w9 j9 f9 zz; clear zz; have N89 : Hid (Nw w8 w9) := (Fr.alloc (Fr.refl _ w8) _).trans f9 (fun k hk q => by omega); have J9 : Hid (w9.heap[w8.heap.size]? = some (.cells (hbs H) 69 (0, 0))) := j9; clear j9 f9)
  have N69 : Hid (Nw w6 w9) := N68.out.tr N89.out
  have J79 : Hid (w9.heap[h7]? = some (.cells (hbs H) 69 (0, 0))) := (N89.out.block _ (heap_lt J8.out) (fun f => f)).trans J8.out
  have N9 : Hid (Nw w w9) := N6.out.tr N69.out
  have HTN : Hid ((tls (ldH 3).length (cov 0 3)).length ≤ 1000) := Nat.le_trans (tls_len _ _) (Nat.le_trans (cov_len 0 3 (by decide)) (by omega))
  have q9 := gpath_any (AN6.out.at_.nw N69.out) (AN6.out.eng.nw N69.out) (by rw [ldH_len]; omega) 2 3 (by omega) (by rw [ldH_len]; omega) (GD.out.nw N9.out) (HT.out.nw N9.out) AN6.out.zs (by have := HTN.out; omega)
  rw [pth203] at q9
  have e9 : [((0 : Nat), (2 : Nat))].map (fun s => phL (ldH 3) (cvr s)) = [aP] := by show [phL (ldH 3) (cov 0 2)] = _; rw [phl2]
  rw [e9] at q9
  obtain ⟨h9, hh9⟩ : ∃ x, x = w8.heap.size := ⟨_, rfl⟩
  have HH9 : Hid (h9 = w8.heap.size) := hh9
  rw [← hh9] at J9 ⊢
  clear hh9 e9
  refine q9.mono ?_
  rintro e w10 ⟨s10, gp, cp, rfl, o10, ht10, an10⟩
  have FF : Hid (Fr s6.Ff w9 w10) := an10.fr
  have nf : ∀ k, w6.heap.size ≤ k → ¬ s6.Ff k := fun k hk q => by have := AN6.out.at_.nt k hk; unfold RS.Ff at q; omega
  have JA : Hid (w10.heap[h7]? = some (.cells (hbs H) 69 (0, 0))) := (FF.out.block _ (heap_lt J79.out) (nf _ (by have := HH7.out; omega))).trans J79.out
  have JB : Hid (w10.heap[h9]? = some (.cells (hbs H) 69 (0, 0))) := (FF.out.block _ (heap_lt J9.out) (nf _ (by have := HH9.out; have := N68.out.size; omega))).trans J9.out
  have N10 : Hid (Nw w w10) := N9.out.trans FF.out (fun k hk q => by have := AN6.out.at_.bt k q; omega)
  have CP : Hid (∀ j, j < 32 → w10.cell? ⟨gp, 0 + j, none⟩ = (hbs aP)[j]?) := fun j hj => by
    have := hss_atI (k := 0) (x := aP) (fun x hx => by simp at hx; rw [hx]; exact Sh_len _) rfl o10 rfl j hj
    simpa using this
  have hgp := (o10.lt gp rfl).2
  have Q0 : Hid (∀ V, Nw w10 V → Calls Tryz.prog 39 #[.string ⟨#[48]⟩] V fun e w' => e = .returned (.agg (hbs aA)) ∧ Nw V w') := fun V nV => leaf_any ⟨#[48]⟩ V (GD.out.nw (N10.out.tr nV)).l (by decide)
  have Q1 : Hid (∀ V, Nw w10 V → Calls Tryz.prog 39 #[.string ⟨#[49]⟩] V fun e w' => e = .returned (.agg (hbs aB)) ∧ Nw V w') := fun V nV => leaf_any ⟨#[49]⟩ V (GD.out.nw (N10.out.tr nV)).l (by decide)
  have QN : Hid (∀ V, Nw w10 V → Calls Tryz.prog 42 #[.agg (hbs aA), .agg (hbs aB)] V fun e w' => e = .returned (.agg (hbs aP)) ∧ Nw V w') := fun V nV => node_any _ _ (Sh_len _) (Sh_len _) V (GD.out.nw (N10.out.tr nV)).l
  have HPL : Hid (aP.length = 32) := Sh_len _
  have HZL : Hid (zh.length = 32) := rfl
  obtain ⟨P, hP⟩ : ∃ P, P = aP := ⟨_, rfl⟩
  rw [← hP] at CP QN HPL
  generalize aA = A at *
  generalize aB = B' at *
  clear q9 o10 ht10 an10 nf hP
  go_wp2_with fail
  (refine wp_region_grown (by kernel_rfl) (by kernel_rfl) ?_; (repeat (first | go_big_quiet_skip | (go_big_quiet_want; first | (refine quiet_load (.tmp 10) rfl h7 0 rfl H HH.out.1 (hash_cells JA.out) ?_; ((try simp only [Act.put, List.setIfInBounds_toArray, List.set_cons_zero, List.set_cons_succ]); go_big_quiet_on)) | (refine quiet_load (.tmp 12) rfl h9 0 rfl H HH.out.1 (hash_cells JB.out) ?_; ((try simp only [Act.put, List.setIfInBounds_toArray, List.set_cons_zero, List.set_cons_succ]); go_big_quiet_on)) | (refine quiet_zeroI rfl ?_; ((try simp only [Act.put, List.setIfInBounds_toArray, List.set_cons_zero, List.set_cons_succ]); go_big_quiet_on)) | (refine quiet_load (.tmp 98) rfl gp 0 rfl P HPL.out CP.out ?_; ((try simp only [Act.put, List.setIfInBounds_toArray, List.set_cons_zero, List.set_cons_succ]); go_big_quiet_on)) | (refine quiet_neq_difI (.tmp 87) (.tmp 88) rfl H zh HH.out.1 HZL.out HH.out.2 rfl rfl ?_; ((try simp only [Act.put, List.setIfInBounds_toArray, List.set_cons_zero, List.set_cons_succ]); go_big_quiet_on)) | (refine quiet_eql (.tmp 82) (.tmp 83) rfl H HH.out.1 rfl rfl ?_; ((try simp only [Act.put, List.setIfInBounds_toArray, List.set_cons_zero, List.set_cons_succ]); go_big_quiet_on)) | (refine quiet_eql (.tmp 99) (.tmp 102) rfl P HPL.out rfl rfl ?_; ((try simp only [Act.put, List.setIfInBounds_toArray, List.set_cons_zero, List.set_cons_succ]); go_big_quiet_on)) | (go_big_quiet_op; first | go_big_quiet_on | go_big_quiet_call (first | rfl | with_reducible exact grw_call Q0.out (Fr.refl _ w10) _ | with_reducible exact grw_call Q1.out (Fr.refl _ w10) _ | with_reducible exact grw_call QN.out (Fr.refl _ w10) _))))); refine wpQuiet_nil ?_; rintro W ⟨⟨_, nW⟩, rfl⟩)
  go_wp2
  go_ret
  exact ⟨rfl, N10.out.tr nW⟩
end Go.Proofs.YtjkhcplnedcmeaaGreatDoor
