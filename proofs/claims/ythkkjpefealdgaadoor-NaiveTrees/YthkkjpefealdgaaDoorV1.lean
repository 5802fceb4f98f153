/- NaiveTrees: the walk. -/
import Derived.Test.YthkkjpefealdgaaDoorG2
import Derived.Test.YthkkjpefealdgaaDoorTz
namespace Go.Proofs.YthkkjpefealdgaaDoor
open Go.RowKit
set_option linter.unusedVariables false
set_option linter.unusedSimpArgs false

/-- The stretch that was handed in, and the log. -/
structure TSt (W : World) (bs x y b base : Nat) (v : Value) (L : List ByteArray) : Prop where
  blk : W.heap[bs]? = some (.cells #[.int .u64 (x : Int), .int .u64 (y : Int)] 25)
  lg : Lg W b base v L
theorem TSt.nw {W W' : World} {bs x y b base : Nat} {v : Value} {L : List ByteArray} (h : TSt W bs x y b base v L) (n : Nw W W') : TSt W' bs x y b base v L := ⟨(n.block _ (heap_lt h.blk) (fun f => f)).trans h.blk, h.lg.nw n⟩
theorem is5 {w : World} {B : Nat} {a : Nat → Addr} (hS : Sent B w a) (W : World) (hW : Nw w W) : Calls Tryd.prog 11 #[sen (a 4), .int .i64 5] W fun e w' => e = .returned (.bool true) ∧ Nw W w' := by
  have hsb : sameB 5 none 5 (-1) = true := by decide
  have q := isE_any (hS.fr hW (fun _ _ f => f)) (show EV W a (sen (a 4)) 5 none from .inr (.inl ⟨4, by decide, rfl, rfl, rfl⟩)) 5
  rw [hsb] at q
  exact q
theorem sbl_one {L : List ByteArray} {x : Nat} {z : ByteArray} (h : L[x]? = some z) : sbl L x (x + 1) = [z] := by
  unfold sbl
  rw [List.take_add_one, h, Option.toList_some, List.drop_append, List.drop_eq_nil_of_le (by simp; omega)]
  have := (List.getElem?_eq_some_iff.1 h).1
  simp [Nat.min_eq_left (Nat.le_of_lt this)]
theorem zh_len : zh.length = 32 := by simp
set_option maxRecDepth 100000 in
set_option maxHeartbeats 4000000 in
theorem trees_any (p : Option Addr) (c : Nat) (ss : List ByteArray) (x y : Nat) (w : World) (hp : Strs w p ss) (hx : ∀ x ∈ ss, x.size ≤ 140737488355328) (hl : ss.length ≤ 140737488355328) (hx64 : x < 18446744073709551616) (hy64 : y < 18446744073709551616) (hL : Laid w) {B : Nat} {a : Nat → Addr} (hS : Sent B w a) :
    Calls Tryd.prog 3 #[.slice p ss.length c, sp x y] w fun e w' => e = .returned (.bool true) ∧ Nw w w' := by
  have HL : Hid (Laid w) := hL
  have HS : Hid (Sent B w a) := hS
  have QZ : Hid (∀ W, Nw w W → Calls Tryd.prog 8 #[.slice p ss.length c] W fun e w' => (∃ m : Nat, e = .returned (.int .i64 (m : Int)) ∧ m < 4611686018427387904 ∧ (m ≤ 1048576 → m = tsz ss)) ∧ w' = W) := fun W hW => tsize_any p c ss W (hp.nw hW) hx hl
  have QG : Hid (∀ W, Nw w W → Calls Tryd.prog 9 #[.slice p ss.length c] W fun e w' => ∃ b base v, e = .returned (.tuple #[.pointer (some ⟨b, 0, none⟩), .int .i64 ((kp ss).length : Int), .bool true]) ∧ Lg w' b base v (kp ss) ∧ W.heap.size ≤ b ∧ Nw W w') := fun W hW => grown_any p c ss W (hp.nw hW) hx hl (hS.fr hW (fun _ _ f => f))
  have QV : Hid (∀ W, Nw w W → Calls Tryd.prog 12 #[] W fun e w' => e = .returned (.bool true) ∧ Nw W w') := fun W hW => lives_any W (hL.nw hW) (hS.fr hW (fun _ _ f => f))
  have QI : Hid (∀ W, Nw w W → Calls Tryd.prog 11 #[sen (a 4), .int .i64 5] W fun e w' => e = .returned (.bool true) ∧ Nw W w') := fun W hW => is5 hS W hW
  have QE : Hid (∀ W, Nw w W → Calls Tryd.prog 13 #[] W fun e w' => e = .returned (.agg (hbs (mth []))) ∧ Nw W w') := fun W hW => by rw [mth_nil]; exact empty_any W (hL.nw hW)
  have QF : Hid (∀ z : ByteArray, z.size ≤ 65536 → ∀ W, Nw w W → Calls Tryd.prog 15 #[.string z] W fun e w' => e = .returned (.agg (hbs (mth [z]))) ∧ Nw W w') := fun z hz W hW => by rw [mth_one]; exact leaf_any z W (hL.nw hW) (by omega)
  have QN : Hid (∀ A B, A.length = 32 → B.length = 32 → ∀ W, Nw w W → Calls Tryd.prog 17 #[.agg (hbs A), .agg (hbs B)] W fun e w' => e = .returned (.agg (hbs (Sh (1 :: (A ++ B))))) ∧ Nw W w') := fun A B hA hB W hW => node_any A B hA hB W (hL.nw hW)
  clear hL hS hp hx
  have hn63 : (ss.length : Int) ≤ 140737488355328 := by omega
  obtain ⟨n, hn⟩ : ∃ n, n = ss.length := ⟨_, rfl⟩
  rw [← hn] at QZ QG hl hn63 ⊢
  clear hn
  go_enter Tryd.func3, Tryd.ntmps3
  go_wp2_with fail
  refine (QZ.out _ (nwa w _)).mono ?_
  rintro e1 w1 ⟨⟨m, rfl, hm, hm2⟩, h1⟩
  have N1 : Hid (Nw w w1) := by rw [h1]; exact nwa w _
  have B1 : Hid (w1.heap[w.heap.size]? = some (.cells #[.int .u64 (x : Int), .int .u64 (y : Int)] 25)) := by rw [h1]; exact heap_new _ _
  clear h1 QZ
  have q2 := beyond_any (some ⟨w1.heap.size, 0, none⟩) 2 [n, m] _ (two_int w1 n m) (getD_all (by intro k hk; simp only [List.mem_cons, List.not_mem_nil, or_false] at hk; rcases hk with rfl | rfl <;> omega)) (by simp)
  go_wp2_with fail
  refine q2.mono ?_
  rintro e2 w2 ⟨rfl, h2⟩
  have N2 : Hid (Nw w w2) := by rw [h2]; exact N1.out.alloc _
  have B2 : Hid (w2.heap[w.heap.size]? = some (.cells #[.int .u64 (x : Int), .int .u64 (y : Int)] 25)) := by rw [h2]; exact hp_al (heap_lt B1.out) B1.out
  clear q2 h2 N1 B1 hm2
  by_cases hbig : 1048576 < [n, m].sum
  · rw [decide_eq_true hbig]
    go_wp2
    go_ret
    exact ⟨rfl, N2.out⟩
  rw [decide_eq_false hbig]
  clear hbig
  go_wp2_with fail
  refine (QG.out _ N2.out).mono ?_
  rintro e3 w3 ⟨b, base, v, rfl, l3, _, n3⟩
  clear QG
  obtain ⟨bs, hbs0⟩ : ∃ bs, bs = w.heap.size := ⟨_, rfl⟩
  rw [← hbs0] at B2 ⊢
  have HBS : Hid (bs = w.heap.size) := hbs0
  clear hbs0
  obtain ⟨L, hLd⟩ : ∃ L, L = kp ss := ⟨_, rfl⟩
  rw [← hLd] at l3 ⊢
  clear hLd
  have T3 : Hid (TSt w3 bs x y b base v L) := ⟨(n3.block _ (heap_lt B2.out) (fun f => f)).trans B2.out, l3⟩
  have N3 : Hid (Nw w w3) := N2.out.tr n3
  have hlen := l3.len
  have HZ : Hid (∀ z ∈ L, z.size ≤ 65536) := l3.sz
  clear l3 n3 B2 N2
  have QT : Hid (∀ W X Y, X < 18446744073709551616 → Y < 18446744073709551616 → TSt W bs x y b base v L → Nw w W → Calls Tryd.prog 10 #[.pointer (some ⟨b, 0, none⟩), sp X Y] W fun e w' => e = .returned (treeA L a X Y) ∧ Nw W w') := fun W X Y hX hY hT hW => Tree_any hT.lg X Y hX hY (HL.out.nw hW) (HS.out.fr hW (fun _ _ f => f))
  have QLf : Hid (∀ (W : World) (k : Nat) (z : ByteArray), L[k]? = some z → TSt W bs x y b base v L → Calls Tryd.prog 14 #[.pointer (some ⟨b, 0, none⟩), .int .u64 (k : Int)] W fun e w' => e = .returned (.tuple #[.string z, .nilIface]) ∧ Nw W w') := fun W k z hz hT => leaf_yes hT.lg k z hz
  clear HL HS
  have q4 := QT.out w3 x y hx64 hy64 T3.out N3.out
  have c0 := cell2a T3.out.blk
  have c1 := cell2b T3.out.blk
  have lb0 := heap_lt T3.out.blk
  go_wp2_with fail
  refine q4.mono ?_
  rintro e4 w4 ⟨rfl, n4⟩
  have T4 : Hid (TSt w4 bs x y b base v L) := T3.out.nw n4
  have N4 : Hid (Nw w w4) := N3.out.tr n4
  clear q4 c0 c1 lb0 T3 N3 n4
  by_cases hok : x ≤ y ∧ y ≤ L.length
  · rw [treeA, if_pos hok]
    obtain ⟨hok1, hok2⟩ := hok
    have hR32 : (mth (sbl L x y)).length = 32 := mth_len _
    obtain ⟨R, hR⟩ : ∃ R, R = mth (sbl L x y) := ⟨_, rfl⟩
    rw [← hR] at hR32 ⊢
    have HR : Hid (R = mth (sbl L x y)) := hR
    have HR32 : Hid (R.length = 32) := hR32
    have hRs : (hbs R).size = 32 := by rw [hbs_size, hR32]
    clear hR hR32
    have hd1 : decide ((y : Int) < (x : Int)) = false := by simp; omega
    have hd2 : decide ((L.length : Int) < (y : Int)) = false := by simp; omega
    have HOK : Hid (x ≤ y ∧ y ≤ L.length) := ⟨hok1, hok2⟩
    by_cases hd0 : y = x
    · have hRe : R = mth [] := by rw [HR.out]; congr 1; exact List.eq_nil_of_length_eq_zero (by rw [sbl_len]; omega)
      have QE' : Hid (∀ W, Nw w W → Calls Tryd.prog 13 #[] W fun e w' => e = .returned (.agg (hbs R)) ∧ Nw W w') := by rw [hRe]; exact QE.out
      have hz : (y : Int) - (x : Int) = 0 := by omega
      clear hRe HR QE hd0
      go_wp2_with (refine wp_store_agg rfl (.tmp 8) (.tmp 37) 32 32 rfl Tryd.sizeOf32 w4.heap.size 0 rfl _ 32 (heap_new _ _) (hbs R) rfl hRs (hbs_one _) (by decide) (hbs R) (by simp) ?_; intro w5 j5 f5 _; have N5 : Hid (Nw w w5) := (N4.out.alloc _).trans f5 (fun k hk q => by have := N4.out.size; omega); have T5 : Hid (TSt w5 bs x y b base v L) := T4.out.nw ((nwa w4 _).trans f5 (fun k hk q => by omega)); have c0 := cell2a T5.out.blk; have c1 := cell2b T5.out.blk; have lb0 := heap_lt T5.out.blk; have J5 : Hid (w5.heap[w4.heap.size]? = some (.cells (hbs R) 32 (0, 0))) := j5; clear j5 f5)
      (refine wp_region_grown (by kernel_rfl) (by kernel_rfl) ?_; (repeat (first | go_big_quiet_skip | (go_big_quiet_want; first | (refine quiet_load (.tmp 8) rfl w4.heap.size 0 rfl R HR32.out (hash_cells J5.out) ?_; ((try simp only [Act.put, List.setIfInBounds_toArray, List.set_cons_zero, List.set_cons_succ]); go_big_quiet_on)) | (refine quiet_eql (.tmp 70) (.tmp 71) rfl R HR32.out rfl rfl ?_; ((try simp only [Act.put, List.setIfInBounds_toArray, List.set_cons_zero, List.set_cons_succ]); go_big_quiet_on)) | (go_big_quiet_op; first | go_big_quiet_on | go_big_quiet_call (first | rfl | with_reducible exact grw_call QE'.out N5.out _ | with_reducible exact grw_call QV.out N5.out _))))); refine wpQuiet_nil ?_; rintro _ ⟨⟨W, nW⟩, rfl⟩)
      go_wp2
      go_ret
      exact ⟨rfl, N5.out.tr nW⟩
    by_cases hd3 : y = x + 1
    · obtain ⟨z, hz⟩ : ∃ z, L[x]? = some z := ⟨_, List.getElem?_eq_getElem (by omega)⟩
      have hRe : R = mth [z] := by rw [HR.out, hd3, sbl_one hz]
      have QF' : Hid (∀ W, Nw w W → Calls Tryd.prog 15 #[.string z] W fun e w' => e = .returned (.agg (hbs R)) ∧ Nw W w') := by rw [hRe]; exact QF.out z (HZ.out z (List.mem_of_getElem? hz))
      have QL' : Hid (∀ W, TSt W bs x y b base v L → Calls Tryd.prog 14 #[.pointer (some ⟨b, 0, none⟩), .int .u64 (x : Int)] W fun e w' => e = .returned (.tuple #[.string z, .nilIface]) ∧ Nw W w') := fun W hT => QLf.out W x z hz hT
      have hz1 : (y : Int) - (x : Int) = 1 := by omega
      clear hRe HR QF hz hd3 hd0
      go_wp2_with (refine wp_store_agg rfl (.tmp 8) (.tmp 37) 32 32 rfl Tryd.sizeOf32 w4.heap.size 0 rfl _ 32 (heap_new _ _) (hbs R) rfl hRs (hbs_one _) (by decide) (hbs R) (by simp) ?_; intro w5 j5 f5 _; have N5 : Hid (Nw w w5) := (N4.out.alloc _).trans f5 (fun k hk q => by have := N4.out.size; omega); have T5 : Hid (TSt w5 bs x y b base v L) := T4.out.nw ((nwa w4 _).trans f5 (fun k hk q => by omega)); have c0 := cell2a T5.out.blk; have c1 := cell2b T5.out.blk; have lb0 := heap_lt T5.out.blk; have J5 : Hid (w5.heap[w4.heap.size]? = some (.cells (hbs R) 32 (0, 0))) := j5; clear j5 f5)
      refine (QL'.out _ T5.out).mono ?_
      rintro e6 w6 ⟨rfl, n6⟩
      have J6 : Hid (w6.heap[w4.heap.size]? = some (.cells (hbs R) 32 (0, 0))) := (n6.block _ (heap_lt J5.out) (fun f => f)).trans J5.out
      have N6 : Hid (Nw w w6) := N5.out.tr n6
      clear J5 N5 T5 n6 c0 c1 lb0
      go_wp2_with fail
      (refine wp_region_grown (by kernel_rfl) (by kernel_rfl) ?_; (repeat (first | go_big_quiet_skip | (go_big_quiet_want; first | (refine quiet_load (.tmp 8) rfl w4.heap.size 0 rfl R HR32.out (hash_cells J6.out) ?_; ((try simp only [Act.put, List.setIfInBounds_toArray, List.set_cons_zero, List.set_cons_succ]); go_big_quiet_on)) | (refine quiet_eql (.tmp 88) (.tmp 90) rfl R HR32.out rfl rfl ?_; ((try simp only [Act.put, List.setIfInBounds_toArray, List.set_cons_zero, List.set_cons_succ]); go_big_quiet_on)) | (go_big_quiet_op; first | go_big_quiet_on | go_big_quiet_call (first | rfl | with_reducible exact grw_call QF'.out N6.out _ | with_reducible exact grw_call QV.out N6.out _))))); refine wpQuiet_nil ?_; rintro _ ⟨⟨W, nW⟩, rfl⟩)
      go_wp2
      go_ret
      exact ⟨rfl, N6.out.tr nW⟩
    have h2 : 2 ≤ y - x := by omega
    have hcut := mth_sbl h2 hok2
    rw [← HR.out] at hcut
    have hk := spl_lt h2
    have hk0 := spl_pos (y - x)
    have QS := show Hid _ from split_yes (y - x) h2 (by omega)
    obtain ⟨d, hd⟩ : ∃ d, d = y - x := ⟨_, rfl⟩
    rw [← hd] at hcut hk hk0 QS
    obtain ⟨k, hkd⟩ : ∃ k, k = spl d := ⟨_, rfl⟩
    rw [← hkd] at hcut hk hk0 QS
    have hsub : (y : Int) - (x : Int) = (d : Int) := by omega
    have hd4 : ((d : Int) == 0) = false := by simp; omega
    have hd5 : ((d : Int) == 1) = false := by simp; omega
    obtain ⟨md, he⟩ : ∃ md, md = x + k := ⟨_, rfl⟩
    rw [← he] at hcut
    have hadd : (x : Int) + (k : Int) = (md : Int) := by omega
    have A32 : (mth (sbl L x md)).length = 32 := mth_len _
    have B32 : (mth (sbl L md y)).length = 32 := mth_len _
    have QA : Hid (∀ W, TSt W bs x y b base v L → Nw w W → Calls Tryd.prog 10 #[.pointer (some ⟨b, 0, none⟩), sp x md] W fun e w' => e = .returned (treeA L a x md) ∧ Nw W w') := fun W hT hW => QT.out W x md hx64 (by omega) hT hW
    have QB : Hid (∀ W, TSt W bs x y b base v L → Nw w W → Calls Tryd.prog 10 #[.pointer (some ⟨b, 0, none⟩), sp md y] W fun e w' => e = .returned (treeA L a md y) ∧ Nw W w') := fun W hT hW => QT.out W md y (by omega) hy64 hT hW
    rw [treeA, if_pos ⟨by omega, by omega⟩] at QA QB
    have QN' := QN.out (mth (sbl L x md)) (mth (sbl L md y)) A32 B32
    rw [← hcut] at QN'
    obtain ⟨A, hA⟩ : ∃ A, A = mth (sbl L x md) := ⟨_, rfl⟩
    obtain ⟨Bh, hB⟩ : ∃ Bh, Bh = mth (sbl L md y) := ⟨_, rfl⟩
    rw [← hA] at QA QN' A32
    rw [← hB] at QB QN' B32
    have HA32 : Hid (A.length = 32) := A32
    have HB32 : Hid (Bh.length = 32) := B32
    have hAs : (hbs A).size = 32 := by rw [hbs_size, A32]
    have hBs : (hbs Bh).size = 32 := by rw [hbs_size, B32]
    have QN2 : Hid (∀ W, Nw w W → Calls Tryd.prog 17 #[.agg (hbs A), .agg (hbs Bh)] W fun e w' => e = .returned (.agg (hbs R)) ∧ Nw W w') := QN'
    have hk1 : decide ((0 : Int) < (k : Int)) = true := by simp; omega
    have hk1n : decide (0 < k) = true := by simp; omega
    have hk2n : decide (k < d) = true := by simp; omega
    have hk2 : decide ((k : Int) < (d : Int)) = true := by simp; omega
    have HE : Hid (md < 18446744073709551616) := by unfold Hid; omega
    have HD : Hid (d < 18446744073709551616) := by unfold Hid; omega
    have HDK : Hid (k < d ∧ d = y - x ∧ md = x + k) := ⟨hk, hd, he⟩
    have HADD : Hid ((x : Int) + (k : Int) = (md : Int)) := hadd
    have hwe : IntKind.u64.wrap ((x : Int) + (k : Int)) = (md : Int) := by rw [hadd, w64]; omega
    clear hA hB QN' hcut HR hd hkd he QN QF QE QT QLf A32 B32 hd0 hd3 h2 hk hk0 hadd
    go_wp2_with (refine wp_store_agg rfl (.tmp 8) (.tmp 37) 32 32 rfl Tryd.sizeOf32 w4.heap.size 0 rfl _ 32 (heap_new _ _) (hbs R) rfl hRs (hbs_one _) (by decide) (hbs R) (by simp) ?_; intro w5 j5 f5 _; have N5 : Hid (Nw w w5) := (N4.out.alloc _).trans f5 (fun k hk q => by have := N4.out.size; omega); have T5 : Hid (TSt w5 bs x y b base v L) := T4.out.nw ((nwa w4 _).trans f5 (fun k hk q => by omega)); have c0 := cell2a T5.out.blk; have c1 := cell2b T5.out.blk; have lb0 := heap_lt T5.out.blk; have J5 : Hid (w5.heap[w4.heap.size]? = some (.cells (hbs R) 32 (0, 0))) := j5; clear j5 f5)
    refine (QS.out _).mono ?_
    rintro e6 w6 ⟨rfl, n6⟩
    have J6 : Hid (w6.heap[w4.heap.size]? = some (.cells (hbs R) 32 (0, 0))) := (n6.block _ (heap_lt J5.out) (fun f => f)).trans J5.out
    have N6 : Hid (Nw w w6) := N5.out.tr n6
    have T6 : Hid (TSt w6 bs x y b base v L) := T5.out.nw n6
    clear J5 N5 T5 n6 c0 c1 lb0
    have c0 := cell2a T6.out.blk
    have c1 := cell2b T6.out.blk
    have lb0 := heap_lt T6.out.blk
    go_wp2_with fail
    refine (QA.out _ T6.out N6.out).mono ?_
    rintro e7 w7 ⟨rfl, n7⟩
    have J7 : Hid (w7.heap[w4.heap.size]? = some (.cells (hbs R) 32 (0, 0))) := (n7.block _ (heap_lt J6.out) (fun f => f)).trans J6.out
    have N7 : Hid (Nw w w7) := N6.out.tr n7
    have T7 : Hid (TSt w7 bs x y b base v L) := T6.out.nw n7
    clear J6 N6 T6 n7 c0 c1 lb0
    go_wp2_with (refine wp_store_agg rfl (.tmp 15) (.tmp 111) 32 32 rfl Tryd.sizeOf32 w7.heap.size 0 rfl _ 32 (heap_new _ _) (hbs A) rfl hAs (hbs_one _) (by decide) (hbs A) (by simp) ?_; intro w8 j8 f8 _; have N8 : Hid (Nw w w8) := (N7.out.alloc _).trans f8 (fun k hk q => by have := N7.out.size; omega); have m8 : Nw w7 w8 := (nwa w7 _).trans f8 (fun k hk q => by omega); have T8 : Hid (TSt w8 bs x y b base v L) := T7.out.nw m8; have J8 : Hid (w8.heap[w4.heap.size]? = some (.cells (hbs R) 32 (0, 0))) := (m8.block _ (heap_lt J7.out) (fun f => f)).trans J7.out; have I8 : Hid (w8.heap[w7.heap.size]? = some (.cells (hbs A) 32 (0, 0))) := j8; clear j8 f8 m8; have c0 := cell2a T8.out.blk; have c1 := cell2b T8.out.blk; have lb0 := heap_lt T8.out.blk)
    refine (QB.out _ T8.out N8.out).mono ?_
    rintro e9 w9 ⟨rfl, n9⟩
    have J9 : Hid (w9.heap[w4.heap.size]? = some (.cells (hbs R) 32 (0, 0))) := (n9.block _ (heap_lt J8.out) (fun f => f)).trans J8.out
    have I9 : Hid (w9.heap[w7.heap.size]? = some (.cells (hbs A) 32 (0, 0))) := (n9.block _ (heap_lt I8.out) (fun f => f)).trans I8.out
    have N9 : Hid (Nw w w9) := N8.out.tr n9
    clear J8 I8 N8 T8 n9 c0 c1 lb0
    go_wp2_with (refine wp_store_agg rfl (.tmp 17) (.tmp 123) 32 32 rfl Tryd.sizeOf32 w9.heap.size 0 rfl _ 32 (heap_new _ _) (hbs Bh) rfl hBs (hbs_one _) (by decide) (hbs Bh) (by simp) ?_; intro w10 j10 f10 _; have N10 : Hid (Nw w w10) := (N9.out.alloc _).trans f10 (fun k hk q => by have := N9.out.size; omega); have m10 : Nw w9 w10 := (nwa w9 _).trans f10 (fun k hk q => by omega); have J10 : Hid (w10.heap[w4.heap.size]? = some (.cells (hbs R) 32 (0, 0))) := (m10.block _ (heap_lt J9.out) (fun f => f)).trans J9.out; have I10 : Hid (w10.heap[w7.heap.size]? = some (.cells (hbs A) 32 (0, 0))) := (m10.block _ (heap_lt I9.out) (fun f => f)).trans I9.out; have K10 : Hid (w10.heap[w9.heap.size]? = some (.cells (hbs Bh) 32 (0, 0))) := j10; clear j10 f10 m10)
    (refine wp_region_grown (by kernel_rfl) (by kernel_rfl) ?_; (repeat (first | go_big_quiet_skip | (go_big_quiet_want; first | (refine quiet_load (.tmp 8) rfl w4.heap.size 0 rfl R HR32.out (hash_cells J10.out) ?_; ((try simp only [Act.put, List.setIfInBounds_toArray, List.set_cons_zero, List.set_cons_succ]); go_big_quiet_on)) | (refine quiet_load (.tmp 15) rfl w7.heap.size 0 rfl A HA32.out (hash_cells I10.out) ?_; ((try simp only [Act.put, List.setIfInBounds_toArray, List.set_cons_zero, List.set_cons_succ]); go_big_quiet_on)) | (refine quiet_load (.tmp 17) rfl w9.heap.size 0 rfl Bh HB32.out (hash_cells K10.out) ?_; ((try simp only [Act.put, List.setIfInBounds_toArray, List.set_cons_zero, List.set_cons_succ]); go_big_quiet_on)) | (refine quiet_eql (.tmp 144) (.tmp 147) rfl R HR32.out rfl rfl ?_; ((try simp only [Act.put, List.setIfInBounds_toArray, List.set_cons_zero, List.set_cons_succ]); go_big_quiet_on)) | (go_big_quiet_op; first | go_big_quiet_on | go_big_quiet_call (first | rfl | with_reducible exact grw_call QN2.out N10.out _ | with_reducible exact grw_call QV.out N10.out _))))); refine wpQuiet_nil ?_; rintro _ ⟨⟨W, nW⟩, rfl⟩)
    go_wp2
    go_ret
    exact ⟨rfl, N10.out.tr nW⟩
  · rw [treeA, if_neg hok]
    have hRs : (hbs zh).size = 32 := by rw [hbs_size, zh_len]
    have hw : ((y : Int) < (x : Int) ∧ y < x) ∨ (¬ (y : Int) < (x : Int) ∧ (L.length : Int) < (y : Int) ∧ L.length < y) := by omega
    obtain ⟨Z, hZ⟩ : ∃ Z, Z = zh := ⟨_, rfl⟩
    have HZ32 : Hid (Z.length = 32) := by rw [hZ]; exact zh_len
    have HZe : Hid (zh = Z) := hZ.symm
    rw [← hZ] at hRs ⊢
    clear hok hZ
    rcases hw with ⟨hw1, hw2⟩ | ⟨hw1, hw2, hw3⟩
    · go_wp2_with (refine wp_store_agg rfl (.tmp 8) (.tmp 37) 32 32 rfl Tryd.sizeOf32 w4.heap.size 0 rfl _ 32 (heap_new _ _) (hbs Z) rfl hRs (hbs_one _) (by decide) (hbs Z) (by simp) ?_; intro w5 j5 f5 _; have N5 : Hid (Nw w w5) := (N4.out.alloc _).trans f5 (fun k hk q => by have := N4.out.size; omega); have T5 : Hid (TSt w5 bs x y b base v L) := T4.out.nw ((nwa w4 _).trans f5 (fun k hk q => by omega)); have c0 := cell2a T5.out.blk; have c1 := cell2b T5.out.blk; have lb0 := heap_lt T5.out.blk; have J5 : Hid (w5.heap[w4.heap.size]? = some (.cells (hbs Z) 32 (0, 0))) := j5; clear j5 f5)
      refine (QI.out _ N5.out).mono ?_
      rintro e6 w6 ⟨rfl, n6⟩
      have J6 : Hid (w6.heap[w4.heap.size]? = some (.cells (hbs Z) 32 (0, 0))) := (n6.block _ (heap_lt J5.out) (fun f => f)).trans J5.out
      have N6 : Hid (Nw w w6) := N5.out.tr n6
      clear J5 N5 T5 n6 c0 c1 lb0
      go_wp2_with first
        | (refine wpl_load rfl (.tmp 8) rfl w4.heap.size 0 rfl Z HZ32.out (hash_cells J6.out) ?_)
        | (refine wpl_zero rfl rfl ?_; rw [HZe.out])
        | (refine wpl_eql rfl (.tmp 54) (.tmp 55) rfl Z HZ32.out rfl rfl ?_)
      refine (QV.out _ N6.out).mono ?_
      rintro e7 w7 ⟨rfl, n7⟩
      go_wp2
      go_ret
      exact ⟨rfl, N6.out.tr n7⟩
    · go_wp2_with (refine wp_store_agg rfl (.tmp 8) (.tmp 37) 32 32 rfl Tryd.sizeOf32 w4.heap.size 0 rfl _ 32 (heap_new _ _) (hbs Z) rfl hRs (hbs_one _) (by decide) (hbs Z) (by simp) ?_; intro w5 j5 f5 _; have N5 : Hid (Nw w w5) := (N4.out.alloc _).trans f5 (fun k hk q => by have := N4.out.size; omega); have T5 : Hid (TSt w5 bs x y b base v L) := T4.out.nw ((nwa w4 _).trans f5 (fun k hk q => by omega)); have c0 := cell2a T5.out.blk; have c1 := cell2b T5.out.blk; have lb0 := heap_lt T5.out.blk; have J5 : Hid (w5.heap[w4.heap.size]? = some (.cells (hbs Z) 32 (0, 0))) := j5; clear j5 f5)
      refine (QI.out _ N5.out).mono ?_
      rintro e6 w6 ⟨rfl, n6⟩
      have J6 : Hid (w6.heap[w4.heap.size]? = some (.cells (hbs Z) 32 (0, 0))) := (n6.block _ (heap_lt J5.out) (fun f => f)).trans J5.out
      have N6 : Hid (Nw w w6) := N5.out.tr n6
      clear J5 N5 T5 n6 c0 c1 lb0
      go_wp2_with first
        | (refine wpl_load rfl (.tmp 8) rfl w4.heap.size 0 rfl Z HZ32.out (hash_cells J6.out) ?_)
        | (refine wpl_zero rfl rfl ?_; rw [HZe.out])
        | (refine wpl_eql rfl (.tmp 54) (.tmp 55) rfl Z HZ32.out rfl rfl ?_)
      refine (QV.out _ N6.out).mono ?_
      rintro e7 w7 ⟨rfl, n7⟩
      go_wp2
      go_ret
      exact ⟨rfl, N6.out.tr n7⟩
end Go.Proofs.YthkkjpefealdgaaDoor
