/- TileHalves: the walk. -/
import Derived.Test.YtlgokcijmhkdiabGreatDoorUi
import Derived.Test.YtlgokcijmhkdiabGreatDoorUc
import Derived.Test.YtlgokcijmhkdiabGreatDoorTz
namespace Go.Proofs.YtlgokcijmhkdiabGreatDoor
open Go.RowKit
set_option linter.unusedVariables false
set_option linter.unusedSimpArgs false
theorem rw_at {w : World} {g o c : Nat} {l : List (List UInt8)} (h : Rw w (some ⟨g, o, none⟩) c l) {k : Nat} {x : List UInt8} (hk : l[k]? = some x) : ∀ j, j < 32 → w.cell? ⟨g, o + k * 32 + j, none⟩ = (hbs x)[j]? := by
  obtain ⟨ad, cp, e, h2⟩ := h.2
  injection e with e1 e2 e3
  obtain ⟨g', o', e4, h3⟩ := h2 _ _ hk
  rw [← e1] at e4
  simp only [Option.some.injEq, Addr.mk.injEq, and_true] at e4
  obtain ⟨rfl, rfl⟩ := e4
  exact h3
theorem ovr_cut (k A : Nat) (l : List (List UInt8)) : ovr (k + 1) ((l.drop A).take (2 ^ (k + 1))) = Sh (1 :: (ovr k ((l.drop A).take (2 ^ k)) ++ ovr k ((l.drop (A + 2 ^ k)).take (2 ^ k)))) := by
  have hp : 2 ^ (k + 1) = 2 ^ k + 2 ^ k := by rw [Nat.pow_succ]; omega
  show Sh _ = _
  rw [hp, List.take_take, Nat.min_eq_left (Nat.le_add_right _ _), List.drop_take, List.drop_drop, Nat.add_sub_cancel]
set_option maxRecDepth 100000 in
set_option maxHeartbeats 4000000 in
theorem halves_any (L : List (List UInt8)) (h32 : ∀ x ∈ L, x.length = 32) (hl : L.length < 4611686018427387904) (ad : Option Addr) (c : Nat) (x y : Int) (hx : -9223372036854775808 ≤ x ∧ x ≤ 9223372036854775807) (hy : -9223372036854775808 ≤ y ∧ y ≤ 9223372036854775807) (w : World) (hr : Rw w ad c L) (hLd : Laid w) (hP : TX.Pow w) (hM : MaxL w) {B : Nat} {a : Nat → Addr} (hSe : Sent B w a) :
    Calls Tryz.prog 6 #[.slice ad L.length c, .int .i64 x, .int .i64 y] w fun e w' => e = .returned (.bool true) ∧ Nw w w' := by
  have QV : Hid (∀ V, Nw w V → Calls Tryz.prog 15 #[] V fun e w' => e = .returned (.bool true) ∧ Nw V w') := fun V nV => lives_any V (hP.fr nV) (hM.nw nV) (hSe.fr nV (fun _ _ f => f))
  have QI : Hid (∀ V, Nw w V → Calls Tryz.prog 18 #[sen (a 1), .int .i64 2] V fun e w' => e = .returned (.bool true) ∧ Nw V w') := fun V nV => isjT hSe 1 (by omega) 2 rfl V nV
  have QE : Hid (∀ V, Nw w V → ¬ okH L.length x y → Calls Tryz.prog 21 #[.slice ad L.length c, .int .i64 x, .int .i64 y] V fun e w' => e = .returned (.tuple #[.agg (hbs zh), sen (a 1)]) ∧ Nw V w') := fun V nV hn => thash_no ad L.length c x y hl hx hy hn V (hSe.fr nV (fun _ _ f => f))
  have HR : Hid (Rw w ad c L) := hr
  have HLD : Hid (Laid w) := hLd
  have H32 : Hid (∀ x ∈ L, x.length = 32) := h32
  have q2 := beyond_any (some ⟨w.heap.size, 0, none⟩) 1 [L.length] _ (one_int w L.length) (getD_all (by intro k hk; simp only [List.mem_cons, List.not_mem_nil, or_false] at hk; subst hk; exact hl)) (by simp)
  rw [show [L.length].length = 1 from rfl] at q2
  clear hP hM hSe hr hLd h32
  obtain ⟨n, hn⟩ : ∃ n, n = L.length := ⟨_, rfl⟩
  have HN : Hid (n = L.length) := hn
  rw [← hn] at q2 QE hl ⊢
  clear hn
  have hni : (n : Int) < 4611686018427387904 := by omega
  go_enter Tryz.func6, Tryz.ntmps6
  go_wp2_with fail
  refine q2.mono ?_
  rintro _ w1 ⟨rfl, h1⟩
  have N1 : Hid (Nw w w1) := by rw [h1]; exact nwa w _
  clear h1 q2
  by_cases hbig : 1048576 < [n].sum
  · rw [decide_eq_true hbig]
    go_wp2
    go_ret
    exact ⟨rfl, N1.out⟩
  rw [decide_eq_false hbig]
  clear hbig
  by_cases ho : okH n x y
  case neg =>
    have QE' : Hid (∀ V, Nw w V → Calls Tryz.prog 21 #[.slice ad n c, .int .i64 x, .int .i64 y] V fun e w' => e = .returned (.tuple #[.agg (hbs zh), sen (a 1)]) ∧ Nw V w') := fun V nV => QE.out V nV ho
    clear ho
    go_wp2_with fail
    refine (QE'.out _ N1.out).mono ?_
    rintro _ w2 ⟨rfl, n2⟩
    have N2 : Hid (Nw w w2) := N1.out.tr n2
    clear n2
    have hz : (hbs zh).size = 32 := by rw [hbs_size]; simp
    go_wp2_with (refine wp_store_agg rfl (.tmp 7) (.tmp 22) 58 32 rfl Tryz.sizeOf58 w2.heap.size 0 rfl _ 58 (heap_new _ _) (hbs zh) rfl hz (hbs_one _) (by decide) (hbs zh) (by simp) ?_; intro w3 j3 f3 z3; have N3 : Hid (Nw w w3) := (N2.out.alloc _).trans f3 (fun k hk q => by have := N2.out.size; omega); have J3 : Hid (w3.heap[w2.heap.size]? = some (.cells (hbs zh) 58 (0, 0))) := j3; clear f3 j3 z3)
    refine (QI.out _ N3.out).mono ?_
    rintro _ w4 ⟨rfl, n4⟩
    have N4 : Hid (Nw w w4) := N3.out.tr n4
    have J4 : Hid (w4.heap[w2.heap.size]? = some (.cells (hbs zh) 58 (0, 0))) := (n4.block _ (heap_lt J3.out) (fun f => f)).trans J3.out
    clear n4
    have hz2 : zh.length = 32 := by simp
    go_wp2_with (first
      | (refine wpl_load (by rfl) (.tmp 7) rfl w2.heap.size 0 rfl zh hz2 (hash_cells J4.out) ?_)
      | (refine wpl_zero (by rfl) rfl ?_)
      | (refine wpl_eql (by rfl) (.tmp 29) (.tmp 30) rfl zh hz2 rfl rfl ?_))
    refine (QV.out _ N4.out).mono ?_
    rintro _ w5 ⟨rfl, n5⟩
    go_wp2
    go_ret
    exact ⟨rfl, N4.out.tr n5⟩
  obtain ⟨hn256, k, A, hk, rfl, rfl, hA, hd⟩ := ho
  have hk0 : 0 < 2 ^ k := Nat.pow_pos (by decide)
  have hL0 : 0 < L.length := by rw [← HN.out]; omega
  obtain ⟨g, o, rfl⟩ := HR.out.some hL0
  have QH : Hid (∀ k A, k ≤ 8 → A + 2 ^ k ≤ n → A % 2 ^ k = 0 → ∀ V, Nw w V → Calls Tryz.prog 21 #[.slice (some ⟨g, o, none⟩) n c, .int .i64 (A : Int), .int .i64 ((2 ^ k : Nat) : Int)] V fun e w' => e = .returned (.tuple #[.agg (hbs (ovr k ((L.drop A).take (2 ^ k)))), .nilIface]) ∧ Nw V w') := fun k A h1 h2 h3 V nV => by
    have := thash_yes L H32.out (by rw [← HN.out]; exact hn256) k A h1 (by rw [← HN.out]; exact h2) h3 g o c V (HR.out.nw H32.out nV) (HLD.out.nw nV)
    rwa [← HN.out] at this
  have P32 : Hid (∀ k A, (ovr k ((L.drop A).take (2 ^ k))).length = 32) := fun k A => ovr_32 k _ fun x hx => H32.out x (List.mem_of_mem_drop (List.mem_of_mem_take hx))
  have QH1 := show Hid _ from QH.out k A hk hA hd
  obtain ⟨R, hR⟩ : ∃ R, R = ovr k ((L.drop A).take (2 ^ k)) := ⟨_, rfl⟩
  have HRE : Hid (R = ovr k ((L.drop A).take (2 ^ k))) := hR
  have R32 : Hid (R.length = 32) := by show R.length = 32; rw [hR]; exact P32.out k A
  rw [← hR] at QH1
  clear hR
  have hRs : (hbs R).size = 32 := by rw [hbs_size, R32.out]
  obtain ⟨C, hC⟩ : ∃ C, C = 2 ^ k := ⟨_, rfl⟩
  have HC : Hid (C = 2 ^ k) := hC
  rw [← hC] at QH1 hk0 hA hd ⊢
  clear hC hL0
  have hdi : ((A : Int) % (C : Int) != 0) = false := by
    have : (A : Int) % (C : Int) = 0 := by omega
    simp [this]
  have HD : Hid (A % C = 0) := hd
  have HK : Hid (k ≤ 8) := hk
  clear hd hk hx hy QE QI
  clear hl hni
  go_wp2_with fail
  refine (QH1.out _ N1.out).mono ?_
  rintro _ w2 ⟨rfl, n2⟩
  have N2 : Hid (Nw w w2) := N1.out.tr n2
  clear n2 N1
  by_cases h1 : C = 1
  · subst h1
    have hk1 : Hid (k = 0) := by
      show k = 0
      cases k with
      | zero => rfl
      | succ k => have := HC.out; rw [Nat.pow_succ] at this; omega
    obtain ⟨X, hX⟩ : ∃ X, L[A]? = some X := ⟨_, List.getElem?_eq_getElem (by rw [← HN.out]; omega)⟩
    have HRX : Hid (R = X) := by
      show R = X
      rw [HRE.out, hk1.out, Nat.pow_zero]
      show ((L.drop A).take 1).headD zh = X
      have : (L.drop A)[0]? = some X := by rw [List.getElem?_drop]; exact hX
      cases hq : L.drop A with
      | nil => rw [hq] at this; simp at this
      | cons z zs => rw [hq] at this; simpa using this
    have hAi : (A : Int) < (n : Int) := by omega
    have hi1 : ¬ (n : Int) < ((1 : Nat) : Int) := by omega
    go_upto_region 4 with (refine wp_store_agg rfl (.tmp 7) (.tmp 22) 58 32 rfl Tryz.sizeOf58 w2.heap.size 0 rfl _ 58 (heap_new _ _) (hbs R) rfl hRs (hbs_one _) (by decide) (hbs R) (by simp) ?_; intro w3 j3 f3 z3; have N3 : Hid (Nw w w3) := (N2.out.alloc _).trans f3 (fun k hk q => by have := N2.out.size; omega); have J3 : Hid (w3.heap[w2.heap.size]? = some (.cells (hbs R) 58 (0, 0))) := j3; clear f3 j3 z3)
    have G3 : Hid (∀ j, j < 32 → w3.cell? ⟨g, o + A * 32 + j, none⟩ = (hbs R)[j]?) := by
      show ∀ j, j < 32 → _
      rw [HRX.out]
      exact rw_at (HR.out.nw H32.out N3.out) hX
    clear hX
    go_upto_region 6 with fail
    go_upto_region 8 with fail
    go_wp2_with fail
    (refine wp_region_grown (by kernel_rfl) (by kernel_rfl) ?_; (repeat (first | go_big_quiet_skip | (go_big_quiet_want; first | (refine quiet_load (.tmp 7) rfl w2.heap.size 0 rfl R R32.out (hash_cells J3.out) ?_; ((try simp only [Act.put, List.setIfInBounds_toArray, List.set_cons_zero, List.set_cons_succ]); go_big_quiet_on)) | (refine quiet_load (.tmp 72) rfl g (o + A * 32) rfl R R32.out G3.out ?_; ((try simp only [Act.put, List.setIfInBounds_toArray, List.set_cons_zero, List.set_cons_succ]); go_big_quiet_on)) | (refine quiet_eql (.tmp 69) (.tmp 73) rfl R R32.out rfl rfl ?_; ((try simp only [Act.put, List.setIfInBounds_toArray, List.set_cons_zero, List.set_cons_succ]); go_big_quiet_on)) | (go_big_quiet_op; first | go_big_quiet_on | go_big_quiet_call (first | rfl | with_reducible exact grw_call QV.out N3.out _))))); refine wpQuiet_nil ?_; rintro W ⟨⟨_, nW⟩, rfl⟩)
    go_wp2
    go_ret
    exact ⟨rfl, N3.out.tr nW⟩
  obtain ⟨m, hm⟩ : ∃ m, k = m + 1 := by
    cases k with
    | zero => exact absurd HC.out h1
    | succ m => exact ⟨m, rfl⟩
  obtain ⟨D, hD⟩ : ∃ D, D = 2 ^ m := ⟨_, rfl⟩
  have hCD : C = 2 * D := by rw [HC.out, hm, hD, Nat.pow_succ]; omega
  have hD0 : 0 < D := by omega
  have hAD : A % D = 0 ∧ (A + D) % D = 0 := by
    have h2 := HD.out
    rw [hCD] at h2
    have h3 : A % D = 0 := by rw [← Nat.mod_mod_of_dvd A (Nat.dvd_mul_left D 2), h2, Nat.zero_mod]
    exact ⟨h3, by rw [Nat.add_mod_right, h3]⟩
  have QA := show Hid _ from QH.out m A (by have := HK.out; omega) (by rw [← hD]; omega) (by rw [← hD]; exact hAD.1)
  have QB := show Hid _ from QH.out m (A + D) (by have := HK.out; omega) (by rw [← hD]; omega) (by rw [← hD]; exact hAD.2)
  rw [← hD] at QA QB
  rw [Int.natCast_add] at QB
  obtain ⟨R1, hR1⟩ : ∃ R, R = ovr m ((L.drop A).take D) := ⟨_, rfl⟩
  obtain ⟨R2, hR2⟩ : ∃ R, R = ovr m ((L.drop (A + D)).take D) := ⟨_, rfl⟩
  have R132 : Hid (R1.length = 32) := by show R1.length = 32; rw [hR1, hD]; exact P32.out m A
  have R232 : Hid (R2.length = 32) := by show R2.length = 32; rw [hR2, hD]; exact P32.out m (A + 2 ^ m)
  have hRR : R = Sh (1 :: (R1 ++ R2)) := by rw [HRE.out, hR1, hR2, hD, hm]; exact ovr_cut m A L
  have QN : Hid (∀ V, Nw w V → Calls Tryz.prog 22 #[.agg (hbs R1), .agg (hbs R2)] V fun e w' => e = .returned (.agg (hbs R)) ∧ Nw V w') := fun V nV => by rw [hRR]; exact node_any R1 R2 R132.out R232.out V (HLD.out.nw nV)
  rw [← hR1] at QA
  rw [← hR2] at QB
  have hR1s : (hbs R1).size = 32 := by rw [hbs_size, R132.out]
  have hR2s : (hbs R2).size = 32 := by rw [hbs_size, R232.out]
  have hc1 : ((C : Int) == 1) = false := by simp; omega
  have hc2 : (C : Int) / 2 = (D : Int) := by omega
  have hc3 : ((C : Int) % 2 == 0) = true := by simp; omega
  have HCD : Hid (C = 2 * D) := hCD
  have hi1 : ¬ (n : Int) < (C : Int) := by omega
  clear hR1 hR2 hRR hAD hCD hD hm h1
  go_upto_region 4 with (refine wp_store_agg rfl (.tmp 7) (.tmp 22) 58 32 rfl Tryz.sizeOf58 w2.heap.size 0 rfl _ 58 (heap_new _ _) (hbs R) rfl hRs (hbs_one _) (by decide) (hbs R) (by simp) ?_; intro w3 j3 f3 z3; have N3 : Hid (Nw w w3) := (N2.out.alloc _).trans f3 (fun k hk q => by have := N2.out.size; omega); have J3 : Hid (w3.heap[w2.heap.size]? = some (.cells (hbs R) 58 (0, 0))) := j3; clear f3 j3 z3)
  go_upto_region 6 with fail
  go_upto_region 8 with fail
  go_wp2_with fail
  refine (QA.out _ N3.out).mono ?_
  rintro _ w4 ⟨rfl, n4⟩
  have N4 : Hid (Nw w w4) := N3.out.tr n4
  have J4 : Hid (w4.heap[w2.heap.size]? = some (.cells (hbs R) 58 (0, 0))) := (n4.block _ (heap_lt J3.out) (fun f => f)).trans J3.out
  clear n4 N3 J3
  go_wp2_with (refine wp_store_agg rfl (.tmp 9) (.tmp 84) 58 32 rfl Tryz.sizeOf58 w4.heap.size 0 rfl _ 58 (heap_new _ _) (hbs R1) rfl hR1s (hbs_one _) (by decide) (hbs R1) (by simp) ?_; intro w5 j5 f5 z5; have N5 : Hid (Nw w w5) := (N4.out.alloc _).trans f5 (fun k hk q => by have := N4.out.size; omega); have J5 : Hid (w5.heap[w4.heap.size]? = some (.cells (hbs R1) 58 (0, 0))) := j5; have K5 : Hid (w5.heap[w2.heap.size]? = some (.cells (hbs R) 58 (0, 0))) := (f5.block _ (by have := heap_lt J4.out; simp; omega) (fun q => by have := heap_lt J4.out; omega)).trans ((Below.heap_alloc _ _ _ (heap_lt J4.out)).trans J4.out); clear f5 j5 z5)
  refine (QB.out _ N5.out).mono ?_
  rintro _ w6 ⟨rfl, n6⟩
  have N6 : Hid (Nw w w6) := N5.out.tr n6
  have J6 : Hid (w6.heap[w4.heap.size]? = some (.cells (hbs R1) 58 (0, 0))) := (n6.block _ (heap_lt J5.out) (fun f => f)).trans J5.out
  have K6 : Hid (w6.heap[w2.heap.size]? = some (.cells (hbs R) 58 (0, 0))) := (n6.block _ (heap_lt K5.out) (fun f => f)).trans K5.out
  clear n6 N5 J5 K5 J4
  go_wp2_with (refine wp_store_agg rfl (.tmp 11) (.tmp 95) 58 32 rfl Tryz.sizeOf58 w6.heap.size 0 rfl _ 58 (heap_new _ _) (hbs R2) rfl hR2s (hbs_one _) (by decide) (hbs R2) (by simp) ?_; intro w7 j7 f7 z7; have N7 : Hid (Nw w w7) := (N6.out.alloc _).trans f7 (fun k hk q => by have := N6.out.size; omega); have I7 : Hid (w7.heap[w6.heap.size]? = some (.cells (hbs R2) 58 (0, 0))) := j7; have J7 : Hid (w7.heap[w4.heap.size]? = some (.cells (hbs R1) 58 (0, 0))) := (f7.block _ (by have := heap_lt J6.out; simp; omega) (fun q => by have := heap_lt J6.out; omega)).trans ((Below.heap_alloc _ _ _ (heap_lt J6.out)).trans J6.out); have K7 : Hid (w7.heap[w2.heap.size]? = some (.cells (hbs R) 58 (0, 0))) := (f7.block _ (by have := heap_lt K6.out; simp; omega) (fun q => by have := heap_lt K6.out; omega)).trans ((Below.heap_alloc _ _ _ (heap_lt K6.out)).trans K6.out); clear f7 j7 z7)
  (refine wp_region_grown (by kernel_rfl) (by kernel_rfl) ?_; (repeat (first | go_big_quiet_skip | (go_big_quiet_want; first | (refine quiet_load (.tmp 7) rfl w2.heap.size 0 rfl R R32.out (hash_cells K7.out) ?_; ((try simp only [Act.put, List.setIfInBounds_toArray, List.set_cons_zero, List.set_cons_succ]); go_big_quiet_on)) | (refine quiet_load (.tmp 9) rfl w4.heap.size 0 rfl R1 R132.out (hash_cells J7.out) ?_; ((try simp only [Act.put, List.setIfInBounds_toArray, List.set_cons_zero, List.set_cons_succ]); go_big_quiet_on)) | (refine quiet_load (.tmp 11) rfl w6.heap.size 0 rfl R2 R232.out (hash_cells I7.out) ?_; ((try simp only [Act.put, List.setIfInBounds_toArray, List.set_cons_zero, List.set_cons_succ]); go_big_quiet_on)) | (refine quiet_eql (.tmp 109) (.tmp 112) rfl R R32.out rfl rfl ?_; ((try simp only [Act.put, List.setIfInBounds_toArray, List.set_cons_zero, List.set_cons_succ]); go_big_quiet_on)) | (go_big_quiet_op; first | go_big_quiet_on | go_big_quiet_call (first | rfl | with_reducible exact grw_call QN.out N7.out _ | with_reducible exact grw_call QV.out N7.out _))))); refine wpQuiet_nil ?_; rintro W ⟨⟨_, nW⟩, rfl⟩)
  go_wp2
  go_ret
  exact ⟨rfl, N7.out.tr nW⟩
end Go.Proofs.YtlgokcijmhkdiabGreatDoor
