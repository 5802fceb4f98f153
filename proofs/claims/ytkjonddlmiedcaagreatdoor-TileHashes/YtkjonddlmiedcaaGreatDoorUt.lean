/- The document's Hash of a tile. -/
import Derived.Test.YtkjonddlmiedcaaGreatDoorUs
import Derived.Test.YtkjonddlmiedcaaGreatDoorUi
import Derived.Test.YtkjonddlmiedcaaGreatDoorEg
namespace Go.Proofs.YtkjonddlmiedcaaGreatDoor
open Go.RowKit
set_option linter.unusedVariables false
set_option linter.unusedSimpArgs false
theorem results_cells {P : Program} {w : World} {fn : Func} {i j : Nat} {t u : TypeId} {n m g k : Nat} {tmps : Array Value} {V U : Array Value} {ty tz : TypeId} {f f2 : Nat × Nat} (hr : fn.results = #[.cell i t, .cell j u]) (hagg : ∀ W : World, (isAgg t).run P W = .ok true W) (hsz : ∀ W : World, (sizeOf t).run P W = .ok n W)
    (hagg2 : ∀ W : World, (isAgg u).run P W = .ok true W) (hsz2 : ∀ W : World, (sizeOf u).run P W = .ok m W)
    (hx : tmps.getD i undef = .pointer (some ⟨g, 0, none⟩)) (hy : tmps.getD j undef = .pointer (some ⟨k, 0, none⟩)) (hg : w.heap[g]? = some (.cells V ty f)) (hV : V.size = n) (hk : w.heap[k]? = some (.cells U tz f2)) (hU : U.size = m) : (results fn tmps).run P w = .ok (.tuple #[.agg V, .agg U]) w := by
  have hl : (loadCells ⟨g, 0, none⟩ n).run P w = .ok V w := by
    have := run_loadCells_list (P := P) w ⟨g, 0, none⟩ V.toList (fun j v hv => by
      rw [addZ, cell_of hg]
      simpa using hv)
    simpa [hV] using this
  have hl2 : (loadCells ⟨k, 0, none⟩ m).run P w = .ok U w := by
    have := run_loadCells_list (P := P) w ⟨k, 0, none⟩ U.toList (fun j v hv => by
      rw [addZ, cell_of hk]
      simpa using hv)
    simpa [hU] using this
  have ha : ∀ (W : World) (q : Nat), (asAddr (.pointer (some ⟨q, 0, none⟩))).run P W = .ok ⟨q, 0, none⟩ W := fun W q => by simp [asAddr]
  have hx2 : tmps[i]?.getD undef = .pointer (some ⟨g, 0, none⟩) := by rw [← hx]; simp [Array.getD]; split <;> simp_all
  have hy2 : tmps[j]?.getD undef = .pointer (some ⟨k, 0, none⟩) := by rw [← hy]; simp [Array.getD]; split <;> simp_all
  simp [results, hr, hx2, hy2, ha, loadVar, hagg, hsz, hl, hagg2, hsz2, hl2]
/-- Is it among the first j powers of two? -/
def pwB (y : Int) : Nat → Bool
  | 0 => false
  | j + 1 => pwB y j || ((2 ^ j : Nat) : Int) == y
theorem pwB_iff (y : Int) : ∀ j, pwB y j = true ↔ ∃ k, k < j ∧ y = ((2 ^ k : Nat) : Int)
  | 0 => by simp [pwB]
  | j + 1 => by
    rw [pwB, Bool.or_eq_true, pwB_iff y j, beq_iff_eq]
    constructor
    · rintro (⟨k, h1, h2⟩ | h)
      · exact ⟨k, by omega, h2⟩
      · exact ⟨j, by omega, h.symm⟩
    · rintro ⟨k, h1, h2⟩
      rcases Nat.lt_or_ge k j with q | q
      · exact .inl ⟨k, q, h2⟩
      · obtain rfl : k = j := by omega
        exact .inr h2.symm
theorem zh_size : (hbs zh).size = 32 := by kernel_rfl
set_option maxRecDepth 100000 in
set_option maxHeartbeats 4000000 in
theorem dhash_no (ad : Option Addr) (n c : Nat) (x y : Int) (hn : n < 4611686018427387904) (hx : -9223372036854775808 ≤ x ∧ x ≤ 9223372036854775807) (hy : -9223372036854775808 ≤ y ∧ y ≤ 9223372036854775807) (h : ¬ okH n x y) (w : World) :
    Calls Tryz.prog 9 #[.slice ad n c, .int .i64 x, .int .i64 y] w fun e w' => e = .returned (.tuple #[.agg (hbs zh), .agg #[.int .i64 2, .int .i64 (-1)]]) ∧ Nw w w' := by
  have HO : Hid (¬ okH n x y) := h
  have hzs := zh_size
  clear h
  go_enter Tryz.func9, Tryz.ntmps9
  go_upto_region 1 with fail
  rw [z32_h]
  obtain ⟨w1, hw1⟩ : ∃ q, (w.alloc (.cells z32 26)).alloc (.cells #[.int .i64 0, .int .i64 0] 32) = q := ⟨_, rfl⟩
  have N1 : Hid (Nw w w1) := by show Nw w w1; rw [← hw1]; exact (nwa w _).alloc _
  have JZ : Hid (w1.heap[w.heap.size]? = some (.cells z32 26)) := by show _ = _; rw [← hw1]; exact ((nwa _ _).block _ (by simp) (fun f => f)).trans (heap_new _ _)
  have JF : Hid (w1.heap[w.heap.size + 1]? = some (.cells #[.int .i64 0, .int .i64 0] 32)) := by show _ = _; rw [← hw1]; exact heap_next _ _ _
  rw [hw1]
  clear hw1
  obtain ⟨hb, hhb⟩ : ∃ q, q = w.heap.size := ⟨_, rfl⟩
  rw [← hhb] at JZ JF ⊢
  have HHB : Hid (hb = w.heap.size) := hhb
  clear hhb
  go_wp2
  go_loopw [8, 9] (fun u v wx => ∃ j : Nat, j ≤ 9 ∧ v = .int .i64 ((2 ^ j : Nat) : Int) ∧ u = .bool (pwB y j) ∧ w1 = wx) (fun _ v _ => 512 - (intOf v).toNat)
  case atStart => exact ⟨0, by omega, rfl, rfl, rfl⟩
  case round =>
    obtain ⟨j, hj, rfl, rfl, rfl⟩ := hrel
    by_cases hj9 : j < 9
    · obtain ⟨m, hm⟩ : ∃ m, m = 2 ^ j := ⟨_, rfl⟩
      have hm1 : m ≤ 256 := by rw [hm]; exact Nat.pow_le_pow_right (by decide) (show j ≤ 8 by omega)
      have hm0 : 1 ≤ m := by rw [hm]; exact Nat.one_le_two_pow
      have HM : Hid (2 * m = 2 ^ (j + 1)) := by show _ = _; rw [hm, Nat.pow_succ]; omega
      have HB : Hid (pwB y (j + 1) = (pwB y j || (m : Int) == y)) := by show _ = _; rw [hm]; rfl
      rw [← hm]
      clear hm
      have h256 : (m : Int) ≤ 256 := by omega
      generalize pwB y j = f at HB ⊢
      cases f
      · go_wp2
        exact ⟨⟨j + 1, by omega, by rw [← HM.out]; go_num, by rw [HB.out]; simp, trivial⟩, by simp [intOf]; omega⟩
      · go_wp2
        exact ⟨⟨j + 1, by omega, by rw [← HM.out]; go_num, by rw [HB.out]; simp, trivial⟩, by simp [intOf]; omega⟩
    · obtain rfl : j = 9 := by omega
      have h512 : ((2 ^ 9 : Nat) : Int) = 512 := by decide
      rw [h512]
      clear h512
      by_cases c1 : (256 : Int) < (n : Int)
      · generalize pwB y 9 = f
        go_wp2_with (refine wpl_zero rfl rfl ?_)
        refine (plain_any 2 _ (by decide)).mono ?_
        rintro e w3 ⟨rfl, n3⟩
        have jz3 := (n3.block _ (heap_lt JZ.out) (fun f => f)).trans JZ.out
        have jf3 := (n3.block _ (heap_lt JF.out) (fun f => f)).trans JF.out
        have N3 : Hid (Nw w w3) := N1.out.tr n3
        clear n3
        go_wp2_with (first | (refine wp_store_agg rfl (.tmp 6) (.tmp 49) 26 32 rfl Tryz.sizeOf26 hb 0 rfl z32 26 jz3 (hbs zh) rfl hzs (hbs_one _) (by decide) (hbs zh) (by rw [z32_drop]; simp) ?_; intro w4 j4 f4 z4; have jf4 : w4.heap[hb + 1]? = some (.cells #[.int .i64 0, .int .i64 0] 32) := (f4.block _ (heap_lt jf3) (by omega)).trans jf3; clear z4) | (refine wp_store_agg rfl (.tmp 7) (.tmp 50) 32 2 rfl Tryz.sizeOf32 (hb + 1) 0 rfl #[.int .i64 0, .int .i64 0] 32 jf4 #[.int .i64 2, .int .i64 (-1)] rfl rfl (by simp [Value.oneCell']) (by decide) #[.int .i64 2, .int .i64 (-1)] (by simp) ?_; intro w5 j5 f5 z5))
        exact bodyPost_ret (results_cells Tryz.results9 Tryz.isAgg26 Tryz.sizeOf26 Tryz.isAgg32 Tryz.sizeOf32 rfl rfl ((f5.block _ (heap_lt j4) (by omega)).trans j4) hzs j5 rfl) rfl ⟨rfl, (N3.out.trans f4 (fun k hk q => by have := HHB.out; omega)).trans f5 (fun k hk q => by have := HHB.out; omega)⟩
      have hpw := pwB_iff y 9
      by_cases c2 : pwB y 9 = true
      rotate_left
      · have c3 : pwB y 9 = false := by simpa using c2
        rw [c3]
        clear c2 c3 hpw
        go_wp2_with (refine wpl_zero rfl rfl ?_)
        refine (plain_any 2 _ (by decide)).mono ?_
        rintro e w3 ⟨rfl, n3⟩
        have jz3 := (n3.block _ (heap_lt JZ.out) (fun f => f)).trans JZ.out
        have jf3 := (n3.block _ (heap_lt JF.out) (fun f => f)).trans JF.out
        have N3 : Hid (Nw w w3) := N1.out.tr n3
        clear n3
        go_wp2_with (first | (refine wp_store_agg rfl (.tmp 6) (.tmp 49) 26 32 rfl Tryz.sizeOf26 hb 0 rfl z32 26 jz3 (hbs zh) rfl hzs (hbs_one _) (by decide) (hbs zh) (by rw [z32_drop]; simp) ?_; intro w4 j4 f4 z4; have jf4 : w4.heap[hb + 1]? = some (.cells #[.int .i64 0, .int .i64 0] 32) := (f4.block _ (heap_lt jf3) (by omega)).trans jf3; clear z4) | (refine wp_store_agg rfl (.tmp 7) (.tmp 50) 32 2 rfl Tryz.sizeOf32 (hb + 1) 0 rfl #[.int .i64 0, .int .i64 0] 32 jf4 #[.int .i64 2, .int .i64 (-1)] rfl rfl (by simp [Value.oneCell']) (by decide) #[.int .i64 2, .int .i64 (-1)] (by simp) ?_; intro w5 j5 f5 z5))
        exact bodyPost_ret (results_cells Tryz.results9 Tryz.isAgg26 Tryz.sizeOf26 Tryz.isAgg32 Tryz.sizeOf32 rfl rfl ((f5.block _ (heap_lt j4) (by omega)).trans j4) hzs j5 rfl) rfl ⟨rfl, (N3.out.trans f4 (fun k hk q => by have := HHB.out; omega)).trans f5 (fun k hk q => by have := HHB.out; omega)⟩
      obtain ⟨k, hk, hyk⟩ := hpw.1 c2
      rw [c2]
      clear c2 hpw
      obtain ⟨C, hC⟩ : ∃ C, C = 2 ^ k := ⟨_, rfl⟩
      rw [← hC] at hyk
      have hC1 : C ≤ 256 := by rw [hC]; exact Nat.pow_le_pow_right (by decide) (show k ≤ 8 by omega)
      have hC0 : 1 ≤ C := by rw [hC]; exact Nat.one_le_two_pow
      have HC : Hid (C = 2 ^ k ∧ k ≤ 8) := ⟨hC, by omega⟩
      subst hyk
      clear hC hk
      by_cases c3 : x < 0
      · go_wp2_with (refine wpl_zero rfl rfl ?_)
        refine (plain_any 2 _ (by decide)).mono ?_
        rintro e w3 ⟨rfl, n3⟩
        have jz3 := (n3.block _ (heap_lt JZ.out) (fun f => f)).trans JZ.out
        have jf3 := (n3.block _ (heap_lt JF.out) (fun f => f)).trans JF.out
        have N3 : Hid (Nw w w3) := N1.out.tr n3
        clear n3
        go_wp2_with (first | (refine wp_store_agg rfl (.tmp 6) (.tmp 49) 26 32 rfl Tryz.sizeOf26 hb 0 rfl z32 26 jz3 (hbs zh) rfl hzs (hbs_one _) (by decide) (hbs zh) (by rw [z32_drop]; simp) ?_; intro w4 j4 f4 z4; have jf4 : w4.heap[hb + 1]? = some (.cells #[.int .i64 0, .int .i64 0] 32) := (f4.block _ (heap_lt jf3) (by omega)).trans jf3; clear z4) | (refine wp_store_agg rfl (.tmp 7) (.tmp 50) 32 2 rfl Tryz.sizeOf32 (hb + 1) 0 rfl #[.int .i64 0, .int .i64 0] 32 jf4 #[.int .i64 2, .int .i64 (-1)] rfl rfl (by simp [Value.oneCell']) (by decide) #[.int .i64 2, .int .i64 (-1)] (by simp) ?_; intro w5 j5 f5 z5))
        exact bodyPost_ret (results_cells Tryz.results9 Tryz.isAgg26 Tryz.sizeOf26 Tryz.isAgg32 Tryz.sizeOf32 rfl rfl ((f5.block _ (heap_lt j4) (by omega)).trans j4) hzs j5 rfl) rfl ⟨rfl, (N3.out.trans f4 (fun k hk q => by have := HHB.out; omega)).trans f5 (fun k hk q => by have := HHB.out; omega)⟩
      by_cases c4 : (256 : Int) < x
      · go_wp2_with (refine wpl_zero rfl rfl ?_)
        refine (plain_any 2 _ (by decide)).mono ?_
        rintro e w3 ⟨rfl, n3⟩
        have jz3 := (n3.block _ (heap_lt JZ.out) (fun f => f)).trans JZ.out
        have jf3 := (n3.block _ (heap_lt JF.out) (fun f => f)).trans JF.out
        have N3 : Hid (Nw w w3) := N1.out.tr n3
        clear n3
        go_wp2_with (first | (refine wp_store_agg rfl (.tmp 6) (.tmp 49) 26 32 rfl Tryz.sizeOf26 hb 0 rfl z32 26 jz3 (hbs zh) rfl hzs (hbs_one _) (by decide) (hbs zh) (by rw [z32_drop]; simp) ?_; intro w4 j4 f4 z4; have jf4 : w4.heap[hb + 1]? = some (.cells #[.int .i64 0, .int .i64 0] 32) := (f4.block _ (heap_lt jf3) (by omega)).trans jf3; clear z4) | (refine wp_store_agg rfl (.tmp 7) (.tmp 50) 32 2 rfl Tryz.sizeOf32 (hb + 1) 0 rfl #[.int .i64 0, .int .i64 0] 32 jf4 #[.int .i64 2, .int .i64 (-1)] rfl rfl (by simp [Value.oneCell']) (by decide) #[.int .i64 2, .int .i64 (-1)] (by simp) ?_; intro w5 j5 f5 z5))
        exact bodyPost_ret (results_cells Tryz.results9 Tryz.isAgg26 Tryz.sizeOf26 Tryz.isAgg32 Tryz.sizeOf32 rfl rfl ((f5.block _ (heap_lt j4) (by omega)).trans j4) hzs j5 rfl) rfl ⟨rfl, (N3.out.trans f4 (fun k hk q => by have := HHB.out; omega)).trans f5 (fun k hk q => by have := HHB.out; omega)⟩
      obtain ⟨A, rfl⟩ : ∃ A : Nat, x = A := ⟨x.toNat, by omega⟩
      have hA : A ≤ 256 := by omega
      have hCz : ¬ (C : Int) = 0 := by omega
      by_cases c5 : A % C = 0
      rotate_left
      · have c6 : ((A : Int) % (C : Int) != 0) = true := by simp only [bne_iff_ne, ne_eq]; omega
        clear c5
        go_wp2_with (refine wpl_zero rfl rfl ?_)
        refine (plain_any 2 _ (by decide)).mono ?_
        rintro e w3 ⟨rfl, n3⟩
        have jz3 := (n3.block _ (heap_lt JZ.out) (fun f => f)).trans JZ.out
        have jf3 := (n3.block _ (heap_lt JF.out) (fun f => f)).trans JF.out
        have N3 : Hid (Nw w w3) := N1.out.tr n3
        clear n3
        go_wp2_with (first | (refine wp_store_agg rfl (.tmp 6) (.tmp 49) 26 32 rfl Tryz.sizeOf26 hb 0 rfl z32 26 jz3 (hbs zh) rfl hzs (hbs_one _) (by decide) (hbs zh) (by rw [z32_drop]; simp) ?_; intro w4 j4 f4 z4; have jf4 : w4.heap[hb + 1]? = some (.cells #[.int .i64 0, .int .i64 0] 32) := (f4.block _ (heap_lt jf3) (by omega)).trans jf3; clear z4) | (refine wp_store_agg rfl (.tmp 7) (.tmp 50) 32 2 rfl Tryz.sizeOf32 (hb + 1) 0 rfl #[.int .i64 0, .int .i64 0] 32 jf4 #[.int .i64 2, .int .i64 (-1)] rfl rfl (by simp [Value.oneCell']) (by decide) #[.int .i64 2, .int .i64 (-1)] (by simp) ?_; intro w5 j5 f5 z5))
        exact bodyPost_ret (results_cells Tryz.results9 Tryz.isAgg26 Tryz.sizeOf26 Tryz.isAgg32 Tryz.sizeOf32 rfl rfl ((f5.block _ (heap_lt j4) (by omega)).trans j4) hzs j5 rfl) rfl ⟨rfl, (N3.out.trans f4 (fun k hk q => by have := HHB.out; omega)).trans f5 (fun k hk q => by have := HHB.out; omega)⟩
      have c6 : ((A : Int) % (C : Int) != 0) = false := by
        have : (A : Int) % (C : Int) = 0 := by omega
        simp [this]
      have c7 : (n : Int) < (A : Int) + (C : Int) := by
        rcases Int.lt_or_le (n : Int) ((A : Int) + (C : Int)) with q | q
        · exact q
        · exact absurd ⟨by omega, k, A, HC.out.2, by rw [HC.out.1], rfl, by rw [← HC.out.1]; omega, by rw [← HC.out.1]; exact c5⟩ HO.out
      clear c5 HO
      go_wp2_with (refine wpl_zero rfl rfl ?_)
      refine (plain_any 2 _ (by decide)).mono ?_
      rintro e w3 ⟨rfl, n3⟩
      have jz3 := (n3.block _ (heap_lt JZ.out) (fun f => f)).trans JZ.out
      have jf3 := (n3.block _ (heap_lt JF.out) (fun f => f)).trans JF.out
      have N3 : Hid (Nw w w3) := N1.out.tr n3
      clear n3
      go_wp2_with (first | (refine wp_store_agg rfl (.tmp 6) (.tmp 49) 26 32 rfl Tryz.sizeOf26 hb 0 rfl z32 26 jz3 (hbs zh) rfl hzs (hbs_one _) (by decide) (hbs zh) (by rw [z32_drop]; simp) ?_; intro w4 j4 f4 z4; have jf4 : w4.heap[hb + 1]? = some (.cells #[.int .i64 0, .int .i64 0] 32) := (f4.block _ (heap_lt jf3) (by omega)).trans jf3; clear z4) | (refine wp_store_agg rfl (.tmp 7) (.tmp 50) 32 2 rfl Tryz.sizeOf32 (hb + 1) 0 rfl #[.int .i64 0, .int .i64 0] 32 jf4 #[.int .i64 2, .int .i64 (-1)] rfl rfl (by simp [Value.oneCell']) (by decide) #[.int .i64 2, .int .i64 (-1)] (by simp) ?_; intro w5 j5 f5 z5))
      exact bodyPost_ret (results_cells Tryz.results9 Tryz.isAgg26 Tryz.sizeOf26 Tryz.isAgg32 Tryz.sizeOf32 rfl rfl ((f5.block _ (heap_lt j4) (by omega)).trans j4) hzs j5 rfl) rfl ⟨rfl, (N3.out.trans f4 (fun k hk q => by have := HHB.out; omega)).trans f5 (fun k hk q => by have := HHB.out; omega)⟩
end Go.Proofs.YtkjonddlmiedcaaGreatDoor
