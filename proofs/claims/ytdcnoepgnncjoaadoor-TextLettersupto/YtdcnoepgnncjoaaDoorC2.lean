/- The document's own number of a text; TextNumbers. -/
import Derived.Test.YtdcnoepgnncjoaaDoorC1
namespace Go.Proofs.YtdcnoepgnncjoaaDoor
open Go.RowKit
set_option linter.unusedVariables false
set_option linter.unusedSimpArgs false

/-- A fault as the document's answer tells it. -/
abbrev fv (c : Nat) (p : Int) : Value := .agg #[.int .i64 (c : Int), .int .i64 p]
/-- The place that a fault tells. -/
def fp (c : Nat) (pl : Option Int) : Int := if c = 4 then -1 else pl.getD 0
/-- Two results, the second in memory. -/
theorem results_two {w : World} {fn : Func} {i0 i : Nat} {t : TypeId} {n g : Nat} {tmps : Array Value} {V : Array Value} {ty : TypeId} {f : Nat × Nat} (hr : fn.results = #[.tmp i0, .cell i t]) (hagg : ∀ W : World, (isAgg t).run Tryd.prog W = .ok true W) (hsz : ∀ W : World, (sizeOf t).run Tryd.prog W = .ok n W)
    (hx : tmps.getD i undef = .pointer (some ⟨g, 0, none⟩)) (hg : w.heap[g]? = some (.cells V ty f)) (hV : V.size = n) : (results fn tmps).run Tryd.prog w = .ok (.tuple #[tmps.getD i0 undef, .agg V]) w := by
  have hl : (loadCells ⟨g, 0, none⟩ n).run Tryd.prog w = .ok V w := by
    have := run_loadCells_list (P := Tryd.prog) w ⟨g, 0, none⟩ V.toList (fun j v hv => by
      rw [addZ, cell_of hg]
      simpa using hv)
    simpa [hV] using this
  have ha : ∀ W : World, (asAddr (.pointer (some ⟨g, 0, none⟩))).run Tryd.prog W = .ok ⟨g, 0, none⟩ W := fun W => by simp [asAddr]
  have hx2 : tmps[i]?.getD undef = .pointer (some ⟨g, 0, none⟩) := by rw [← hx]; simp [Array.getD]; split <;> simp_all
  simp [results, hr, hx2, ha, loadVar, hagg, hsz, hl]
theorem num_tens (c : UInt8) (w : World) : Calls Tryd.prog 31 #[.string tensB, .int .u8 (c.toNat : Nat)] w fun e w' => e = .returned (.int .i64 (ix tens c)) ∧ w' = w := number_any tensB c w (by decide)
/-- The block of a fault that a call begins with. -/
abbrev wF (w : World) : World := w.alloc (.cells #[.int .i64 0, .int .i64 0] 27)
theorem kF (w : World) : (wF w).heap[w.heap.size]? = some (.cells #[.int .i64 0, .int .i64 0] 27 (0, 0)) := heap_alloc_new w _
theorem nF (w : World) : Nw w (wF w) := (Fr.refl _ _).alloc _
theorem kF1 {w w1 : World} (n : Nw (wF w) w1) : w1.heap[w.heap.size]? = some (.cells #[.int .i64 0, .int .i64 0] 27 (0, 0)) := (n.block _ (by simp) (fun f => f)).trans (kF w)
theorem nF1 {w w1 w2 : World} (n : Nw w w1) (f : Fr (fun k => k = w.heap.size) w1 w2) : Nw w w2 := n.trans f (fun k hk q => by omega)
set_option maxRecDepth 100000 in
set_option maxHeartbeats 4000000 in
theorem reffromdec_any (s : ByteArray) (w : World) (hs : s.size ≤ 9223372036854775807) :
    Calls Tryd.prog 19 #[.string s] w fun e w' => e = .returned (.tuple #[.int .u64 ((rd 0 s (fromdec s.data.toList)).1 : Nat), fv (rd 0 s (fromdec s.data.toList)).2.1 (fp (rd 0 s (fromdec s.data.toList)).2.1 (rd 0 s (fromdec s.data.toList)).2.2)]) ∧ Nw w w' := by
  obtain ⟨L, hL⟩ : ∃ L, L = s.data.toList := ⟨_, rfl⟩
  have hlen : L.length = s.size := by rw [hL, Array.length_toList]; rfl
  have hC : Hid (∀ k (h : k < s.size), s[k]'h = C L k) := fun k h => by rw [hL]; exact C_get s k h
  rw [← hL]
  clear hL
  by_cases hbig : 1048576 < s.size
  · rw [rd_long _ _ _ hbig]
    have hbz : (1048576 : Int) < (s.size : Int) := by omega
    go_enter Tryd.func19, Tryd.ntmps19
    go_wp2_with fail
    refine (plain_any 4 (wF w) (by decide)).mono ?_
    rintro e w1 ⟨rfl, n1⟩
    have k1 := kF1 n1
    go_wp2_with (refine wp_store_agg rfl (.tmp 3) (.tmp 10) 27 2 rfl Tryd.sizeOf27 w.heap.size 0 rfl #[.int .i64 0, .int .i64 0] 27 k1 #[.int .i64 4, .int .i64 (-1)] rfl rfl (by simp [Value.oneCell']) (Nat.le_refl 2) #[.int .i64 4, .int .i64 (-1)] rfl ?_; intro w5 j5 f5 z5)
    exact bodyPost_ret (results_two Tryd.results19 Tryd.isAgg27 Tryd.sizeOf27 rfl j5 rfl) rfl ⟨rfl, nF1 ((nF w).tr n1) f5⟩
  · have hbz : ¬ (1048576 : Int) < (s.size : Int) := by omega
    by_cases h0 : s.size = 0
    · have hn : L = [] := List.eq_nil_of_length_eq_zero (by omega)
      rw [rd_err _ _ _ hbig 0 (by rw [hn]; rfl)]
      clear hn
      obtain rfl := size_zero s h0
      go_enter Tryd.func19, Tryd.ntmps19
      go_wp2
      go_loop [5] (fun i => i = .int .i64 0) (fun i => 0)
      case atStart => rfl
      case round =>
        obtain rfl := hrel
        go_wp2_with fail
        refine (placed_any 3 0 (wF w)).mono ?_
        rintro e w1 ⟨rfl, n1⟩
        have k1 := kF1 n1
        go_wp2_with (refine wp_store_agg rfl (.tmp 3) (.tmp 52) 27 2 rfl Tryd.sizeOf27 w.heap.size 0 rfl #[.int .i64 0, .int .i64 0] 27 k1 #[.int .i64 3, .int .i64 0] rfl rfl (by simp [Value.oneCell']) (Nat.le_refl 2) #[.int .i64 3, .int .i64 0] rfl ?_; intro w5 j5 f5 z5)
        exact bodyPost_ret (results_two Tryd.results19 Tryd.isAgg27 Tryd.sizeOf27 rfl j5 rfl) rfl ⟨rfl, nF1 ((nF w).tr n1) f5⟩
    · have hne := em_no s h0
      have hfd : fromdec L = undec 0 0 L := by unfold fromdec; rw [if_neg (fun e => h0 (by rw [← hlen, e]; rfl))]
      rw [hfd]
      clear hfd
      have kw := kF w
      go_enter Tryd.func19, Tryd.ntmps19
      go_wp2
      go_loop [4, 5] (fun n i => ∃ k m : Nat, k ≤ s.size ∧ i = .int .i64 k ∧ n = .int .u64 m ∧ m ≤ 18446744073709551615 ∧ (k = 0 → m = 0) ∧ undec 0 0 L = undec k m (L.drop k)) (fun _ i => s.size - (intOf i).toNat)
      case atStart => exact ⟨0, 0, by omega, rfl, rfl, by omega, fun _ => rfl, rfl⟩
      case round =>
        obtain ⟨k, m, hk, rfl, rfl, hm, hkm, hsp⟩ := hrel
        by_cases hlt : k < s.size
        · have hck := hC.out k hlt
          have hx1 := ix_lt tens (C L k)
          rw [show (tens.length : Int) = 10 from rfl] at hx1
          have hx0 := ix_ge tens (C L k)
          have hcall := num_tens (C L k) (wF w)
          have hun : undec k m (L.drop k) = if ix tens (C L k) < 0 ∨ (0 < k ∧ m = 0) ∨ 18446744073709551615 < 10 * m + (ix tens (C L k)).toNat then .error k else undec (k + 1) (10 * m + (ix tens (C L k)).toNat) (L.drop (k + 1)) := by
            rw [drop_C L k (by omega), undec]
          rw [hun] at hsp
          clear hun
          generalize ix tens (C L k) = X at hx1 hx0 hcall hsp
          have HKM : Hid (k = 0 → m = 0) := hkm
          clear hkm
          by_cases hbad : X < 0 ∨ (0 < k ∧ m = 0) ∨ 18446744073709551615 < 10 * m + X.toNat
          · rw [if_pos hbad] at hsp
            have HSP : Hid (undec 0 0 L = .error k) := hsp
            clear hsp
            have hpl := placed_any 3 (k : Int) (wF w)
            have hcs : X < 0 ∨ (¬ X < 0 ∧ 0 < k ∧ m = 0) ∨ (¬ X < 0 ∧ 0 < k ∧ m ≠ 0 ∧ 1844674407370955161 < m) ∨ (¬ X < 0 ∧ 0 < k ∧ m ≠ 0 ∧ m = 1844674407370955161 ∧ 5 < X) := by
              have := HKM.out
              omega
            clear hbad
            rcases hcs with c1 | ⟨c1, c2, c3⟩ | ⟨c1, c2, c3, c4⟩ | ⟨c1, c2, c3, c4, c5⟩
            · go_wp2_with (first
                | (go_at_call 31; refine hcall.mono ?_; rintro e w2 ⟨rfl, rfl⟩)
                | (go_at_call 30; refine hpl.mono ?_; rintro e w1 ⟨rfl, n1⟩; have k1 := kF1 n1)
                | (refine wp_store_agg rfl (.tmp 3) (.tmp 44) 27 2 rfl Tryd.sizeOf27 w.heap.size 0 rfl #[.int .i64 0, .int .i64 0] 27 k1 #[.int .i64 3, .int .i64 (k : Int)] rfl rfl (by simp [Value.oneCell']) (Nat.le_refl 2) #[.int .i64 3, .int .i64 (k : Int)] rfl ?_; intro w5 j5 f5 z5))
              rw [rd_err _ _ _ hbig _ HSP.out]
              exact bodyPost_ret (results_two Tryd.results19 Tryd.isAgg27 Tryd.sizeOf27 rfl j5 rfl) rfl ⟨rfl, nF1 ((nF w).tr n1) f5⟩
            · have c2z : (0 : Int) < (k : Int) := by omega
              have m0z : ((m : Int) == 0) = true := by rw [beq_iff_eq]; omega
              clear c2 c3
              go_wp2_with (first
                | (go_at_call 31; refine hcall.mono ?_; rintro e w2 ⟨rfl, rfl⟩)
                | (go_at_call 30; refine hpl.mono ?_; rintro e w1 ⟨rfl, n1⟩; have k1 := kF1 n1)
                | (refine wp_store_agg rfl (.tmp 3) (.tmp 44) 27 2 rfl Tryd.sizeOf27 w.heap.size 0 rfl #[.int .i64 0, .int .i64 0] 27 k1 #[.int .i64 3, .int .i64 (k : Int)] rfl rfl (by simp [Value.oneCell']) (Nat.le_refl 2) #[.int .i64 3, .int .i64 (k : Int)] rfl ?_; intro w5 j5 f5 z5))
              rw [rd_err _ _ _ hbig _ HSP.out]
              exact bodyPost_ret (results_two Tryd.results19 Tryd.isAgg27 Tryd.sizeOf27 rfl j5 rfl) rfl ⟨rfl, nF1 ((nF w).tr n1) f5⟩
            · have c2z : (0 : Int) < (k : Int) := by omega
              have m0z : ((m : Int) == 0) = false := by rw [beq_eq_false_iff_ne]; omega
              have mcz : (1844674407370955161 : Int) < (m : Int) := by omega
              clear c2 c3 c4
              go_wp2_with (first
                | (go_at_call 31; refine hcall.mono ?_; rintro e w2 ⟨rfl, rfl⟩)
                | (go_at_call 30; refine hpl.mono ?_; rintro e w1 ⟨rfl, n1⟩; have k1 := kF1 n1)
                | (refine wp_store_agg rfl (.tmp 3) (.tmp 44) 27 2 rfl Tryd.sizeOf27 w.heap.size 0 rfl #[.int .i64 0, .int .i64 0] 27 k1 #[.int .i64 3, .int .i64 (k : Int)] rfl rfl (by simp [Value.oneCell']) (Nat.le_refl 2) #[.int .i64 3, .int .i64 (k : Int)] rfl ?_; intro w5 j5 f5 z5))
              rw [rd_err _ _ _ hbig _ HSP.out]
              exact bodyPost_ret (results_two Tryd.results19 Tryd.isAgg27 Tryd.sizeOf27 rfl j5 rfl) rfl ⟨rfl, nF1 ((nF w).tr n1) f5⟩
            · have c2z : (0 : Int) < (k : Int) := by omega
              have m0z : ((m : Int) == 0) = false := by rw [beq_eq_false_iff_ne]; omega
              have mcz : ¬ (1844674407370955161 : Int) < (m : Int) := by omega
              have mez : ((m : Int) == 1844674407370955161) = true := by rw [beq_iff_eq]; omega
              clear c2 c3 c4
              go_wp2_with (first
                | (go_at_call 31; refine hcall.mono ?_; rintro e w2 ⟨rfl, rfl⟩)
                | (go_at_call 30; refine hpl.mono ?_; rintro e w1 ⟨rfl, n1⟩; have k1 := kF1 n1)
                | (refine wp_store_agg rfl (.tmp 3) (.tmp 44) 27 2 rfl Tryd.sizeOf27 w.heap.size 0 rfl #[.int .i64 0, .int .i64 0] 27 k1 #[.int .i64 3, .int .i64 (k : Int)] rfl rfl (by simp [Value.oneCell']) (Nat.le_refl 2) #[.int .i64 3, .int .i64 (k : Int)] rfl ?_; intro w5 j5 f5 z5))
              rw [rd_err _ _ _ hbig _ HSP.out]
              exact bodyPost_ret (results_two Tryd.results19 Tryd.isAgg27 Tryd.sizeOf27 rfl j5 rfl) rfl ⟨rfl, nF1 ((nF w).tr n1) f5⟩
          · rw [if_neg hbad] at hsp
            have HSP : Hid (undec 0 0 L = undec (k + 1) (10 * m + X.toNat) (L.drop (k + 1))) := hsp
            clear hsp
            have c1 : ¬ X < 0 := by omega
            have hm10 : 10 * m + X.toNat ≤ 18446744073709551615 := by omega
            have hmx : (m : Int) * 10 + X ≤ 18446744073709551615 := by omega
            have HX : Hid ((m : Int) * 10 + X = ((10 * m + X.toNat : Nat) : Int)) := by unfold Hid; omega
            have hcs : k = 0 ∨ (0 < k ∧ m ≠ 0 ∧ ¬ 1844674407370955161 < m ∧ m ≠ 1844674407370955161) ∨ (0 < k ∧ m ≠ 0 ∧ m = 1844674407370955161 ∧ ¬ 5 < X) := by
              have := HKM.out
              omega
            have HC4 : Hid (¬ 1844674407370955161 < m) := by unfold Hid; omega
            clear hbad
            rcases hcs with c2 | ⟨c2, c3, c4, c5⟩ | ⟨c2, c3, c4, c5⟩
            · have m0 : m = 0 := HKM.out c2
              obtain rfl := m0
              obtain rfl := c2
              go_wp2_with (go_at_call 31; refine hcall.mono ?_; rintro e w2 ⟨rfl, rfl⟩)
              exact ⟨⟨1, 10 * 0 + X.toNat, by omega, rfl, by first | (rw [← HX.out]; go_num) | (congr 1; omega), hm10, by omega, HSP.out⟩, by simp [intOf]; omega⟩
            · have c2z : (0 : Int) < (k : Int) := by omega
              have m0z : ((m : Int) == 0) = false := by rw [beq_eq_false_iff_ne]; omega
              have mcz : ¬ (1844674407370955161 : Int) < (m : Int) := by omega
              have mez : ((m : Int) == 1844674407370955161) = false := by rw [beq_eq_false_iff_ne]; omega
              clear c2 c3 c4 c5
              go_wp2_with (go_at_call 31; refine hcall.mono ?_; rintro e w2 ⟨rfl, rfl⟩)
              exact ⟨⟨k + 1, 10 * m + X.toNat, by omega, by go_num, by rw [HX.out], hm10, by omega, HSP.out⟩, by simp [intOf]; omega⟩
            · have c2z : (0 : Int) < (k : Int) := by omega
              have m0z : ((m : Int) == 0) = false := by rw [beq_eq_false_iff_ne]; omega
              have mcz : ¬ (1844674407370955161 : Int) < (m : Int) := by omega
              have mez : ((m : Int) == 1844674407370955161) = true := by rw [beq_iff_eq]; omega
              clear c2 c3 c4
              go_wp2_with (go_at_call 31; refine hcall.mono ?_; rintro e w2 ⟨rfl, rfl⟩)
              exact ⟨⟨k + 1, 10 * m + X.toNat, by omega, by go_num, by rw [HX.out], hm10, by omega, HSP.out⟩, by simp [intOf]; omega⟩
        · obtain rfl : k = s.size := by omega
          have HSP : Hid (undec 0 0 L = .ok m) := by
            unfold Hid
            rw [hsp, List.drop_of_length_le (by omega)]; rfl
          clear hsp
          go_wp2_with (refine wp_store_agg rfl (.tmp 3) (.tmp 54) 27 2 rfl Tryd.sizeOf27 w.heap.size 0 rfl #[.int .i64 0, .int .i64 0] 27 kw #[.int .i64 0, .int .i64 0] rfl rfl (by simp [Value.oneCell']) (Nat.le_refl 2) #[.int .i64 0, .int .i64 0] rfl ?_; intro w5 j5 f5 z5)
          rw [rd_ok _ _ _ hbig _ HSP.out]
          exact bodyPost_ret (results_two Tryd.results19 Tryd.isAgg27 Tryd.sizeOf27 rfl j5 rfl) rfl ⟨rfl, nF1 (nF w) f5⟩

set_option maxRecDepth 100000 in
set_option maxHeartbeats 2000000 in
theorem sameB_of {α : Type} (z : α) (s : ByteArray) (r : Except Nat α) : sameB (rd z s r).2.1 (rd z s r).2.2 ((rd z s r).2.1 : Int) (fp (rd z s r).2.1 (rd z s r).2.2) = true := by
  by_cases h : 1048576 < s.size
  · rw [rd_long _ _ _ h]; rfl
  · cases r with
    | error k => rw [rd_err _ _ _ h k rfl]; simp [fp, sameB]
    | ok b => rw [rd_ok _ _ _ h b rfl]; rfl
theorem rd_le {s : ByteArray} {r : Except Nat Nat} (h : ∀ m, r = .ok m → m < 18446744073709551616) : (rd 0 s r).1 < 18446744073709551616 := by
  unfold rd
  split
  · decide
  · cases r with
    | error k => simp
    | ok m => exact h m rfl
set_option maxRecDepth 100000 in
set_option maxHeartbeats 4000000 in
theorem numbers_any {B : Nat} {w : World} {a : Nat → Addr} (hS : Sent B w a) (hT : Tabs w) (hP : Pow w) (n : Nat) (hn : n < 18446744073709551616) (s : ByteArray) (hs : s.size ≤ 140737488355328) :
    Calls Tryd.prog 5 #[.int .u64 n, .string s] w fun e w' => e = .returned (.bool true) ∧ Nw w w' := by
  have q1 := fromdec_any hS s (by omega)
  have Q2 := fun w => reffromdec_any s w (by omega)
  have HSB := sameB_of 0 s (fromdec s.data.toList)
  generalize rd 0 s (fromdec s.data.toList) = R at q1 Q2 HSB
  obtain ⟨r, c, pl⟩ := R
  have HS : Hid (sameB c pl c (fp c pl) = true) := HSB
  clear HSB
  generalize fp c pl = fpl at Q2 HS
  go_enter Tryd.func5, Tryd.ntmps5
  go_wp2_with fail
  refine q1.mono ?_
  rintro e w1 ⟨v1, rfl, ev1, n1⟩
  clear q1
  go_wp2_with fail
  refine (Q2 w1).mono ?_
  rintro e w2 ⟨rfl, n2⟩
  have f2 : Nw w w2 := n1.tr n2
  go_wp2_with fail
  have nB : Nw w2 (w2.alloc (.cells #[.int .i64 c, .int .i64 fpl] 27)) := (Fr.refl _ _).alloc _
  have cB0 : (w2.alloc (.cells #[.int .i64 c, .int .i64 fpl] 27)).cell? ⟨w2.heap.size, 0, none⟩ = some (.int .i64 c) := by rw [cell_of (heap_alloc_new w2 _)]; rfl
  have cB1 : (w2.alloc (.cells #[.int .i64 c, .int .i64 fpl] 27)).cell? ⟨w2.heap.size, 1, none⟩ = some (.int .i64 fpl) := by rw [cell_of (heap_alloc_new w2 _)]; rfl
  refine (decimal_any n hn _ (hP.fr (f2.tr nB))).mono ?_
  rintro e w3 ⟨rfl, n3⟩
  have f3 : Nw w w3 := (f2.tr nB).tr n3
  go_wp2_with fail
  refine (refdec_any n hn w3).mono ?_
  rintro e w4 ⟨rfl, n4⟩
  have f4 : Nw w w4 := f3.tr n4
  have d0 := (Nw.tr n3 n4).cellOf cB0
  have d1 := (Nw.tr n3 n4).cellOf cB1
  have q5 := same_any (hS.fr f4 (fun _ _ f => f)) (ev1.fr ((n2.tr nB).tr (Nw.tr n3 n4))) (c : Int) fpl
  rw [HS.out] at q5
  clear cB0 cB1
  go_wp2_with fail
  refine q5.mono ?_
  rintro e w5 ⟨rfl, n5⟩
  have f5 : Nw w w5 := f4.tr n5
  go_wp2_with fail
  refine (alive_any (hS.fr f5 (fun _ _ f => f)) (hT.fr f5)).mono ?_
  rintro e w6 ⟨rfl, n6⟩
  go_wp2_with fail
  go_ret
  exact ⟨rfl, f5.tr n6⟩
end Go.Proofs.YtdcnoepgnncjoaaDoor
