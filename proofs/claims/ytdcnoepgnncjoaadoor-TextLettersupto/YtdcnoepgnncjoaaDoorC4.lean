/- The document's own bytes of digits. -/
import Derived.Test.YtdcnoepgnncjoaaDoorC3
namespace Go.Proofs.YtdcnoepgnncjoaaDoor
open Go.RowKit
set_option linter.unusedVariables false
set_option linter.unusedSimpArgs false
attribute [local go_sem ↓] Go.wp_at_zero Go.wp_at_succ

theorem num_hexs (c : UInt8) (w : World) : Calls Tryd.prog 31 #[.string hexsB, .int .u8 (c.toNat : Nat)] w fun e w' => e = .returned (.int .i64 (ix hexs c)) ∧ w' = w := number_any hexsB c w (by decide)
theorem prs_more (l : List UInt8) (j : Nat) (h : 2 * j + 1 < l.length) : (prs l).take (j + 1) = (prs l).take j ++ [two (C l (2 * j)) (C l (2 * j + 1))] := by
  have hl : j < (prs l).length := by rw [prs_len]; omega
  rw [List.take_succ_eq_append_getElem hl]
  have := prs_get l j h
  rw [List.getElem?_eq_getElem hl] at this
  rw [Option.some.inj this]
theorem wrap_i64_in (n : Int) (h : -9223372036854775808 ≤ n ∧ n ≤ 9223372036854775807) : IntKind.i64.wrap n = n := IntWalk.i64_in n h
theorem bytes_list (l : List UInt8) : (⟨l.toArray⟩ : ByteArray).data.toList = l := by simp
set_option maxRecDepth 100000 in
set_option maxHeartbeats 8000000 in
theorem reffromhex_any (s : ByteArray) (w : World) (hs : s.size ≤ 9223372036854775807) :
    Calls Tryd.prog 15 #[.string s] w fun e w' => e = .returned (.tuple #[.string ⟨(rd [] s (unhex 0 s.data.toList)).1.toArray⟩, fv (rd [] s (unhex 0 s.data.toList)).2.1 (fp (rd [] s (unhex 0 s.data.toList)).2.1 (rd [] s (unhex 0 s.data.toList)).2.2)]) ∧ Nw w w' := by
  obtain ⟨L, hL⟩ : ∃ L, L = s.data.toList := ⟨_, rfl⟩
  have hlen : L.length = s.size := by rw [hL, Array.length_toList]; rfl
  have hC : Hid (∀ k (h : k < s.size), s[k]'h = C L k) := fun k h => by rw [hL]; exact C_get s k h
  rw [← hL]
  clear hL
  by_cases hbig : 1048576 < s.size
  · rw [rd_long _ _ _ hbig]
    have hbz : (1048576 : Int) < (s.size : Int) := by omega
    go_enter Tryd.func15, Tryd.ntmps15
    go_wp2_with fail
    refine (plain_any 4 (wF w) (by decide)).mono ?_
    rintro e w1 ⟨rfl, n1⟩
    have k1 := kF1 n1
    go_wp2_with (refine wp_store_agg rfl (.tmp 3) (.tmp 10) 27 2 rfl Tryd.sizeOf27 w.heap.size 0 rfl #[.int .i64 0, .int .i64 0] 27 k1 #[.int .i64 4, .int .i64 (-1)] rfl rfl (by simp [Value.oneCell']) (Nat.le_refl 2) #[.int .i64 4, .int .i64 (-1)] rfl ?_; intro w5 j5 f5 z5)
    exact bodyPost_ret (results_two Tryd.results15 Tryd.isAgg27 Tryd.sizeOf27 rfl j5 rfl) rfl ⟨rfl, nF1 ((nF w).tr n1) f5⟩
  · have hbz : ¬ (1048576 : Int) < (s.size : Int) := by omega
    have kw := kF w
    obtain ⟨i0, hi, hz0, hz1, hz2⟩ := info_parts8
    have hz2i := hz2
    clear hz2
    go_enter Tryd.func15, Tryd.ntmps15
    go_wp2
    go_loop [4] (fun i => ∃ k : Nat, k ≤ s.size ∧ i = .int .i64 k ∧ ∀ j, j < k → 0 ≤ ix hexs (C L j)) (fun i => s.size - (intOf i).toNat)
    case atStart => exact ⟨0, by omega, rfl, fun j hj => by omega⟩
    case round =>
      obtain ⟨k, hk, rfl, hgood⟩ := hrel
      have HG : Hid (∀ j, j < k → 0 ≤ ix hexs (C L j)) := hgood
      clear hgood
      by_cases hlt : k < s.size
      · have hck := hC.out k hlt
        have hcall := num_hexs (C L k) (wF w)
        by_cases hX : ix hexs (C L k) < 0
        · have HSP : Hid (unhex 0 L = .error k) := by unfold Hid; rw [unhex_bad L 0 k (by omega) HG.out hX, Nat.zero_add]
          generalize ix hexs (C L k) = X at hcall hX
          have hpl := placed_any 3 (k : Int) (wF w)
          go_wp2_with (first
            | (go_at_call 31; refine hcall.mono ?_; rintro e w2 ⟨rfl, rfl⟩)
            | (go_at_call 30; refine hpl.mono ?_; rintro e w1 ⟨rfl, n1⟩; have k1 := kF1 n1)
            | (refine wp_store_agg rfl (.tmp 3) (.tmp 23) 27 2 rfl Tryd.sizeOf27 w.heap.size 0 rfl #[.int .i64 0, .int .i64 0] 27 k1 #[.int .i64 3, .int .i64 (k : Int)] rfl rfl (by simp [Value.oneCell']) (Nat.le_refl 2) #[.int .i64 3, .int .i64 (k : Int)] rfl ?_; intro w5 j5 f5 z5))
          rw [rd_err _ _ _ hbig _ HSP.out]
          exact bodyPost_ret (results_two Tryd.results15 Tryd.isAgg27 Tryd.sizeOf27 rfl j5 rfl) rfl ⟨rfl, nF1 ((nF w).tr n1) f5⟩
        · have HG2 : Hid (∀ j, j < k + 1 → 0 ≤ ix hexs (C L j)) := fun j hj => by
            rcases Nat.lt_or_ge j k with h | h
            · exact HG.out j h
            · obtain rfl : j = k := by omega
              omega
          generalize ix hexs (C L k) = X at hcall hX
          go_wp2_with (go_at_call 31; refine hcall.mono ?_; rintro e w2 ⟨rfl, rfl⟩)
          exact ⟨⟨k + 1, by omega, by go_num, HG2.out⟩, by simp [intOf]; omega⟩
      · obtain rfl : k = s.size := by omega
        have HGA : Hid (∀ i, i < L.length → 0 ≤ ix hexs (C L i)) := by unfold Hid; rw [hlen]; exact HG.out
        by_cases hodd : s.size % 2 = 1
        · have HSP : Hid (unhex 0 L = .error s.size) := by unfold Hid; rw [unhex_odd L 0 (by omega) HGA.out, Nat.zero_add, hlen]
          have hoz : (((s.size : Int) % 2) != 0) = true := by simp; omega
          have hpl := placed_any 3 (s.size : Int) (wF w)
          go_wp2_with (first
            | (go_at_call 30; refine hpl.mono ?_; rintro e w1 ⟨rfl, n1⟩; have k1 := kF1 n1)
            | (refine wp_store_agg rfl (.tmp 3) (.tmp 30) 27 2 rfl Tryd.sizeOf27 w.heap.size 0 rfl #[.int .i64 0, .int .i64 0] 27 k1 #[.int .i64 3, .int .i64 (s.size : Int)] rfl rfl (by simp [Value.oneCell']) (Nat.le_refl 2) #[.int .i64 3, .int .i64 (s.size : Int)] rfl ?_; intro w5 j5 f5 z5))
          rw [rd_err _ _ _ hbig _ HSP.out]
          exact bodyPost_ret (results_two Tryd.results15 Tryd.isAgg27 Tryd.sizeOf27 rfl j5 rfl) rfl ⟨rfl, nF1 ((nF w).tr n1) f5⟩
        · have HSP : Hid (unhex 0 L = .ok (prs L)) := unhex_even L 0 (by omega) HGA.out
          have hpl : (prs L).length ≤ 1048576 := by rw [prs_len]; omega
          have hoz : (((s.size : Int) % 2) != 0) = false := by simp; omega
          clear HG
          have hwf : (wF w).heap.size = w.heap.size + 1 := by simp
          go_wp2
          go_loopw [5, 6] (fun b i wr => ∃ j p : Nat, p = 2 * j ∧ p ≤ s.size ∧ i = .int .i64 p ∧ Own (w.heap.size + 1) wr b ((prs L).take j) ∧ Below (w.heap.size + 1) (wF w) wr) (fun _ i _ => s.size - (intOf i).toNat)
          case atStart => exact ⟨0, 0, rfl, by omega, rfl, World.ownsRow_nil _ _ _ _, Below.refl _ _⟩
          case round =>
            obtain ⟨j, p, hpj, hp, rfl, ho, hb⟩ := hrel
            have HPJ : Hid (p = 2 * j) := hpj
            clear hpj
            have hsz : w.heap.size + 1 ≤ wr.heap.size := by have := hb.size; omega
            by_cases hlt : p < s.size
            · have hp1 : p + 1 < s.size := by have := HPJ.out; omega
              have hck := hC.out p hlt
              have hck1 := hC.out (p + 1) hp1
              have hl1 := ix_lt hexs (C L p)
              have hl2 := ix_lt hexs (C L (p + 1))
              rw [show (hexs.length : Int) = 16 from rfl] at hl1 hl2
              have hg1 := HGA.out p (by omega)
              have hg2 := HGA.out (p + 1) (by omega)
              have HM : Hid ((prs L).take (j + 1) = (prs L).take j ++ [two (C L p) (C L (p + 1))]) := by
                unfold Hid
                have := HPJ.out
                subst this
                exact prs_more L j (by omega)
              have HT : Hid (((two (C L p) (C L (p + 1))).toNat : Int) = 16 * ix hexs (C L p) + ix hexs (C L (p + 1))) := by
                unfold Hid two
                rw [UInt8.toNat_ofNat', Nat.mod_eq_of_lt (by omega)]
                omega
              generalize two (C L p) (C L (p + 1)) = tw at HM HT
              generalize C L p = c1 at hck hl1 hg1 HT
              generalize C L (p + 1) = c2 at hck1 hl2 hg2 HT
              have hal : ((prs L).take j).length ≤ 1048576 := by rw [List.length_take]; omega
              generalize (prs L).take j = A at ho HM hal
              obtain ⟨ca, cc, rfl⟩ := ownsRow_form ho
              have b0 : (0 : Int) ≤ (p : Int) := by omega
              have b1 : (p : Int) < (s.size : Int) := by omega
              have b2 : (0 : Int) ≤ (p : Int) + 1 := by omega
              have b3 : (p : Int) + 1 < (s.size : Int) := by omega
              have e1 : IntKind.i64.wrap ((p : Int) + 1) = (p : Int) + 1 := wrap_i64_in _ (by omega)
              have e2 : IntKind.i64.wrap (16 * ix hexs c1) = 16 * ix hexs c1 := wrap_i64_in _ (by omega)
              have e3 : IntKind.i64.wrap (16 * ix hexs c1 + ix hexs c2) = 16 * ix hexs c1 + ix hexs c2 := wrap_i64_in _ (by omega)
              have e4 : IntKind.u8.wrap (16 * ix hexs c1 + ix hexs c2) = 16 * ix hexs c1 + ix hexs c2 := wraps_u8 _ (by omega) (by omega)
              go_wp2_with fail
              go_region_held3 (fun w' => True) (trivial) (first
                | (go_at_call 31; refine (num_hexs _ _).mono ?_; rintro e w' ⟨rfl, rfl⟩)
                | (show if Region.wanted (Oper.mk _ (.call ⟨.builtin .append, _, _⟩) _ _ _ _) _ = true then _ else _; refine step_append_lies _ (by rfl) _ _ _ (by rfl) (w.heap.size + 1) 5 i0 (.int .u8 0) 1 1 Tryd.underlying43 hi hz0 hz1 hz2i rfl (by omega) (.slice ca A.length cc) A.length (bc A) (by rfl) ((ho.alloc _).drew) ⟨wr.heap.size, 0, none⟩ 1 1 [_] (by rfl) (by rfl) (World.news_of_block (cs := #[_]) (t := 5) (fr := (0, 0)) (heap_alloc_new wr _)) (by simp [Value.oneCell']) (by omega) (by unfold maxLen; omega) (by omega) (by simp; omega) (wr.heap.size + 1) (by simp) ?_; intro gg cap w1 hown1 hgrow hat hlt2))
              all_goals go_wp2
              all_goals
                refine ⟨⟨j + 1, p + 2, by have := HPJ.out; omega, by omega, by go_num, ?_, own_grown ((hb.alloc hsz _).drew) ((ho.alloc _).drew) hgrow (by simp)⟩, by simp [intOf]; omega⟩
                rw [HM.out]
                refine own_more ?_ hown1 rfl
                show _ = [Value.int .u8 _]
                rw [HT.out]
            · obtain rfl : p = s.size := by omega
              have hje : (prs L).take j = prs L := List.take_of_length_le (by rw [prs_len, hlen]; have := HPJ.out; omega)
              rw [hje] at ho
              clear hje
              obtain ⟨R, hR⟩ : ∃ R, R = prs L := ⟨_, rfl⟩
              have HR : Hid (unhex 0 L = .ok R) := by unfold Hid; rw [HSP.out, hR]
              rw [← hR] at ho
              clear hR
              have hcv := conv_own ho
              obtain ⟨ca, cc, rfl⟩ := ownsRow_form ho
              have k1 := (hb.block w.heap.size (by omega)).trans kw
              have n1 : Nw (wF w) wr := ⟨hb.os, hb.tape, hb.output, hb.size, fun k hk _ => hb.block k (by rw [hwf] at hk; exact hk)⟩
              go_wp2_with (refine wp_store_agg rfl (.tmp 3) (.tmp 54) 27 2 rfl Tryd.sizeOf27 w.heap.size 0 rfl #[.int .i64 0, .int .i64 0] 27 k1 #[.int .i64 0, .int .i64 0] rfl rfl (by simp [Value.oneCell']) (Nat.le_refl 2) #[.int .i64 0, .int .i64 0] rfl ?_; intro w5 j5 f5 z5)
              rw [rd_ok _ _ _ hbig _ HR.out]
              exact bodyPost_ret (results_two Tryd.results15 Tryd.isAgg27 Tryd.sizeOf27 rfl j5 rfl) rfl ⟨rfl, nF1 ((nF w).tr n1) f5⟩
end Go.Proofs.YtdcnoepgnncjoaaDoor
