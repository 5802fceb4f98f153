/- The document's own lines of a text. -/
import Derived.Test.YtebbgpnhkpbefaaGreatDoorA11
import Derived.Test.YtebbgpnhkpbefaaGreatDoorE6
import Derived.Laws.DeepStrings4
namespace Go.Proofs.YtebbgpnhkpbefaaGreatDoor
open Go.RowKit
set_option linter.unusedVariables false
set_option linter.unusedSimpArgs false

/-- A fault as the document's answer tells it. -/
abbrev fv (c : Nat) (p : Int) : Value := .agg #[.int .i64 (c : Int), .int .i64 p]
/-- The place that a fault tells. -/
def fp (c : Nat) (pl : Option Int) : Int := if c = 4 then -1 else pl.getD 0
/-- Two results, the second in memory. -/
theorem results_two {w : World} {fn : Func} {i0 i : Nat} {t : TypeId} {n g : Nat} {tmps : Array Value} {V : Array Value} {ty : TypeId} {f : Nat × Nat} (hr : fn.results = #[.tmp i0, .cell i t]) (hagg : ∀ W : World, (isAgg t).run Tryz.prog W = .ok true W) (hsz : ∀ W : World, (sizeOf t).run Tryz.prog W = .ok n W)
    (hx : tmps.getD i undef = .pointer (some ⟨g, 0, none⟩)) (hg : w.heap[g]? = some (.cells V ty f)) (hV : V.size = n) : (results fn tmps).run Tryz.prog w = .ok (.tuple #[tmps.getD i0 undef, .agg V]) w := by
  have hl : (loadCells ⟨g, 0, none⟩ n).run Tryz.prog w = .ok V w := by
    have := run_loadCells_list (P := Tryz.prog) w ⟨g, 0, none⟩ V.toList (fun j v hv => by
      rw [addZ, cell_of hg]
      simpa using hv)
    simpa [hV] using this
  have ha : ∀ W : World, (asAddr (.pointer (some ⟨g, 0, none⟩))).run Tryz.prog W = .ok ⟨g, 0, none⟩ W := fun W => by simp [asAddr]
  have hx2 : tmps[i]?.getD undef = .pointer (some ⟨g, 0, none⟩) := by rw [← hx]; simp [Array.getD]; split <;> simp_all
  simp [results, hr, hx2, ha, loadVar, hagg, hsz, hl]
/-- The block of a fault that a call begins with. -/
abbrev wF (w : World) : World := w.alloc (.cells #[.int .i64 0, .int .i64 0] 24)
theorem kF (w : World) : (wF w).heap[w.heap.size]? = some (.cells #[.int .i64 0, .int .i64 0] 24 (0, 0)) := heap_alloc_new w _
theorem nF (w : World) : Nw w (wF w) := (Fr.refl _ _).alloc _
theorem kF1 {w w1 : World} (n : Nw (wF w) w1) : w1.heap[w.heap.size]? = some (.cells #[.int .i64 0, .int .i64 0] 24 (0, 0)) := (n.block _ (by simp) (fun f => f)).trans (kF w)
theorem nF1 {w w1 w2 : World} (n : Nw w w1) (f : Fr (fun k => k = w.heap.size) w1 w2) : Nw w w2 := n.trans f (fun k hk q => by omega)

/-- What stands behind the last line feed, and what is left. -/
def cu (L : List UInt8) (f i : Nat) : List UInt8 := (L.drop f).take (i - f)
theorem cu_next (L : List UInt8) (f i : Nat) (hf : f ≤ i) (h : i < L.length) : cu L f (i + 1) = cu L f i ++ [C L i] := by
  unfold cu
  rw [show i + 1 - f = (i - f) + 1 by omega, List.take_succ_eq_append_getElem (by rw [List.length_drop]; omega)]
  congr 1
  unfold C
  rw [List.getD_eq_getElem?_getD, List.getElem?_eq_getElem h, List.getElem_drop]
  simp [show f + (i - f) = i by omega]
theorem cu_same (L : List UInt8) (i : Nat) : cu L i i = [] := by unfold cu; simp
theorem lns_feed {L : List UInt8} {f i : Nat} (h : i < L.length) (hc : C L i = 10) : lns (cu L f i) (L.drop i) = cu L f i :: lns [] (L.drop (i + 1)) := by
  rw [drop_C L i h, hc]; simp [lns]
theorem lns_else {L : List UInt8} {f i : Nat} (hf : f ≤ i) (h : i < L.length) (hc : C L i ≠ 10) : lns (cu L f i) (L.drop i) = lns (cu L f (i + 1)) (L.drop (i + 1)) := by
  rw [drop_C L i h, cu_next L f i hf h]
  simp [lns, hc]
theorem ownsRow_base1 {w : World} {base base' : Nat} {e : TypeId} {size : Nat} {v : Value} {n : Nat} {xs : List Value} (h : w.ownsRow base e size v n xs) (hb : base' ≤ base) : w.ownsRow base' e size v n xs := by
  obtain ⟨h1, h2⟩ := h
  refine ⟨h1, ?_⟩
  rcases h2 with h2 | ⟨g, cap, cur, rfl, hg, h3⟩
  · exact .inl h2
  · exact .inr ⟨g, cap, cur, rfl, Nat.le_trans hb hg, h3⟩
theorem mid_slice (s : ByteArray) (p q : Nat) (h1 : p ≤ q) (h2 : q ≤ s.size) (w : World) : (Instr.slice 9 (.string s) (some (.int .i64 (p : Int))) (some (.int .i64 (q : Int))) none).run Tryz.prog w = .ok (.string (s.extract p q)) w := by
  rw [run_slice_string_if _ _ _ _ _ _ _ Tryz.underlying9, if_pos (by omega), if_pos (by omega)]
  rfl
set_option maxRecDepth 100000 in
set_option maxHeartbeats 4000000 in
theorem reflines_any (s : ByteArray) (w : World) (hs : s.size ≤ 9223372036854775807) :
    Calls Tryz.prog 4 #[.string s] w fun e w' => ∃ v, e = .returned (.tuple #[v, fv (rd [] s (unls s.data.toList)).2.1 (fp (rd [] s (unls s.data.toList)).2.1 (rd [] s (unls s.data.toList)).2.2)]) ∧ OwnS w.heap.size w' v (rd [] s (unls s.data.toList)).1 ∧ Nw w w' := by
  obtain ⟨L, hL⟩ : ∃ L, L = s.data.toList := ⟨_, rfl⟩
  have hlen : L.length = s.size := by rw [hL, Array.length_toList]; rfl
  have hC : Hid (∀ k (h : k < s.size), s[k]'h = C L k) := fun k h => by rw [hL]; exact C_get s k h
  have hE : Hid (∀ p q : Nat, s.extract p q = ⟨(cu L p q).toArray⟩) := fun p q => by
    rw [hL, ← bytes_eta (s.extract p q), extract_list]
    rfl
  rw [← hL]
  clear hL
  by_cases hbig : 1048576 < s.size
  · rw [rd_long _ _ _ hbig]
    have hbz : (1048576 : Int) < (s.size : Int) := by omega
    go_enter Tryz.func4, Tryz.ntmps4
    go_wp2_with fail
    refine (plain_any 4 (wF w) (by decide)).mono ?_
    rintro e w1 ⟨rfl, n1⟩
    have k1 := kF1 n1
    go_wp2_with (refine wp_store_agg rfl (.tmp 3) (.tmp 10) 24 2 rfl Tryz.sizeOf24 w.heap.size 0 rfl #[.int .i64 0, .int .i64 0] 24 k1 #[.int .i64 4, .int .i64 (-1)] rfl rfl (by simp [Value.oneCell']) (Nat.le_refl 2) #[.int .i64 4, .int .i64 (-1)] rfl ?_; intro w5 j5 f5 z5)
    exact bodyPost_ret (results_two Tryz.results4 Tryz.isAgg24 Tryz.sizeOf24 rfl j5 rfl) rfl ⟨_, rfl, World.ownsRow_nil _ _ _ _, nF1 ((nF w).tr n1) f5⟩
  · have hbz : ¬ (1048576 : Int) < (s.size : Int) := by omega
    by_cases hlf : Lf L
    · rw [rd_ok _ _ _ hbig (lns [] L) (by unfold unls; rw [if_pos hlf])]
      obtain ⟨i0, hi, hz0, hz1, hz2⟩ := info_partsS
      have hz2i := hz2
      clear hz2
      have HLF : Hid (s.size ≠ 0 → C L (s.size - 1) = 10) := fun h => by
        rcases hlf with e | e
        · rw [e] at hlen; exact absurd hlen.symm h
        · unfold C
          rw [List.getLast?_eq_getElem?, hlen] at e
          rw [List.getD_eq_getElem?_getD, e]; rfl
      clear hlf
      have kw := kF w
      by_cases h0 : s.size = 0
      · have hln : lns [] L = [] := by rw [List.eq_nil_of_length_eq_zero (by omega : L.length = 0)]; rfl
        rw [hln]
        clear hln
        clear hE hC HLF
        obtain rfl := size_zero s h0
        go_enter Tryz.func4, Tryz.ntmps4
        go_wp2
        go_loopw [4, 6] (fun v i wr => v = .slice none 0 0 ∧ i = .int .i64 0 ∧ wr = wF w) (fun _ _ _ => 0)
        case atStart => exact ⟨rfl, rfl, rfl⟩
        case round =>
          obtain ⟨rfl, rfl, rfl⟩ := hrel
          have k1 := kF w
          go_wp2
          exact bodyPost_ret (results_two Tryz.results4 Tryz.isAgg24 Tryz.sizeOf24 rfl k1 rfl) rfl ⟨_, rfl, World.ownsRow_nil _ _ _ _, nF w⟩
      · have h1 : C L (s.size - 1) = 10 := HLF.out h0
        have hck := hC.out (s.size - 1) (by omega)
        rw [h1] at hck
        have hpos : (0 : Int) < (s.size : Int) := by omega
        clear HLF h1
        go_enter Tryz.func4, Tryz.ntmps4
        go_wp2
        clear hck
        go_loopw [4, 5, 6] (fun v f i wr => ∃ (F I : Nat) (ls : List (List UInt8)), f = .int .i64 F ∧ i = .int .i64 I ∧ F ≤ I ∧ I ≤ s.size ∧ OwnS (w.heap.size + 1) wr v ls ∧ ls.length ≤ I ∧ ls ++ lns (cu L F I) (L.drop I) = lns [] L ∧ wr.heap[w.heap.size]? = some (.cells #[.int .i64 0, .int .i64 0] 24 (0, 0)) ∧ Nw w wr) (fun _ _ i _ => s.size - (intOf i).toNat)
        case atStart => exact ⟨0, 0, [], rfl, rfl, by omega, by omega, World.ownsRow_nil _ _ _ _, by simp, by rw [cu_same]; rfl, kw, nF w⟩
        case round =>
          obtain ⟨F, I, ls, rfl, rfl, hFI, hIs, ho, hll, hsp, k1, hnw⟩ := hrel
          have HSP : Hid (ls ++ lns (cu L F I) (L.drop I) = lns [] L) := hsp
          have HNW : Hid (Nw w wr) := hnw
          have hws := hnw.size
          clear hsp hnw kw
          obtain ⟨va, vc, rfl⟩ := ownsRow_form ho
          by_cases hlt : I < s.size
          · have hck := hC.out I hlt
            have hIz : (I : Int) < (s.size : Int) := by omega
            have K1 : Hid (wr.heap[w.heap.size]? = some (.cells #[.int .i64 0, .int .i64 0] 24 (0, 0))) := k1
            have hlk := heap_lt k1
            clear k1
            by_cases hc : C L I = 10
            · rw [hc] at hck
              have hsl := mid_slice s F I hFI (by omega)
              have HS2 : Hid ((ls ++ [cu L F I]) ++ lns (cu L (I + 1) (I + 1)) (L.drop (I + 1)) = lns [] L) := by
                unfold Hid
                rw [← HSP.out, lns_feed (by omega) hc, cu_same]; simp
              have hel := hE.out F I
              rw [hel] at hsl
              clear hel hc
              have ho4 := ho
              generalize cu L F I = line at hsl HS2
              go_wp2_with (at_builtin; refine wpList_append_own _ rfl _ _ 22 rfl (w.heap.size + 1) 9 i0 (.string ⟨#[]⟩) 1 16 Tryz.underlying22 hi hz0 hz1 hz2i rfl (by decide) _ _ _ rfl (ho4.alloc _) ⟨wr.heap.size, 0, none⟩ 1 1 [sv line] rfl rfl (one_new _ _ _) (by simp [Value.oneCell']) (by unfold maxLen; omega) (by omega) (by simp; omega) ?_; intro v' w5 hown' hgrow _; obtain ⟨ga, gc, rfl⟩ := ownsRow_form hown')
              obtain ⟨h5, h6⟩ := own_putS (c := line) (Below.refl _ _) ho4 hown' rfl hgrow (by omega)
              have f6 : Fr (fun k => w.heap.size + 1 ≤ k) wr w5 := ⟨h6.os, h6.tape, h6.output, Nat.le_trans (by simp) hgrow.size, fun k hk hn => h6.block k (by omega)⟩
              exact ⟨⟨I + 1, I + 1, _, by go_num, by go_num, by omega, by omega, h5, by rw [List.length_append]; simp; omega, HS2.out, (f6.block _ hlk (by omega)).trans K1.out, HNW.out.trans f6 (fun k hk q => by omega)⟩, by simp [intOf]; omega⟩
            · have hq : ¬ ((C L I).toNat : Int) = 10 := fun e => hc (by
                have : (C L I).toNat = 10 := by omega
                exact UInt8.toNat_inj.1 this)
              have hq2 : ¬ (C L I).toNat = 10 := by omega
              have HS2 : Hid (ls ++ lns (cu L F (I + 1)) (L.drop (I + 1)) = lns [] L) := by
                unfold Hid
                rw [← HSP.out, lns_else hFI (by omega) hc]
              clear hc
              go_wp2
              exact ⟨⟨F, I + 1, ls, rfl, by go_num, by omega, by omega, ho, by omega, HS2.out, K1.out, HNW.out⟩, by simp [intOf]; omega⟩
          · obtain rfl : I = s.size := by omega
            have HE : Hid (lns [] L = ls) := by
              unfold Hid
              rw [← HSP.out, List.drop_eq_nil_of_le (by omega)]
              simp [lns]
            have ho5 := ownsRow_base1 ho (Nat.le_succ _)
            have l1 := heap_lt k1
            go_wp2_with (refine wp_store_agg rfl (.tmp 3) (.tmp 45) 24 2 rfl Tryz.sizeOf24 w.heap.size 0 rfl #[.int .i64 0, .int .i64 0] 24 k1 #[.int .i64 0, .int .i64 0] rfl rfl (by simp [Value.oneCell']) (Nat.le_refl 2) #[.int .i64 0, .int .i64 0] rfl ?_; intro w5 j5 f5 z5)
            exact bodyPost_ret (results_two Tryz.results4 Tryz.isAgg24 Tryz.sizeOf24 rfl j5 rfl) rfl ⟨_, rfl, by rw [HE.out]; exact ownsRow_keep ho5 (fun g hg => f5.block g (ho.lt g hg).2 (fun e => by have := (ho.lt g hg).1; omega)), nF1 HNW.out f5⟩
    · have h0 : s.size ≠ 0 := fun e => hlf (.inl (List.eq_nil_of_length_eq_zero (by omega)))
      have h1 : ¬ C L (s.size - 1) = 10 := fun e => hlf (.inr (by
        rw [List.getLast?_eq_getElem?, hlen, List.getElem?_eq_getElem (by omega)]
        unfold C at e
        rw [List.getD_eq_getElem?_getD, List.getElem?_eq_getElem (by omega)] at e
        simpa using e))
      rw [rd_err _ _ _ hbig s.size (by unfold unls; rw [if_neg hlf, hlen])]
      clear hlf
      have hck := hC.out (s.size - 1) (by omega)
      have hpos : (0 : Int) < (s.size : Int) := by omega
      have hq2 : ¬ (C L (s.size - 1)).toNat = 10 := fun e => h1 (UInt8.toNat_inj.1 e)
      have hq : ¬ ((C L (s.size - 1)).toNat : Int) = 10 := by omega
      clear h1
      generalize C L (s.size - 1) = cc at hck hq hq2
      go_enter Tryz.func4, Tryz.ntmps4
      go_wp2_with fail
      refine (placed_any 3 (s.size : Int) (wF w)).mono ?_
      rintro e w1 ⟨rfl, n1⟩
      have k1 := kF1 n1
      go_wp2_with (refine wp_store_agg rfl (.tmp 3) (.tmp 24) 24 2 rfl Tryz.sizeOf24 w.heap.size 0 rfl #[.int .i64 0, .int .i64 0] 24 k1 #[.int .i64 3, .int .i64 (s.size : Int)] rfl rfl (by simp [Value.oneCell']) (Nat.le_refl 2) #[.int .i64 3, .int .i64 (s.size : Int)] rfl ?_; intro w5 j5 f5 z5)
      exact bodyPost_ret (results_two Tryz.results4 Tryz.isAgg24 Tryz.sizeOf24 rfl j5 rfl) rfl ⟨_, rfl, World.ownsRow_nil _ _ _ _, nF1 ((nF w).tr n1) f5⟩
end Go.Proofs.YtebbgpnhkpbefaaGreatDoor
