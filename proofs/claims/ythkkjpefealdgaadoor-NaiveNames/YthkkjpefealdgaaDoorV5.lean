/- NaiveNames: the walk. -/
import Derived.Test.YthkkjpefealdgaaDoorV4
namespace Go.Proofs.YthkkjpefealdgaaDoor
open Go.RowKit
set_option linter.unusedVariables false
set_option linter.unusedSimpArgs false

theorem info8b : (Tryd.prog.info? 5).map (fun i => (i.zero, i.size, i.bytes)) = some (some (.int .u8 0), 1, 1) := by kernel_rfl
/-- Many zeros. -/
def zs : ByteArray := ⟨(List.replicate 65537 (0 : UInt8)).toArray⟩
theorem zs_size : zs.size = 65537 := by
  show (List.replicate 65537 (0 : UInt8)).toArray.size = 65537
  rw [List.size_toArray, List.length_replicate]
theorem wpl_mk {w : World} {ops : Array Oper} {rest : List Oper} {o : Oper} {a : Act} {Q : Exit → Act → World → Prop} (hgd : o.guard = none) (ho : o.op = .makeSlice 62 (.const (.int .i64 65537)) (.const (.int .i64 65537)))
    (h : ∀ w', Nw w w' → (convert 62 9 (.slice (some ⟨w.heap.size, 0, none⟩) 65537 65537)).run Tryd.prog w' = .ok (.string zs) w' → wpList Tryd.prog ops Q rest (a.put o.dst (.slice (some ⟨w.heap.size, 0, none⟩) 65537 65537)) w') : wpList Tryd.prog ops Q (o :: rest) a w := by
  obtain ⟨i0, hi, hz0, hz1, hz2⟩ := info_parts info8b
  refine wpList_plain hgd fun K hK => ?_
  have hr := run_make (P := Tryd.prog) w 62 5 i0 (.int .u8 0) Tryd.underlying62 hi hz0 .i64 .i64 65537 65537 (by decide) (by decide) (by rw [hz2]; decide) (by decide)
  rw [show (65537 : Int).toNat = 65537 from rfl, hz1] at hr
  have hb : Bys (w.alloc (.cells (madeCells (Value.int .u8 0).cells (65537 * 1)) 5)) (some ⟨w.heap.size, 0, none⟩) (List.replicate 65537 0) := fun j hj => by
    refine ⟨_, _, rfl, ?_⟩
    rw [Nat.zero_add, cell_of (heap_new w _)]
    rw [List.length_replicate] at hj
    simp only [madeCells, Nat.mul_one, Array.getElem?_map, Array.getElem?_range, hj, if_true, Option.map_some, Value.cells, List.getD_eq_getElem?_getD, List.getElem?_replicate]
    simp [Nat.mod_one]
  have hc := conv_bys hb 65537
  rw [List.length_replicate] at hc
  unfold Oper.wp execOp
  simp only [ho, Act.eval, Sem.run_bind, Sem.run_pure, Result.andThen_ok, hr]
  exact hK _ _ (h _ (nwa w _) hc)
theorem isj {w : World} {B : Nat} {a : Nat → Addr} (hS : Sent B w a) (j : Nat) (hj : j < 16) (W : World) (hW : Nw w W) : Calls Tryd.prog 11 #[sen (a j), .int .i64 ((j + 1 : Nat) : Int)] W fun e w' => e = .returned (.bool true) ∧ Nw W w' := by
  have hsb : sameB (j + 1) none ((j + 1 : Nat) : Int) (-1) = true := by simp [sameB]
  have q := isE_any (hS.fr hW (fun _ _ f => f)) (show EV W a (sen (a j)) (j + 1) none from .inr (.inl ⟨j, hj, rfl, rfl, rfl⟩)) ((j + 1 : Nat) : Int)
  rw [hsb] at q
  exact q
set_option maxRecDepth 100000 in
set_option maxHeartbeats 2000000 in
theorem names_any (w : World) (hL : Laid w) {B : Nat} {a : Nat → Addr} (hS : Sent B w a) :
    Calls Tryd.prog 6 #[] w fun e w' => e = .returned (.bool true) ∧ Nw w w' := by
  have HL : Hid (Laid w) := hL
  have HS : Hid (Sent B w a) := hS
  clear hL hS
  have QV : Hid (∀ W, Nw w W → Calls Tryd.prog 12 #[] W fun e w' => e = .returned (.bool true) ∧ Nw W w') := fun W hW => lives_any W (HL.out.nw hW) (HS.out.fr hW (fun _ _ f => f))
  have QI1 : Hid (∀ W, Nw w W → Calls Tryd.prog 11 #[sen (a 0), .int .i64 1] W fun e w' => e = .returned (.bool true) ∧ Nw W w') := fun W hW => isj HS.out 0 (by decide) W hW
  have QI4 : Hid (∀ W, Nw w W → Calls Tryd.prog 11 #[sen (a 3), .int .i64 4] W fun e w' => e = .returned (.bool true) ∧ Nw W w') := fun W hW => isj HS.out 3 (by decide) W hW
  have QI5 : Hid (∀ W, Nw w W → Calls Tryd.prog 11 #[sen (a 4), .int .i64 5] W fun e w' => e = .returned (.bool true) ∧ Nw W w') := fun W hW => isj HS.out 4 (by decide) W hW
  have q0 : Hid (∀ W, Nw w W → Calls Tryd.prog 9 #[.slice (some ⟨W.heap.size, 0, none⟩) 5 5] (W.alloc (.cells #[.string ta, .string tb, .string tc, .string td, .string te] 9)) fun e w' => ∃ b base v, e = .returned (.tuple #[.pointer (some ⟨b, 0, none⟩), .int .i64 5, .bool true]) ∧ Lg w' b base v [ta, tb, tc, td, te] ∧ Nw W w') := fun W hW => by
    have q := grown_any (some ⟨W.heap.size, 0, none⟩) 5 [ta, tb, tc, td, te] _ (strs5 W ta tb tc td te) (by intro x hx; simp only [List.mem_cons, List.not_mem_nil, or_false] at hx; rcases hx with rfl | rfl | rfl | rfl | rfl <;> decide) (by simp) (HS.out.fr (hW.alloc _) (fun _ _ f => f))
    rw [kp5] at q
    exact q.mono fun e w' ⟨b, base, v, h1, h2, h3, h4⟩ => ⟨b, base, v, h1, h2, Nw.tr (nwa W _) h4⟩
  go_enter Tryd.func6, Tryd.ntmps6
  go_wp2_with fail
  refine (q0.out _ (nwr w)).mono ?_
  rintro e w1 ⟨b, base, v, rfl, g1, n1⟩
  clear q0
  have G1 : Hid (Lg w1 b base v [ta, tb, tc, td, te]) := g1
  have N1 : Hid (Nw w w1) := n1
  clear g1 n1
  obtain ⟨M, hM⟩ : ∃ M, M = [ta, tb, tc, td, te] := ⟨_, rfl⟩
  have HM : Hid (M = [ta, tb, tc, td, te]) := hM
  rw [← hM] at G1
  have hMl : M.length = 5 := by rw [hM]; rfl
  obtain ⟨la, hla⟩ : ∃ x, x = mth [ta] := ⟨_, rfl⟩
  have QLa : Hid (∀ W, Nw w W → Calls Tryd.prog 15 #[.string ta] W fun e w' => e = .returned (.agg (hbs la)) ∧ Nw W w') := fun W hW => by rw [hla, mth_one]; exact leaf_any ta W (HL.out.nw hW) (by decide)
  have Ha : Hid (la.length = 32) := by rw [hla]; exact mth_len _
  obtain ⟨lb, hlb⟩ : ∃ x, x = mth [tb] := ⟨_, rfl⟩
  have QLb : Hid (∀ W, Nw w W → Calls Tryd.prog 15 #[.string tb] W fun e w' => e = .returned (.agg (hbs lb)) ∧ Nw W w') := fun W hW => by rw [hlb, mth_one]; exact leaf_any tb W (HL.out.nw hW) (by decide)
  have Hb : Hid (lb.length = 32) := by rw [hlb]; exact mth_len _
  obtain ⟨lc, hlc⟩ : ∃ x, x = mth [tc] := ⟨_, rfl⟩
  have QLc : Hid (∀ W, Nw w W → Calls Tryd.prog 15 #[.string tc] W fun e w' => e = .returned (.agg (hbs lc)) ∧ Nw W w') := fun W hW => by rw [hlc, mth_one]; exact leaf_any tc W (HL.out.nw hW) (by decide)
  have Hc : Hid (lc.length = 32) := by rw [hlc]; exact mth_len _
  obtain ⟨ld, hld⟩ : ∃ x, x = mth [td] := ⟨_, rfl⟩
  have QLd : Hid (∀ W, Nw w W → Calls Tryd.prog 15 #[.string td] W fun e w' => e = .returned (.agg (hbs ld)) ∧ Nw W w') := fun W hW => by rw [hld, mth_one]; exact leaf_any td W (HL.out.nw hW) (by decide)
  have Hd : Hid (ld.length = 32) := by rw [hld]; exact mth_len _
  obtain ⟨le, hle⟩ : ∃ x, x = mth [te] := ⟨_, rfl⟩
  have QLe : Hid (∀ W, Nw w W → Calls Tryd.prog 15 #[.string te] W fun e w' => e = .returned (.agg (hbs le)) ∧ Nw W w') := fun W hW => by rw [hle, mth_one]; exact leaf_any te W (HL.out.nw hW) (by decide)
  have He : Hid (le.length = 32) := by rw [hle]; exact mth_len _
  obtain ⟨nab, hnab⟩ : ∃ x, x = Sh (1 :: (la ++ lb)) := ⟨_, rfl⟩
  have Hn : Hid (nab.length = 32) := by rw [hnab]; exact Sh_len _
  have QN1 : Hid (∀ W, Nw w W → Calls Tryd.prog 17 #[.agg (hbs la), .agg (hbs lb)] W fun e w' => e = .returned (.agg (hbs nab)) ∧ Nw W w') := fun W hW => by rw [hnab]; exact node_any la lb Ha.out Hb.out W (HL.out.nw hW)
  have EP : Hid ((TR M 3 5).map (hst M) = [lc, ld, nab, le]) := by
    rw [TR, if_pos ⟨by decide, by rw [hMl]; exact Nat.le_refl _⟩, prf35, hM, hlc, hld, hle, hnab, hla, hlb]
    show [mth [tc], mth [td], mth [ta, tb], mth [te]] = _
    rw [mth2]
  have EB : Hid ((TB M 1 3 5).map (hst M) = [la, ld, le]) := by
    rw [TB, if_pos ⟨by decide, by rw [hMl]; exact Nat.le_refl _⟩, bat135, hM, hla, hld, hle]
    rfl
  have QAp : Hid (∀ W, Nw w1 W → Calls Tryd.prog 26 #[.pointer (some ⟨b, 0, none⟩), .string zs] W fun e w' => e = .returned (.tuple #[.int .u64 0, sen (a 3)]) ∧ Nw W w') := fun W hW => append_lim (G1.out.nw hW) zs (by rw [zs_size]; decide) (.inl (by rw [zs_size]; decide)) (HS.out.fr (N1.out.tr hW) (fun _ _ f => f))
  have QAn : Hid (∀ W, Nw w W → Calls Tryd.prog 26 #[.pointer none, .string ⟨#[]⟩] W fun e w' => e = .returned (.tuple #[.int .u64 0, sen (a 0)]) ∧ Nw W w') := fun W hW => append_no (.inl rfl) _ (HS.out.fr hW (fun _ _ f => f))
  have QRn : Hid (∀ W, Nw w W → Calls Tryd.prog 25 #[.pointer (some ⟨W.heap.size, 0, none⟩), .int .u64 0] (W.alloc (.cells #[.bool false, .slice none 0 0] 64)) fun e w' => e = .returned (.tuple #[.agg (hbs zh), sen (a 0)]) ∧ Nw (W.alloc (.cells #[.bool false, .slice none 0 0] 64)) w') := fun W hW => Root_no (.inr ⟨_, _, rfl, heap_new _ _⟩) 0 (HS.out.fr (hW.alloc _) (fun _ _ f => f))
  have QB0 : Hid (∀ W, Nw w1 W → Calls Tryd.prog 20 #[.pointer (some ⟨b, 0, none⟩), .int .u64 2, .int .u64 2, .int .u64 5] W fun e w' => Errd W w' (a 4) e) := fun W hW => by
    have q := Batch_any (G1.out.nw hW) 2 2 5 (by decide) (by decide) (by decide) (HL.out.nw (N1.out.tr hW)) (HS.out.fr (N1.out.tr hW) (fun _ _ f => f))
    simp only [if_neg (show ¬ ((2 < 2 ∧ 2 ≤ 5) ∧ 5 ≤ M.length) from fun q => absurd q.1.1 (by decide))] at q
    exact q
  have QP0 : Hid (∀ W, Nw w1 W → Calls Tryd.prog 19 #[.pointer (some ⟨b, 0, none⟩), .int .u64 0, .int .u64 3] W fun e w' => Errd W w' (a 4) e) := fun W hW => by
    have q := Proof_any (G1.out.nw hW) 0 3 (by decide) (by decide) (HL.out.nw (N1.out.tr hW)) (HS.out.fr (N1.out.tr hW) (fun _ _ f => f))
    simp only [if_neg (show ¬ ((0 < 0 ∧ 0 ≤ 3) ∧ 3 ≤ M.length) from fun q => absurd q.1.1 (by decide))] at q
    exact q
  have QT0 : Hid (∀ W, Nw w1 W → Calls Tryd.prog 10 #[.pointer (some ⟨b, 0, none⟩), .agg #[.int .u64 2, .int .u64 1]] W fun e w' => e = .returned (.tuple #[.agg (hbs zh), sen (a 4)]) ∧ Nw W w') := fun W hW => by
    have q := Tree_any (G1.out.nw hW) 2 1 (by decide) (by decide) (HL.out.nw (N1.out.tr hW)) (HS.out.fr (N1.out.tr hW) (fun _ _ f => f))
    rw [treeA, if_neg (fun q => absurd q.1 (by decide))] at q
    exact q
  have QL0 : Hid (∀ W, Nw w1 W → Calls Tryd.prog 14 #[.pointer (some ⟨b, 0, none⟩), .int .u64 5] W fun e w' => e = .returned (.tuple #[.string ⟨#[]⟩, sen (a 4)]) ∧ Nw W w') := fun W hW => leaf_rng (G1.out.nw hW) 5 (by rw [hMl]; exact Nat.le_refl _) (by decide) (HS.out.fr (N1.out.tr hW) (fun _ _ f => f))
  have QPr : Hid (∀ W, Nw w1 W → Calls Tryd.prog 19 #[.pointer (some ⟨b, 0, none⟩), .int .u64 3, .int .u64 5] W fun e w' => ∃ v, e = .returned (.tuple #[v, .nilIface]) ∧ Hss w' v [lc, ld, nab, le] ∧ Nw W w') := fun W hW => by
    have q := Proof_c (G1.out.nw hW) 3 5 (by decide) (by decide) (HL.out.nw (N1.out.tr hW)) (HS.out.fr (N1.out.tr hW) (fun _ _ f => f))
    rw [EP.out, decide_eq_true (show ((0 < 3 ∧ 3 ≤ 5) ∧ 5 ≤ M.length) from ⟨by decide, by rw [hMl]; exact Nat.le_refl _⟩), ev_t] at q
    exact q
  have QBa : Hid (∀ W, Nw w1 W → Calls Tryd.prog 20 #[.pointer (some ⟨b, 0, none⟩), .int .u64 1, .int .u64 3, .int .u64 5] W fun e w' => ∃ v, e = .returned (.tuple #[v, .nilIface]) ∧ Hss w' v [la, ld, le] ∧ Nw W w') := fun W hW => by
    have q := Batch_c (G1.out.nw hW) 1 3 5 (by decide) (by decide) (by decide) (HL.out.nw (N1.out.tr hW)) (HS.out.fr (N1.out.tr hW) (fun _ _ f => f))
    rw [EB.out, decide_eq_true (show ((1 < 3 ∧ 3 ≤ 5) ∧ 5 ≤ M.length) from ⟨by decide, by rw [hMl]; exact Nat.le_refl _⟩), ev_t] at q
    exact q
  have QSz : Hid (∀ W, Nw w1 W → Calls Tryd.prog 28 #[.pointer (some ⟨b, 0, none⟩)] W fun e w' => e = .returned (.int .u64 5) ∧ w' = W) := fun W hW => by
    have q := lsize_any (G1.out.nw hW)
    rw [hMl] at q
    exact q
  have P4 : Hid (∀ h ∈ [lc, ld, nab, le], h.length = 32) := by
    intro x hx
    simp only [List.mem_cons, List.not_mem_nil, or_false] at hx
    rcases hx with rfl | rfl | rfl | rfl
    · exact Hc.out
    · exact Hd.out
    · exact Hn.out
    · exact He.out
  have P3 : Hid (∀ h ∈ [la, ld, le], h.length = 32) := by
    intro x hx
    simp only [List.mem_cons, List.not_mem_nil, or_false] at hx
    rcases hx with rfl | rfl | rfl
    · exact Ha.out
    · exact Hd.out
    · exact He.out
  have hZs : (hbs zh).size = 32 := by rw [hbs_size]; simp
  obtain ⟨Z, hZ⟩ : ∃ Z, Z = zh := ⟨_, rfl⟩
  rw [← hZ] at hZs QRn QT0
  clear hla hlb hlc hld hle hnab hM hMl HL HS EP EB HM hZ
  have NN : Hid (Nw w1 w1) := nwr w1
  go_wp2_with (refine wpl_mk rfl rfl ?_; intro wm nm hcv; have NN : Hid (Nw w1 wm) := NN.out.tr nm; clear nm)
  refine (QAp.out _ NN.out).mono ?_
  rintro e wz ⟨rfl, nz⟩
  have NN : Hid (Nw w1 wz) := NN.out.tr nz
  clear nz
  clear hcv
  go_wp2_with fail
  refine (QAn.out _ (N1.out.tr NN.out)).mono ?_
  rintro e wz ⟨rfl, nz⟩
  have NN : Hid (Nw w1 wz) := NN.out.tr nz
  clear nz
  go_wp2_with fail
  refine (QRn.out _ (N1.out.tr NN.out)).mono ?_
  rintro e wz ⟨rfl, nz⟩
  have NN : Hid (Nw w1 wz) := NN.out.tr (Nw.tr (nwa _ _) nz)
  clear nz
  go_wp2_with (refine wp_store_agg rfl (.tmp 9) (.tmp 53) 32 32 rfl Tryd.sizeOf32 wz.heap.size 0 rfl _ 32 (heap_new _ _) (hbs Z) rfl hZs (hbs_one _) (by decide) (hbs Z) (by simp) ?_; intro wy jy fy _; have NN : Hid (Nw w1 wy) := (NN.out.alloc _).trans fy (fun k hk q => by have := NN.out.size; omega); clear jy fy)
  refine (QB0.out _ NN.out).mono ?_
  rintro e wz ⟨rfl, nz⟩
  have NN : Hid (Nw w1 wz) := NN.out.tr nz
  clear nz
  go_wp2_with fail
  refine (QP0.out _ NN.out).mono ?_
  rintro e wz ⟨rfl, nz⟩
  have NN : Hid (Nw w1 wz) := NN.out.tr nz
  clear nz
  go_wp2_with fail
  refine (QT0.out _ NN.out).mono ?_
  rintro e wz ⟨rfl, nz⟩
  have NN : Hid (Nw w1 wz) := NN.out.tr nz
  clear nz
  go_wp2_with (refine wp_store_agg rfl (.tmp 15) (.tmp 69) 32 32 rfl Tryd.sizeOf32 wz.heap.size 0 rfl _ 32 (heap_new _ _) (hbs Z) rfl hZs (hbs_one _) (by decide) (hbs Z) (by simp) ?_; intro wy jy fy _; have NN : Hid (Nw w1 wy) := (NN.out.alloc _).trans fy (fun k hk q => by have := NN.out.size; omega); clear jy fy)
  refine (QL0.out _ NN.out).mono ?_
  rintro e wz ⟨rfl, nz⟩
  have NN : Hid (Nw w1 wz) := NN.out.tr nz
  clear nz
  go_wp2_with fail
  refine (QPr.out _ NN.out).mono ?_
  rintro e wp ⟨v1, rfl, h1, nz⟩
  have NP : Hid (Nw w1 wp) := NN.out.tr nz
  have H1 : Hid (Hss wp v1 [lc, ld, nab, le]) := h1
  obtain ⟨a1, c1, rfl⟩ := h1.form
  rw [show [lc, ld, nab, le].length = 4 from rfl] at H1 ⊢
  clear nz h1
  go_wp2_with fail
  refine (QBa.out _ NP.out).mono ?_
  rintro e wq ⟨v2, rfl, h2, nz⟩
  have NQ : Hid (Nw w1 wq) := NP.out.tr nz
  have H2 : Hid (Hss wq v2 [la, ld, le]) := h2
  have H1' : Hid (Hss wq (.slice a1 4 c1) [lc, ld, nab, le]) := H1.out.nw P4.out nz
  obtain ⟨a2, c2, rfl⟩ := h2.form
  rw [show [la, ld, le].length = 3 from rfl] at H2 ⊢
  clear nz h2 H1
  have NWQ : Hid (Nw w wq) := N1.out.tr NQ.out
  have NN : Hid (Nw wq wq) := nwr wq
  clear NP
  have QSm : Hid (∀ W g, Nw wq W → W.heap[g]? = some (.cells (hsc [lc, ld, nab, le]).toArray 32) → Calls Tryd.prog 27 #[.slice a1 4 c1, .slice (some ⟨g, 0, none⟩) 4 4] W fun e w' => e = .returned (.bool true) ∧ Nw W w') := fun W g hW hg => sameh_yes _ _ [lc, ld, nab, le] P4.out W (H1'.out.nw P4.out hW) (Hss.blk P4.out hg) (by simp)
  have QSn : Hid (∀ W g, Nw wq W → W.heap[g]? = some (.cells (hsc [la, ld, le]).toArray 32) → Calls Tryd.prog 27 #[.slice a2 3 c2, .slice (some ⟨g, 0, none⟩) 3 3] W fun e w' => e = .returned (.bool true) ∧ Nw W w') := fun W g hW hg => sameh_yes _ _ [la, ld, le] P3.out W (H2.out.nw P3.out hW) (Hss.blk P3.out hg) (by simp)
  go_wp2_with fail
  refine (QI4.out _ (NWQ.out.tr NN.out)).mono ?_
  rintro e wz ⟨rfl, nz⟩
  have NN : Hid (Nw wq wz) := NN.out.tr nz
  clear nz
  go_wp2_with fail
  refine (QI1.out _ (NWQ.out.tr NN.out)).mono ?_
  rintro e wz ⟨rfl, nz⟩
  have NN : Hid (Nw wq wz) := NN.out.tr nz
  clear nz
  go_wp2_with fail
  refine (QI1.out _ (NWQ.out.tr NN.out)).mono ?_
  rintro e wz ⟨rfl, nz⟩
  have NN : Hid (Nw wq wz) := NN.out.tr nz
  clear nz
  go_wp2_with fail
  refine (QI5.out _ (NWQ.out.tr NN.out)).mono ?_
  rintro e wz ⟨rfl, nz⟩
  have NN : Hid (Nw wq wz) := NN.out.tr nz
  clear nz
  go_wp2_with fail
  refine (QI5.out _ (NWQ.out.tr NN.out)).mono ?_
  rintro e wz ⟨rfl, nz⟩
  have NN : Hid (Nw wq wz) := NN.out.tr nz
  clear nz
  go_wp2_with fail
  refine (QI5.out _ (NWQ.out.tr NN.out)).mono ?_
  rintro e wz ⟨rfl, nz⟩
  have NN : Hid (Nw wq wz) := NN.out.tr nz
  clear nz
  go_wp2_with fail
  refine (QI5.out _ (NWQ.out.tr NN.out)).mono ?_
  rintro e wz ⟨rfl, nz⟩
  have NN : Hid (Nw wq wz) := NN.out.tr nz
  clear nz
  go_wp2_with fail
  refine (QLc.out _ (NWQ.out.tr NN.out)).mono ?_
  rintro e wz ⟨rfl, nz⟩
  have NN : Hid (Nw wq wz) := NN.out.tr nz
  clear nz
  go_wp2_with fail
  refine (QLd.out _ (NWQ.out.tr NN.out)).mono ?_
  rintro e wz ⟨rfl, nz⟩
  have NN : Hid (Nw wq wz) := NN.out.tr nz
  clear nz
  go_wp2_with fail
  refine (QLa.out _ (NWQ.out.tr NN.out)).mono ?_
  rintro e wz ⟨rfl, nz⟩
  have NN : Hid (Nw wq wz) := NN.out.tr nz
  clear nz
  go_wp2_with fail
  refine (QLb.out _ (NWQ.out.tr NN.out)).mono ?_
  rintro e wz ⟨rfl, nz⟩
  have NN : Hid (Nw wq wz) := NN.out.tr nz
  clear nz
  go_wp2_with fail
  refine (QN1.out _ (NWQ.out.tr NN.out)).mono ?_
  rintro e wz ⟨rfl, nz⟩
  have NN : Hid (Nw wq wz) := NN.out.tr nz
  clear nz
  go_wp2_with fail
  refine (QLe.out _ (NWQ.out.tr NN.out)).mono ?_
  rintro e wz ⟨rfl, nz⟩
  have NN : Hid (Nw wq wz) := NN.out.tr nz
  clear nz
  go_wp2_with (refine wpl_rows rfl 4 _ rfl [lc, ld, nab, le] P4.out rfl (by decide) (by decide) rfl ?_)
  refine (QSm.out _ _ (NN.out.alloc _) (heap_new _ _)).mono ?_
  rintro e wz ⟨rfl, nz⟩
  have NN : Hid (Nw wq wz) := Nw.tr (NN.out.alloc _) nz
  clear nz
  go_wp2_with fail
  refine (QLa.out _ (NWQ.out.tr NN.out)).mono ?_
  rintro e wz ⟨rfl, nz⟩
  have NN : Hid (Nw wq wz) := NN.out.tr nz
  clear nz
  go_wp2_with fail
  refine (QLd.out _ (NWQ.out.tr NN.out)).mono ?_
  rintro e wz ⟨rfl, nz⟩
  have NN : Hid (Nw wq wz) := NN.out.tr nz
  clear nz
  go_wp2_with fail
  refine (QLe.out _ (NWQ.out.tr NN.out)).mono ?_
  rintro e wz ⟨rfl, nz⟩
  have NN : Hid (Nw wq wz) := NN.out.tr nz
  clear nz
  go_wp2_with (refine wpl_rows rfl 3 _ rfl [la, ld, le] P3.out rfl (by decide) (by decide) rfl ?_)
  refine (QSn.out _ _ (NN.out.alloc _) (heap_new _ _)).mono ?_
  rintro e wz ⟨rfl, nz⟩
  have NN : Hid (Nw wq wz) := Nw.tr (NN.out.alloc _) nz
  clear nz
  go_wp2_with fail
  refine (QV.out _ (NWQ.out.tr NN.out)).mono ?_
  rintro e wz ⟨rfl, nz⟩
  have NN : Hid (Nw wq wz) := NN.out.tr nz
  clear nz
  go_wp2_with fail
  refine (QSz.out _ (NQ.out.tr NN.out)).mono ?_
  rintro e wy ⟨rfl, rfl⟩
  go_wp2
  go_ret
  exact ⟨rfl, NWQ.out.tr NN.out⟩
end Go.Proofs.YthkkjpefealdgaaDoor
