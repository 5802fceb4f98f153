/- ReaderNames: the walk. -/
import Derived.Test.YtbkhdnceblgljaaGreatDoorJo
namespace Go.Proofs.YtbkhdnceblgljaaGreatDoor
open Go.RowKit
set_option linter.unusedVariables false
set_option linter.unusedSimpArgs false
theorem lh_take (m n : Nat) (h : m ≤ n) : (lh n).take m = lh m := by
  unfold lh
  rw [← List.map_take, List.take_range, Nat.min_eq_left h]
theorem w44 : wid 0 1 (lh 300).length = 44 := by rw [lh_len]; decide
theorem w10 : wid 1 0 (lh 300).length = 1 := by rw [lh_len]; decide
theorem w00 : wid 0 0 (lh 300).length = 256 := by rw [lh_len]; decide
theorem m45 : mayT 0 1 ((45 : Nat) : Int) := by decide
theorem m44 : mayT 0 1 ((44 : Nat) : Int) := mayT_wid w44 (by decide)
theorem m10 : mayT 1 0 ((1 : Nat) : Int) := mayT_wid w10 (by decide)
theorem m00 : mayT 0 0 ((256 : Nat) : Int) := mayT_wid w00 (by decide)
theorem no000 : ¬ mayT 0 0 0 := by decide
theorem k1044 : keyT 1 0 1 m10 ≠ keyT 0 1 44 m44 := fun e => by
  have := congrArg (fun k : CT.KT => k.1.1) e
  simp [keyT] at this
theorem k1000 : keyT 1 0 1 m10 ≠ keyT 0 0 256 m00 := fun e => by
  have := congrArg (fun k : CT.KT => k.1.1) e
  simp [keyT] at this
set_option maxRecDepth 100000 in
set_option maxHeartbeats 4000000 in
theorem names14_any {w : World} {a : Nat → Addr} (hG : Gd w.heap.size a w) : Calls Tryz.prog 5 #[] w fun e w' => e = .returned (.bool true) ∧ Nw w w' := by
  have GD : Hid (Gd w.heap.size a w) := hG
  have L32 : Hid (∀ x ∈ lh 300, x.length = 32) := lh_32 300
  have q1 := hashes14_z 300 (by omega) w hG.l
  clear hG
  go_enter Tryz.func5, Tryz.ntmps5
  go_wp2_with fail
  refine q1.mono ?_
  rintro e w1 ⟨va, vc, rfl, o1, n1, hz1⟩
  have N1 : Hid (Nw w w1) := n1
  have q2 := laid14 (n := 300) (by omega) o1 hz1 (GD.out.nw n1) n1.size
  clear q1 o1 n1 hz1
  go_wp2_with fail
  refine q2.mono ?_
  rintro e w2 ⟨b, bm, g, T, M, rfl, lt2, hld, hon, hT, n2⟩
  have N2 : Hid (Nw w w2) := N1.out.tr n2
  have LT2 : Hid (Lt w1 w2 b bm g T M ∧ HldA (lh 300) M ∧ Onl (lh 300) M) := ⟨lt2, hld, hon⟩
  clear q2 lt2 hld hon hT n2
  have q3 := rnew_no (w := w2) (p := .pointer none) (.inl rfl) 1 (GD.out.nw N2.out).s
  go_wp2_with fail
  refine q3.mono ?_
  rintro e w3 ⟨rfl, n3⟩
  have N3 : Hid (Nw w w3) := N2.out.tr n3
  have LT3 : Hid (Lt w1 w3 b bm g T M) := LT2.out.1.nw n3
  clear q3 n3
  have q4 := rnew_arg LT3.out.2.2.2.blk (-1) (.inl (by decide)) (GD.out.nw N3.out).s
  go_wp2_with fail
  refine q4.mono ?_
  rintro e w4 ⟨rfl, n4⟩
  have N4 : Hid (Nw w w4) := N3.out.tr n4
  have LT4 : Hid (Lt w1 w4 b bm g T M) := LT3.out.nw n4
  clear q4 n4
  have q5 := rnew_arg LT4.out.2.2.2.blk 1025 (.inr (by decide)) (GD.out.nw N4.out).s
  go_wp2_with fail
  refine q5.mono ?_
  rintro e w5 ⟨rfl, n5⟩
  have N5 : Hid (Nw w w5) := N4.out.tr n5
  have LT5 : Hid (Lt w1 w5 b bm g T M) := LT4.out.nw n5
  have s1 := N1.out.size
  clear q5 n5
  have q6 := RS.made (K := 0) (B := w.heap.size) LT5.out.2.2.2 LT2.out.2.1 L32.out LT5.out.2.2.1.2 ⟨by have := LT5.out.1; omega, by have := LT5.out.2.1; omega, by have := LT5.out.2.2.1.1; omega⟩ rfl (by simp) ⟨Int.le_refl _, Int.le_refl _⟩ 1 (by omega) (GD.out.nw N5.out).s
  go_wp2_with fail
  refine q6.mono ?_
  rintro e w6 ⟨s, rfl, A6, hsb, hbm, hzs, hcap, hrn, hx, hy, hM, hL, htg, n6⟩
  have HA6 : Hid (s.At (lh 300) w.heap.size 0 w6) := A6
  obtain ⟨rb, hrb⟩ : ∃ x, x = s.rb := ⟨_, rfl⟩
  have HF6 : Hid (s.rb = rb ∧ s.sb = b ∧ s.zs = [] ∧ s.cap = 1 ∧ s.rn = 0 ∧ s.x = 0 ∧ s.y = 0 ∧ s.L = [] ∧ s.M = M) := ⟨hrb.symm, hsb, hzs, hcap, hrn, hx, hy, hL, hM⟩
  have N6 : Hid (Nw w w6) := N5.out.tr n6
  rw [← hrb]
  clear q6 hsb hbm hzs hcap hrn hx hy hM hL htg n6 A6 hrb s1
  -- a tile that lies nowhere
  have q7 := RS.tile_fell HA6.out (q := 0) (i := 1) (W := 45) (a 8) (fun s' => s'.rn = s.rn + 1 ∧ s'.x = s.x + 1 ∧ s'.y = s.y ∧ s'.L = s.L ∧ s'.M = s.M) (fun V hV nV => RS.corrupt hV m45 (by rw [HF6.out.2.2.2.2.2.2.2.1]; rfl) (by rw [HF6.out.2.2.2.2.2.2.2.2]; exact onl_none LT2.out.2.2 m45 (by decide)) (by rw [HF6.out.2.2.1]; simp) (GD.out.nw (N6.out.tr nV)).pow (by omega) (GD.out.nw (N6.out.tr nV)).s)
  rw [HF6.out.1] at q7
  go_wp2_with fail
  refine q7.mono ?_
  rintro e w7 ⟨s1, rfl, a7, le7, r7, f7⟩
  have HA7 : Hid (s1.At (lh 300) w.heap.size 1 w7) := a7
  have HF7 : Hid (s1.rb = rb ∧ s1.sb = b ∧ s1.zs = [] ∧ s1.cap = 1 ∧ s1.rn = 1 ∧ s1.x = 1 ∧ s1.y = 0 ∧ s1.L = [] ∧ s1.M = M) := ⟨le7.rb.trans HF6.out.1, le7.sb.trans HF6.out.2.1, le7.zs.trans HF6.out.2.2.1, le7.cap.trans HF6.out.2.2.2.1, by rw [r7.1, HF6.out.2.2.2.2.1]; rfl, by rw [r7.2.1, HF6.out.2.2.2.2.2.1]; rfl, by rw [r7.2.2.1, HF6.out.2.2.2.2.2.2.1], r7.2.2.2.1.trans HF6.out.2.2.2.2.2.2.2.1, r7.2.2.2.2.trans HF6.out.2.2.2.2.2.2.2.2⟩
  have N7 : Hid (Nw w w7) := N6.out.trans f7 (fun k hk q => by have := HA6.out.bt k q; omega)
  clear q7 a7 le7 r7 f7
  -- a tile that may not be
  have q8 : Calls Tryz.prog 18 #[.pointer (some ⟨rb, 0, none⟩), .agg #[.int .u8 ((0 : Nat) : Int), .int .u64 ((0 : Nat) : Int), .int .i64 0]] w7 fun e w' => e = .returned (.tuple #[.slice none 0 0, sen (a 1)]) ∧ Nw w7 w' := by
    have n0 := nwa w7 (.cells #[.int .u8 ((0 : Nat) : Int), .int .u64 ((0 : Nat) : Int), .int .i64 0] 60)
    have hb := (HA7.out.nw n0).rm.blk
    rw [HF7.out.1] at hb
    exact rtile_none (w := w7) (q := .pointer (some ⟨rb, 0, none⟩)) 0 0 0 (sen (a 1)) (fun w' => Nw w7 w') ((fetch_bad hb 0 0 0 (by omega) (by omega) no000 (GD.out.nw (N7.out.tr n0)).s).mono fun e w' ⟨e1, n⟩ => ⟨e1, Nw.tr n0 n⟩)
  go_wp2_with fail
  refine q8.mono ?_
  rintro e w8 ⟨rfl, n8⟩
  have HA8 : Hid (s1.At (lh 300) w.heap.size 1 w8) := HA7.out.nw n8
  have N8 : Hid (Nw w w8) := N7.out.tr n8
  clear q8 n8
  -- a tile of the log
  have q9 := RS.tile HA8.out w44 (by omega) _ (fun V hV nV => RS.new2 hV w44 (by omega) (by rw [HF7.out.2.2.2.2.2.2.2.1]; rfl) (by rw [HF7.out.2.2.1]; simp) (by rw [HF7.out.2.2.2.2.2.2.2.1, HF7.out.2.2.2.1]; decide) (GD.out.nw (N8.out.tr nV)).pow (by omega) (GD.out.nw (N8.out.tr nV)).s)
  rw [HF7.out.1] at q9
  go_wp2_with fail
  refine q9.mono ?_
  rintro e w9 ⟨s2, v9, bq, rfl, o9, _, _, a9, le9, r9, f9⟩
  have HA9 : Hid (s2.At (lh 300) w.heap.size 2 w9) := a9
  have HF9 : Hid (s2.rb = rb ∧ s2.sb = b ∧ s2.zs = [] ∧ s2.cap = 1 ∧ s2.rn = 2 ∧ s2.x = 2 ∧ s2.y = 0 ∧ s2.L.length = 1 ∧ CT.tk s2.L (keyT 1 0 1 m10) = none) := ⟨le9.rb.trans HF7.out.1, le9.sb.trans HF7.out.2.1, le9.zs.trans HF7.out.2.2.1, le9.cap.trans HF7.out.2.2.2.1, by rw [r9.1, HF7.out.2.2.2.2.1]; rfl, by rw [r9.2.1, HF7.out.2.2.2.2.2.1]; rfl, by rw [r9.2.2.1, HF7.out.2.2.2.2.2.2.1], by rw [r9.2.2.2.2.1, HF7.out.2.2.2.2.2.2.2.1]; rfl, (r9.2.2.2.2.2 _).2 ⟨k1044, by rw [HF7.out.2.2.2.2.2.2.2.1]; rfl⟩⟩
  have N9 : Hid (Nw w w9) := N8.out.trans f9 (fun k hk q => by have := HA8.out.bt k q; omega)
  obtain ⟨ya, yc, rfl⟩ := ownsRow_form o9
  clear q9 o9 a9 le9 r9 f9
  -- a node
  have hm8 : may 8 0 := ⟨by decide, by decide⟩
  have q10 := RS.node HA9.out (L := 8) (I := 0) hm8 (by rw [lh_len]; omega) w10 (by omega) (by decide) (GD.out.nw N9.out) (fun u => u.rn = s2.rn + 1 ∧ u.x = s2.x + 1 ∧ u.y = s2.y ∧ ∃ v, u.L = (CT.putA s2.cap s2.L (keyT 1 0 1 m10) v).2.2) (fun V hV nV => (RS.fresh hV w10 (by omega) HF9.out.2.2.2.2.2.2.2.2 (by rw [HF9.out.2.2.1]; simp) (GD.out.nw (N9.out.tr nV)).pow (by omega) (GD.out.nw (N9.out.tr nV)).s).mono fun e w' ⟨s', g, e1, o, a1, le, r1, r2, r3, r4, _, f⟩ => ⟨s', g, e1, o, a1, le, ⟨r1, r2, r3, _, r4⟩, f⟩)
  rw [HF9.out.1, lh_len] at q10
  obtain ⟨H, hH⟩ : ∃ H, H = ovr 8 (((lh 300).drop (0 * 2 ^ 8)).take (2 ^ 8)) := ⟨_, rfl⟩
  rw [← hH] at q10
  have HH : Hid (H = ovr 8 (((lh 300).drop (0 * 2 ^ 8)).take (2 ^ 8)) ∧ H.length = 32) := ⟨hH, by rw [hH]; exact ovr_32 _ _ (fun x hx => L32.out x (List.mem_of_mem_drop (List.mem_of_mem_take hx)))⟩
  have hHs : (hbs H).size = 32 := by rw [hbs_size]; exact HH.out.2
  clear hH
  go_wp2_with fail
  refine q10.mono ?_
  rintro e wa ⟨s3, rfl, a10, le10, r10, f10⟩
  have HAa : Hid (s3.At (lh 300) w.heap.size 3 wa) := a10
  have HFa : Hid (s3.rb = rb ∧ s3.sb = b ∧ s3.x = 3 ∧ s3.y = 0 ∧ CT.tk s3.L (keyT 1 0 1 m10) ≠ none ∧ CT.tk s3.L (keyT 0 0 256 m00) = none) := by
    obtain ⟨v, hv⟩ := r10.2.2.2
    rw [HF9.out.2.2.2.1, tk_repl HF9.out.2.2.2.2.2.2.2.2 HF9.out.2.2.2.2.2.2.2.1] at hv
    refine ⟨le10.rb.trans HF9.out.1, le10.sb.trans HF9.out.2.1, by rw [r10.2.1, HF9.out.2.2.2.2.2.1]; rfl, by rw [r10.2.2.1, HF9.out.2.2.2.2.2.2.1], by rw [hv]; simp [CT.tk], ?_⟩
    rw [hv, tk_iff]
    intro z hz
    rw [List.mem_singleton.1 hz]
    exact k1000
  have Na : Hid (Nw w wa) := N9.out.trans f10 (fun k hk q => by have := HA9.out.bt k q; omega)
  clear q10 a10 le10 r10 f10
  go_wp2_with (refine wp_store_agg rfl (.tmp 16) (.tmp 80) 42 32 rfl Tryz.sizeOf42 wa.heap.size 0 rfl _ 42 (heap_new _ _) (hbs H) rfl hHs (hbs_one _) (by decide) (hbs H) (by simp) ?_; intro wb jb fb zz; clear zz; have Nab : Hid (Nw wa wb) := (Fr.alloc (Fr.refl _ wa) _).trans fb (fun k hk q => by omega); have Jb : Hid (wb.heap[wa.heap.size]? = some (.cells (hbs H) 42 (0, 0))) := jb; clear jb fb)
  have HAb : Hid (s3.At (lh 300) w.heap.size 3 wb) := HAa.out.nw Nab.out
  have Nb : Hid (Nw w wb) := Na.out.tr Nab.out
  have TH1 : Hid (s3.tg wa.heap.size = 9) := HAa.out.nt _ (Nat.le_refl _)
  obtain ⟨h1, hh1⟩ : ∃ x, x = wa.heap.size := ⟨_, rfl⟩
  rw [← hh1] at Jb TH1 ⊢
  clear hh1
  have q11 := RS.told HAb.out
  rw [HFa.out.2.1] at q11
  refine q11.mono ?_
  rintro e wc ⟨s4, rfl, a11, t11, e1, e2, e3, e4, e5, e6, e7, e8, e9, f11⟩
  have HAc : Hid (s4.At (lh 300) w.heap.size 3 wc) := a11
  have HFc : Hid (s4.rb = rb ∧ s4.sb = b ∧ s4.zs = [] ∧ s4.cr = 1 ∧ s4.wn = 0 ∧ s4.x = 3 ∧ s4.y = 0 ∧ CT.tk s4.L (keyT 1 0 1 m10) ≠ none ∧ CT.tk s4.L (keyT 0 0 256 m00) = none) := ⟨e1.trans HFa.out.1, e2, e3, e4, e5, e6.trans HFa.out.2.2.1, e7.trans HFa.out.2.2.2.1, by rw [e8]; exact HFa.out.2.2.2.2.1, by rw [e8]; exact HFa.out.2.2.2.2.2⟩
  have H1c : Hid (wc.heap[h1]? = some (.cells (hbs H) 42 (0, 0))) := (f11.block _ (heap_lt Jb.out) (fun q => by have := TH1.out; unfold RS.Ff at q; omega)).trans Jb.out
  have T1c : Hid (s4.tg h1 = 9) := (t11 h1 (heap_lt Jb.out)).trans TH1.out
  have Nc : Hid (Nw w wc) := Nb.out.trans f11 (fun k hk q => by have := HAb.out.bt k q; omega)
  clear q11 a11 t11 e1 e2 e3 e4 e5 e6 e7 e8 e9 f11
  have q12 := RS.crash HAc.out (by omega) HFc.out.2.2.2.1 HFc.out.2.2.2.2.1 HFc.out.2.2.1 ⟨#[120]⟩ ⟨#[121]⟩ ⟨by decide, by decide⟩ (by decide) (GD.out.nw Nc.out).s
  rw [HFc.out.2.1] at q12
  go_wp2_with fail
  refine q12.mono ?_
  rintro e wd ⟨s5, rfl, a12, t12, e1, e2, e3, e4, f12⟩
  have HAd : Hid (s5.Ded (lh 300) w.heap.size wd) := a12
  have HFd : Hid (s5.rb = rb ∧ s5.x = 3 ∧ s5.y = 0 ∧ CT.tk s5.L (keyT 1 0 1 m10) ≠ none ∧ CT.tk s5.L (keyT 0 0 256 m00) = none) := ⟨e1.trans HFc.out.1, e2.trans HFc.out.2.2.2.2.2.1, e3.trans HFc.out.2.2.2.2.2.2.1, by rw [e4]; exact HFc.out.2.2.2.2.2.2.2.1, by rw [e4]; exact HFc.out.2.2.2.2.2.2.2.2⟩
  have H1d : Hid (wd.heap[h1]? = some (.cells (hbs H) 42 (0, 0))) := (f12.block _ (heap_lt H1c.out) (fun q => by have := T1c.out; unfold RS.Ff at q; omega)).trans H1c.out
  have T1d : Hid (s5.tg h1 = 9) := (t12 h1).trans T1c.out
  have Nd : Hid (Nw w wd) := Nc.out.trans f12 (fun k hk q => by have := HAc.out.bt k q; omega)
  clear q12 a12 t12 e1 e2 e3 e4 f12
  obtain ⟨⟨v5, r5⟩, hv5⟩ := Option.ne_none_iff_exists'.1 HFd.out.2.2.2.1
  have q13 := HAd.out.node (L := 8) (I := 0) ⟨by decide, by decide⟩ w10 (by omega) (by decide) hv5 (by rw [HFd.out.2.1]; decide) (by rw [HFd.out.2.2.1]; decide) (GD.out.nw Nd.out)
  rw [HFd.out.1, lh_len, ← HH.out.1] at q13
  go_wp2_with fail
  refine q13.mono ?_
  rintro e we ⟨s6, rfl, a13, t13, e1, e2, e3, e4, f13⟩
  have HAe : Hid (s6.Ded (lh 300) w.heap.size we) := a13
  have HFe : Hid (s6.rb = rb ∧ s6.x = 4 ∧ s6.y = 1 ∧ CT.tk s6.L (keyT 0 0 256 m00) = none) := ⟨e1, by rw [e2, HFd.out.2.1]; rfl, by rw [e3, HFd.out.2.2.1]; rfl, (e4 _).2 HFd.out.2.2.2.2⟩
  have H1e : Hid (we.heap[h1]? = some (.cells (hbs H) 42 (0, 0))) := (f13.block _ (heap_lt H1d.out) (fun q => by have := T1d.out; unfold RS.Ff at q; omega)).trans H1d.out
  have T1e : Hid (s6.tg h1 = 9 ∧ s6.tg we.heap.size = 9) := ⟨(t13 h1 (heap_lt H1d.out)).trans T1d.out, a13.nt _ (Nat.le_refl _)⟩
  have Ne : Hid (Nw w we) := Nd.out.trans f13 (fun k hk q => by have := HAd.out.bt k q; omega)
  clear q13 a13 t13 e1 e2 e3 e4 f13 hv5
  go_wp2_with (refine wp_store_agg rfl (.tmp 19) (.tmp 91) 42 32 rfl Tryz.sizeOf42 we.heap.size 0 rfl _ 42 (heap_new _ _) (hbs H) rfl hHs (hbs_one _) (by decide) (hbs H) (by simp) ?_; intro wf jf ff zz; clear zz; have Nef : Hid (Nw we wf) := (Fr.alloc (Fr.refl _ we) _).trans ff (fun k hk q => by omega); have H2f : Hid (wf.heap[we.heap.size]? = some (.cells (hbs H) 42 (0, 0))) := jf; clear jf ff)
  have HAf : Hid (s6.Ded (lh 300) w.heap.size wf) := HAe.out.nw Nef.out
  have Nf : Hid (Nw w wf) := Ne.out.tr Nef.out
  have H1f : Hid (wf.heap[h1]? = some (.cells (hbs H) 42 (0, 0))) := (Nef.out.block _ (heap_lt H1e.out) (fun f => f)).trans H1e.out
  obtain ⟨h2, hh2⟩ : ∃ x, x = we.heap.size := ⟨_, rfl⟩
  rw [← hh2] at H2f T1e ⊢
  clear hh2
  have q14 := HAf.out.tile_gone m00 HFe.out.2.2.2 (hM_log HAf.out.h32 HAf.out.hm w00 (by omega)) (by rw [HFe.out.2.1]; decide) (GD.out.nw Nf.out)
  rw [HFe.out.1] at q14
  refine q14.mono ?_
  rintro e wg ⟨rfl, s7, a14, t14, e1, e2, e3, f14⟩
  have HAg : Hid (s7.Ded (lh 300) w.heap.size wg) := a14
  have HFg : Hid (s7.rb = rb ∧ s7.x = 5 ∧ s7.y = 1) := ⟨e1, by rw [e2, HFe.out.2.1]; rfl, e3.trans HFe.out.2.2.1⟩
  have H1g : Hid (wg.heap[h1]? = some (.cells (hbs H) 42 (0, 0))) := (f14.block _ (heap_lt H1f.out) (fun q => by have := T1e.out.1; unfold RS.Ff at q; omega)).trans H1f.out
  have H2g : Hid (wg.heap[h2]? = some (.cells (hbs H) 42 (0, 0))) := (f14.block _ (heap_lt H2f.out) (fun q => by have := T1e.out.2; unfold RS.Ff at q; omega)).trans H2f.out
  have Ng : Hid (Nw w wg) := Nf.out.trans f14 (fun k hk q => by have := HAf.out.bt k q; omega)
  clear q14 a14 t14 e1 e2 e3 f14
  have hblk := HAg.out.rm.blk
  rw [HFg.out.1] at hblk
  have HBK : Hid (wg.heap[rb]? = some (rdo (.pointer (some ⟨s7.sb, 0, none⟩)) (.pointer (some ⟨s7.cb, 0, none⟩)) s7.x s7.y)) := hblk
  clear hblk
  have q15 := rnode_out (w := wg) (q := .pointer (some ⟨rb, 0, none⟩)) 8 1 300 ⟨by decide, by decide⟩ 1 (by decide) (by omega) (by omega) (by decide) (fun V nV => rthere_any ((nV.block _ (heap_lt HBK.out) (fun f => f)).trans HBK.out)) (GD.out.nw Ng.out).s
  have hzs : (hbs zh).size = 32 := by rw [hbs_size]; rfl
  go_wp2_with fail
  refine q15.mono ?_
  rintro e wi ⟨rfl, n15⟩
  have Ngi : Hid (Nw wg wi) := n15
  clear q15 n15
  go_wp2_with (refine wp_store_agg rfl (.tmp 23) (.tmp 103) 42 32 rfl Tryz.sizeOf42 wi.heap.size 0 rfl _ 42 (heap_new _ _) (hbs zh) rfl hzs (hbs_one _) (by decide) (hbs zh) (by simp) ?_; intro wj jj fj zz; clear zz; have Nij : Hid (Nw wi wj) := (Fr.alloc (Fr.refl _ wi) _).trans fj (fun k hk q => by omega); clear jj fj)
  have Ngj : Hid (Nw wg wj) := Ngi.out.tr Nij.out
  have q16 := rcounts_any ((Ngj.out.block _ (heap_lt HBK.out) (fun f => f)).trans HBK.out)
  rw [HFg.out.2.1, HFg.out.2.2] at q16
  refine q16.mono ?_
  rintro e wk ⟨rfl, n16⟩
  have Ngk : Hid (Nw wg wk) := Ngj.out.tr n16
  have Nk : Hid (Nw w wk) := Ng.out.tr Ngk.out
  have H1k : Hid (wk.heap[h1]? = some (.cells (hbs H) 42 (0, 0))) := (Ngk.out.block _ (heap_lt H1g.out) (fun f => f)).trans H1g.out
  have H2k : Hid (wk.heap[h2]? = some (.cells (hbs H) 42 (0, 0))) := (Ngk.out.block _ (heap_lt H2g.out) (fun f => f)).trans H2g.out
  clear q16 n16
  go_wp2_with fail
  refine (is_senJ (GD.out.nw Nk.out).s 0 (by decide) (c := 1) (by decide)).mono ?_
  rintro e wm ⟨rfl, nwm⟩
  have Nwm : Hid (Nw w wm) := Nk.out.tr nwm
  have H1wm : Hid (wm.heap[h1]? = some (.cells (hbs H) 42 (0, 0))) := (nwm.block _ (heap_lt H1k.out) (fun f => f)).trans H1k.out
  have H2wm : Hid (wm.heap[h2]? = some (.cells (hbs H) 42 (0, 0))) := (nwm.block _ (heap_lt H2k.out) (fun f => f)).trans H2k.out
  clear nwm
  go_wp2_with fail
  refine (is_senJ (GD.out.nw Nwm.out).s 1 (by decide) (c := 2) (by decide)).mono ?_
  rintro e wn ⟨rfl, nwn⟩
  have Nwn : Hid (Nw w wn) := Nwm.out.tr nwn
  have H1wn : Hid (wn.heap[h1]? = some (.cells (hbs H) 42 (0, 0))) := (nwn.block _ (heap_lt H1wm.out) (fun f => f)).trans H1wm.out
  have H2wn : Hid (wn.heap[h2]? = some (.cells (hbs H) 42 (0, 0))) := (nwn.block _ (heap_lt H2wm.out) (fun f => f)).trans H2wm.out
  clear nwn
  go_wp2_with fail
  refine (is_senJ (GD.out.nw Nwn.out).s 1 (by decide) (c := 2) (by decide)).mono ?_
  rintro e wo ⟨rfl, nwo⟩
  have Nwo : Hid (Nw w wo) := Nwn.out.tr nwo
  have H1wo : Hid (wo.heap[h1]? = some (.cells (hbs H) 42 (0, 0))) := (nwo.block _ (heap_lt H1wn.out) (fun f => f)).trans H1wn.out
  have H2wo : Hid (wo.heap[h2]? = some (.cells (hbs H) 42 (0, 0))) := (nwo.block _ (heap_lt H2wn.out) (fun f => f)).trans H2wn.out
  clear nwo
  go_wp2_with fail
  refine (is_senJ (GD.out.nw Nwo.out).s 8 (by decide) (c := 9) (by decide)).mono ?_
  rintro e wp ⟨rfl, nwp⟩
  have Nwp : Hid (Nw w wp) := Nwo.out.tr nwp
  have H1wp : Hid (wp.heap[h1]? = some (.cells (hbs H) 42 (0, 0))) := (nwp.block _ (heap_lt H1wo.out) (fun f => f)).trans H1wo.out
  have H2wp : Hid (wp.heap[h2]? = some (.cells (hbs H) 42 (0, 0))) := (nwp.block _ (heap_lt H2wo.out) (fun f => f)).trans H2wo.out
  clear nwp
  go_wp2_with fail
  refine (is_senJ (GD.out.nw Nwp.out).s 1 (by decide) (c := 2) (by decide)).mono ?_
  rintro e wq ⟨rfl, nwq⟩
  have Nwq : Hid (Nw w wq) := Nwp.out.tr nwq
  have H1wq : Hid (wq.heap[h1]? = some (.cells (hbs H) 42 (0, 0))) := (nwq.block _ (heap_lt H1wp.out) (fun f => f)).trans H1wp.out
  have H2wq : Hid (wq.heap[h2]? = some (.cells (hbs H) 42 (0, 0))) := (nwq.block _ (heap_lt H2wp.out) (fun f => f)).trans H2wp.out
  clear nwq
  have Q8 : Hid (∀ V, Nw wq V → Calls Tryz.prog 12 #[sen (a 7), .int .i64 8] V fun e w' => e = .returned (.bool true) ∧ Nw V w') := fun V nV => is_senJ (GD.out.nw (Nwq.out.tr nV)).s 7 (by decide) (by decide)
  have Q5 : Hid (∀ V, Nw wq V → Calls Tryz.prog 12 #[sen (a 4), .int .i64 5] V fun e w' => e = .returned (.bool true) ∧ Nw V w') := fun V nV => is_senJ (GD.out.nw (Nwq.out.tr nV)).s 4 (by decide) (by decide)
  have QH : Hid (∀ V, Nw wq V → Calls Tryz.prog 7 #[.int .i64 256] V fun e w' => ∃ hg hc, e = .returned (.slice (some ⟨hg, 0, none⟩) 256 hc) ∧ Nw V w' ∧ Calls Tryz.prog 16 #[.slice (some ⟨hg, 0, none⟩) 256 hc] w' fun e w'' => e = .returned (.agg (hbs H)) ∧ Nw w' w'') := fun V nV => (hashes14_z 256 (by omega) V (GD.out.nw (Nwq.out.tr nV)).l).mono fun e w' ⟨va, vc, e1, o, n1, _⟩ => by
    obtain ⟨hg, cap, hva, hcp, _⟩ := own_some o (by omega)
    simp only [Value.slice.injEq, true_and] at hva
    obtain ⟨rfl, rfl⟩ := hva
    have q := tree_cut (lh_32 256) (lh_len 256) o hcp (L := 8) (I := 0) (by omega) (by omega) (GD.out.nw (Nwq.out.tr (nV.tr n1))).l
    have eL : ((lh 256).drop (0 * 2 ^ 8)).take (2 ^ 8) = ((lh 300).drop (0 * 2 ^ 8)).take (2 ^ 8) := by
      have e300 : (lh 300).take 256 = lh 256 := lh_take 256 300 (by omega)
      simp only [Nat.zero_mul, List.drop_zero]
      show (lh 256).take 256 = (lh 300).take 256
      rw [e300, List.take_of_length_le (by rw [lh_len]; omega)]
    rw [eL, ← HH.out.1] at q
    exact ⟨hg, vc, e1, n1, q⟩
  have hkp : Hid (∀ V, Nw wq V → V.heap[h1]? = some (.cells (hbs H) 42 (0, 0)) ∧ V.heap[h2]? = some (.cells (hbs H) 42 (0, 0))) := fun V nV => ⟨(nV.block _ (heap_lt H1wq.out) (fun f => f)).trans H1wq.out, (nV.block _ (heap_lt H2wq.out) (fun f => f)).trans H2wq.out⟩
  have l1 := heap_lt H1wq.out
  have l2 := heap_lt H2wq.out
  go_upto_region 21 with fail
  have nb : Nw wq wq.drew := (Fr.refl _ _).drew
  refine wp_region_held_drew (S := fun V => V.heap[h1]? = some (.cells (hbs H) 42 (0, 0)) ∧ V.heap[h2]? = some (.cells (hbs H) 42 (0, 0))) (by kernel_rfl) (hkp.out _ nb) ?_
  intro hS0
  refine wpAnyH_take (i := 0) (oi := ({ dst := some 132, op := Op.move (Operand.tmp 17), type := 32, pos := "outright.go:184", after := #[], guard := none } : Oper)) (v := .nilIface) rfl (by kernel_rfl) (by kernel_rfl) (by kernel_rfl) (fun _ _ _ h => h) (Or.inl ⟨by rfl, by intro w hw; go_simp⟩) hS0 ?_
  try simp only [Act.put, List.setIfInBounds_toArray, List.set_cons_zero, List.set_cons_succ]
  refine wpAnyH_take (i := 1) (oi := ({ dst := some 133, op := Op.binOp BinOp.eql 32 (Operand.tmp 132) (Operand.const Value.nilIface) 32, type := 4, pos := "outright.go:184", after := #[{ on := 0, ground := Ground.data }], guard := none } : Oper)) (v := .bool true) rfl (by kernel_rfl) (by kernel_rfl) (by kernel_rfl) (fun _ _ _ h => h) (Or.inl ⟨by rfl, by intro w hw; go_simp⟩) hS0 ?_
  try simp only [Act.put, List.setIfInBounds_toArray, List.set_cons_zero, List.set_cons_succ]
  refine wpAnyH_take (i := 2) (oi := ({ dst := some 134, op := Op.move (Operand.tmp 133), type := 4, pos := "outright.go:184", after := #[{ on := 1, ground := Ground.data }], guard := none } : Oper)) (v := .bool true) rfl (by kernel_rfl) (by kernel_rfl) (by kernel_rfl) (fun _ _ _ h => h) (Or.inl ⟨by rfl, by intro w hw; go_simp⟩) hS0 ?_
  try simp only [Act.put, List.setIfInBounds_toArray, List.set_cons_zero, List.set_cons_succ]
  refine wpAnyH_take (i := 3) (oi := ({ dst := some 135, op := Op.load 42 (Operand.tmp 16), type := 42, pos := "outright.go:184", after := #[{ on := 2, ground := Ground.guard }], guard := some (2, true) } : Oper)) (v := .agg (hbs H)) rfl (by kernel_rfl) (by kernel_rfl) (by kernel_rfl) (fun _ _ _ h => h) (yields_load_gJ (by rfl) (.tmp 16) 42 32 rfl Tryz.isAgg42 Tryz.sizeOf42 h1 rfl 42 (hbs H) hHs (fun w hw => hw.1)) hS0 ?_
  try simp only [Act.put, List.setIfInBounds_toArray, List.set_cons_zero, List.set_cons_succ]
  refine wpAnyH_ready (rs := [4]) (by kernel_rfl) (by simp) ?_
  refine (AllReadyH.cons (o := ({ dst := some 136, op := Op.call { callee := Callee.value (Operand.func 7), args := #[Operand.const (Value.int IntKind.i64 256)], argTypes := #[3] }, type := 25, pos := "outright.go:184", after := #[{ on := 2, ground := Ground.chain }, { on := 2, ground := Ground.guard }], guard := some (2, true) } : Oper)) rfl (fun K' hK => ?_) AllReadyH.nil)
  go_simp
  go_wp2_with (go_at_call 7; refine (QH.out _ nb).mono ?_; rintro ex w101 ⟨hg, hc, rfl, nw101, QT⟩)
  have nb := nb.tr nw101
  refine hK.out _ _ (hkp.out _ nb) (fun hS0 => ?_)
  try simp only [Act.put, List.setIfInBounds_toArray, List.set_cons_zero, List.set_cons_succ]
  refine wpAnyH_ready (rs := [5]) (by kernel_rfl) (by simp) ?_
  refine (AllReadyH.cons (o := ({ dst := some 137, op := Op.call { callee := Callee.value (Operand.func 16), args := #[Operand.tmp 136], argTypes := #[25] }, type := 42, pos := "outright.go:184", after := #[{ on := 4, ground := Ground.data }, { on := 4, ground := Ground.chain }, { on := 2, ground := Ground.guard }], guard := some (2, true) } : Oper)) rfl (fun K' hK => ?_) AllReadyH.nil)
  go_simp
  go_wp2_with (go_at_call 16; refine QT.mono ?_; rintro ex w102 ⟨rfl, nw102⟩)
  have nb := nb.tr nw102
  refine hK.out _ _ (hkp.out _ nb) (fun hS0 => ?_)
  try simp only [Act.put, List.setIfInBounds_toArray, List.set_cons_zero, List.set_cons_succ]
  refine wpAnyH_take (i := 6) (oi := ({ dst := some 138, op := Op.binOp BinOp.eql 42 (Operand.tmp 135) (Operand.tmp 137) 42, type := 4, pos := "outright.go:184", after := #[{ on := 3, ground := Ground.data }, { on := 5, ground := Ground.data }, { on := 2, ground := Ground.guard }], guard := some (2, true) } : Oper)) (v := .bool true) rfl (by kernel_rfl) (by kernel_rfl) (by kernel_rfl) (fun _ _ _ h => h) (yields_eqlJ (by rfl) (.tmp 135) (.tmp 137) rfl H HH.out.2 rfl rfl) hS0 ?_
  try simp only [Act.put, List.setIfInBounds_toArray, List.set_cons_zero, List.set_cons_succ]
  refine wpAnyH_take (i := 7) (oi := ({ dst := some 139, op := Op.pick (Operand.tmp 134) (Operand.tmp 138) (Operand.const (Value.bool false)), type := 4, pos := "outright.go:184", after := #[{ on := 2, ground := Ground.data }, { on := 6, ground := Ground.data }], guard := none } : Oper)) (v := .bool true) rfl (by kernel_rfl) (by kernel_rfl) (by kernel_rfl) (fun _ _ _ h => h) (Or.inl ⟨by rfl, by intro w hw; go_simp⟩) hS0 ?_
  try simp only [Act.put, List.setIfInBounds_toArray, List.set_cons_zero, List.set_cons_succ]
  refine wpAnyH_take (i := 8) (oi := ({ dst := some 140, op := Op.move (Operand.tmp 139), type := 4, pos := "outright.go:184", after := #[{ on := 7, ground := Ground.data }, { on := 5, ground := Ground.chain }], guard := none } : Oper)) (v := .bool true) rfl (by kernel_rfl) (by kernel_rfl) (by kernel_rfl) (fun _ _ _ h => h) (Or.inl ⟨by rfl, by intro w hw; go_simp⟩) hS0 ?_
  try simp only [Act.put, List.setIfInBounds_toArray, List.set_cons_zero, List.set_cons_succ]
  refine wpAnyH_take (i := 9) (oi := ({ dst := some 141, op := Op.move (Operand.tmp 18), type := 32, pos := "outright.go:184", after := #[{ on := 8, ground := Ground.guard }], guard := some (8, true) } : Oper)) (v := sen (a 7)) rfl (by kernel_rfl) (by kernel_rfl) (by kernel_rfl) (fun _ _ _ h => h) (Or.inl ⟨by rfl, by intro w hw; go_simp⟩) hS0 ?_
  try simp only [Act.put, List.setIfInBounds_toArray, List.set_cons_zero, List.set_cons_succ]
  refine wpAnyH_ready (rs := [10]) (by kernel_rfl) (by simp) ?_
  refine (AllReadyH.cons (o := ({ dst := some 142, op := Op.call { callee := Callee.value (Operand.func 12), args := #[Operand.tmp 141, Operand.const (Value.int IntKind.i64 8)], argTypes := #[32, 3] }, type := 4, pos := "outright.go:184", after := #[{ on := 9, ground := Ground.data }, { on := 8, ground := Ground.chain }, { on := 8, ground := Ground.guard }], guard := some (8, true) } : Oper)) rfl (fun K' hK => ?_) AllReadyH.nil)
  go_simp
  go_wp2_with (go_at_call 12; refine (Q8.out _ nb).mono ?_; rintro ex w103 ⟨rfl, nw103⟩)
  have nb := nb.tr nw103
  refine hK.out _ _ (hkp.out _ nb) (fun hS0 => ?_)
  try simp only [Act.put, List.setIfInBounds_toArray, List.set_cons_zero, List.set_cons_succ]
  refine wpAnyH_take (i := 11) (oi := ({ dst := some 143, op := Op.pick (Operand.tmp 140) (Operand.tmp 142) (Operand.const (Value.bool false)), type := 4, pos := "outright.go:184", after := #[{ on := 8, ground := Ground.data }, { on := 10, ground := Ground.data }], guard := none } : Oper)) (v := .bool true) rfl (by kernel_rfl) (by kernel_rfl) (by kernel_rfl) (fun _ _ _ h => h) (Or.inl ⟨by rfl, by intro w hw; go_simp⟩) hS0 ?_
  try simp only [Act.put, List.setIfInBounds_toArray, List.set_cons_zero, List.set_cons_succ]
  refine wpAnyH_take (i := 12) (oi := ({ dst := some 144, op := Op.move (Operand.tmp 143), type := 4, pos := "outright.go:184", after := #[{ on := 11, ground := Ground.data }, { on := 10, ground := Ground.chain }], guard := none } : Oper)) (v := .bool true) rfl (by kernel_rfl) (by kernel_rfl) (by kernel_rfl) (fun _ _ _ h => h) (Or.inl ⟨by rfl, by intro w hw; go_simp⟩) hS0 ?_
  try simp only [Act.put, List.setIfInBounds_toArray, List.set_cons_zero, List.set_cons_succ]
  refine wpAnyH_take (i := 13) (oi := ({ dst := some 145, op := Op.move (Operand.tmp 20), type := 32, pos := "outright.go:184", after := #[{ on := 12, ground := Ground.guard }], guard := some (12, true) } : Oper)) (v := .nilIface) rfl (by kernel_rfl) (by kernel_rfl) (by kernel_rfl) (fun _ _ _ h => h) (Or.inl ⟨by rfl, by intro w hw; go_simp⟩) hS0 ?_
  try simp only [Act.put, List.setIfInBounds_toArray, List.set_cons_zero, List.set_cons_succ]
  refine wpAnyH_take (i := 14) (oi := ({ dst := some 146, op := Op.binOp BinOp.eql 32 (Operand.tmp 145) (Operand.const Value.nilIface) 32, type := 4, pos := "outright.go:184", after := #[{ on := 13, ground := Ground.data }, { on := 12, ground := Ground.guard }], guard := some (12, true) } : Oper)) (v := .bool true) rfl (by kernel_rfl) (by kernel_rfl) (by kernel_rfl) (fun _ _ _ h => h) (Or.inl ⟨by rfl, by intro w hw; go_simp⟩) hS0 ?_
  try simp only [Act.put, List.setIfInBounds_toArray, List.set_cons_zero, List.set_cons_succ]
  refine wpAnyH_take (i := 15) (oi := ({ dst := some 147, op := Op.pick (Operand.tmp 144) (Operand.tmp 146) (Operand.const (Value.bool false)), type := 4, pos := "outright.go:184", after := #[{ on := 12, ground := Ground.data }, { on := 14, ground := Ground.data }], guard := none } : Oper)) (v := .bool true) rfl (by kernel_rfl) (by kernel_rfl) (by kernel_rfl) (fun _ _ _ h => h) (Or.inl ⟨by rfl, by intro w hw; go_simp⟩) hS0 ?_
  try simp only [Act.put, List.setIfInBounds_toArray, List.set_cons_zero, List.set_cons_succ]
  refine wpAnyH_take (i := 16) (oi := ({ dst := some 148, op := Op.move (Operand.tmp 147), type := 4, pos := "outright.go:184", after := #[{ on := 15, ground := Ground.data }, { on := 12, ground := Ground.chain }], guard := none } : Oper)) (v := .bool true) rfl (by kernel_rfl) (by kernel_rfl) (by kernel_rfl) (fun _ _ _ h => h) (Or.inl ⟨by rfl, by intro w hw; go_simp⟩) hS0 ?_
  try simp only [Act.put, List.setIfInBounds_toArray, List.set_cons_zero, List.set_cons_succ]
  refine wpAnyH_take (i := 17) (oi := ({ dst := some 149, op := Op.load 42 (Operand.tmp 19), type := 42, pos := "outright.go:184", after := #[{ on := 16, ground := Ground.guard }], guard := some (16, true) } : Oper)) (v := .agg (hbs H)) rfl (by kernel_rfl) (by kernel_rfl) (by kernel_rfl) (fun _ _ _ h => h) (yields_load_gJ (by rfl) (.tmp 19) 42 32 rfl Tryz.isAgg42 Tryz.sizeOf42 h2 rfl 42 (hbs H) hHs (fun w hw => hw.2)) hS0 ?_
  try simp only [Act.put, List.setIfInBounds_toArray, List.set_cons_zero, List.set_cons_succ]
  refine wpAnyH_take (i := 18) (oi := ({ dst := some 150, op := Op.load 42 (Operand.tmp 16), type := 42, pos := "outright.go:184", after := #[{ on := 16, ground := Ground.guard }], guard := some (16, true) } : Oper)) (v := .agg (hbs H)) rfl (by kernel_rfl) (by kernel_rfl) (by kernel_rfl) (fun _ _ _ h => h) (yields_load_gJ (by rfl) (.tmp 16) 42 32 rfl Tryz.isAgg42 Tryz.sizeOf42 h1 rfl 42 (hbs H) hHs (fun w hw => hw.1)) hS0 ?_
  try simp only [Act.put, List.setIfInBounds_toArray, List.set_cons_zero, List.set_cons_succ]
  refine wpAnyH_take (i := 19) (oi := ({ dst := some 151, op := Op.binOp BinOp.eql 42 (Operand.tmp 149) (Operand.tmp 150) 42, type := 4, pos := "outright.go:184", after := #[{ on := 17, ground := Ground.data }, { on := 18, ground := Ground.data }, { on := 16, ground := Ground.guard }], guard := some (16, true) } : Oper)) (v := .bool true) rfl (by kernel_rfl) (by kernel_rfl) (by kernel_rfl) (fun _ _ _ h => h) (yields_eqlJ (by rfl) (.tmp 149) (.tmp 150) rfl H HH.out.2 rfl rfl) hS0 ?_
  try simp only [Act.put, List.setIfInBounds_toArray, List.set_cons_zero, List.set_cons_succ]
  refine wpAnyH_take (i := 20) (oi := ({ dst := some 152, op := Op.pick (Operand.tmp 148) (Operand.tmp 151) (Operand.const (Value.bool false)), type := 4, pos := "outright.go:184", after := #[{ on := 16, ground := Ground.data }, { on := 19, ground := Ground.data }], guard := none } : Oper)) (v := .bool true) rfl (by kernel_rfl) (by kernel_rfl) (by kernel_rfl) (fun _ _ _ h => h) (Or.inl ⟨by rfl, by intro w hw; go_simp⟩) hS0 ?_
  try simp only [Act.put, List.setIfInBounds_toArray, List.set_cons_zero, List.set_cons_succ]
  refine wpAnyH_take (i := 21) (oi := ({ dst := some 153, op := Op.move (Operand.tmp 152), type := 4, pos := "outright.go:184", after := #[{ on := 20, ground := Ground.data }, { on := 16, ground := Ground.chain }], guard := none } : Oper)) (v := .bool true) rfl (by kernel_rfl) (by kernel_rfl) (by kernel_rfl) (fun _ _ _ h => h) (Or.inl ⟨by rfl, by intro w hw; go_simp⟩) hS0 ?_
  try simp only [Act.put, List.setIfInBounds_toArray, List.set_cons_zero, List.set_cons_succ]
  refine wpAnyH_take (i := 22) (oi := ({ dst := some 154, op := Op.move (Operand.tmp 22), type := 32, pos := "outright.go:184", after := #[{ on := 21, ground := Ground.guard }], guard := some (21, true) } : Oper)) (v := sen (a 7)) rfl (by kernel_rfl) (by kernel_rfl) (by kernel_rfl) (fun _ _ _ h => h) (Or.inl ⟨by rfl, by intro w hw; go_simp⟩) hS0 ?_
  try simp only [Act.put, List.setIfInBounds_toArray, List.set_cons_zero, List.set_cons_succ]
  refine wpAnyH_ready (rs := [23]) (by kernel_rfl) (by simp) ?_
  refine (AllReadyH.cons (o := ({ dst := some 155, op := Op.call { callee := Callee.value (Operand.func 12), args := #[Operand.tmp 154, Operand.const (Value.int IntKind.i64 8)], argTypes := #[32, 3] }, type := 4, pos := "outright.go:184", after := #[{ on := 22, ground := Ground.data }, { on := 21, ground := Ground.chain }, { on := 21, ground := Ground.guard }], guard := some (21, true) } : Oper)) rfl (fun K' hK => ?_) AllReadyH.nil)
  go_simp
  go_wp2_with (go_at_call 12; refine (Q8.out _ nb).mono ?_; rintro ex w104 ⟨rfl, nw104⟩)
  have nb := nb.tr nw104
  refine hK.out _ _ (hkp.out _ nb) (fun hS0 => ?_)
  try simp only [Act.put, List.setIfInBounds_toArray, List.set_cons_zero, List.set_cons_succ]
  refine wpAnyH_take (i := 24) (oi := ({ dst := some 156, op := Op.pick (Operand.tmp 153) (Operand.tmp 155) (Operand.const (Value.bool false)), type := 4, pos := "outright.go:184", after := #[{ on := 21, ground := Ground.data }, { on := 23, ground := Ground.data }], guard := none } : Oper)) (v := .bool true) rfl (by kernel_rfl) (by kernel_rfl) (by kernel_rfl) (fun _ _ _ h => h) (Or.inl ⟨by rfl, by intro w hw; go_simp⟩) hS0 ?_
  try simp only [Act.put, List.setIfInBounds_toArray, List.set_cons_zero, List.set_cons_succ]
  refine wpAnyH_take (i := 25) (oi := ({ dst := some 157, op := Op.move (Operand.tmp 156), type := 4, pos := "outright.go:184", after := #[{ on := 24, ground := Ground.data }, { on := 23, ground := Ground.chain }], guard := none } : Oper)) (v := .bool true) rfl (by kernel_rfl) (by kernel_rfl) (by kernel_rfl) (fun _ _ _ h => h) (Or.inl ⟨by rfl, by intro w hw; go_simp⟩) hS0 ?_
  try simp only [Act.put, List.setIfInBounds_toArray, List.set_cons_zero, List.set_cons_succ]
  refine wpAnyH_take (i := 26) (oi := ({ dst := some 158, op := Op.move (Operand.tmp 24), type := 32, pos := "outright.go:184", after := #[{ on := 25, ground := Ground.guard }], guard := some (25, true) } : Oper)) (v := sen (a 4)) rfl (by kernel_rfl) (by kernel_rfl) (by kernel_rfl) (fun _ _ _ h => h) (Or.inl ⟨by rfl, by intro w hw; go_simp⟩) hS0 ?_
  try simp only [Act.put, List.setIfInBounds_toArray, List.set_cons_zero, List.set_cons_succ]
  refine wpAnyH_ready (rs := [27]) (by kernel_rfl) (by simp) ?_
  refine (AllReadyH.cons (o := ({ dst := some 159, op := Op.call { callee := Callee.value (Operand.func 12), args := #[Operand.tmp 158, Operand.const (Value.int IntKind.i64 5)], argTypes := #[32, 3] }, type := 4, pos := "outright.go:184", after := #[{ on := 26, ground := Ground.data }, { on := 25, ground := Ground.chain }, { on := 25, ground := Ground.guard }], guard := some (25, true) } : Oper)) rfl (fun K' hK => ?_) AllReadyH.nil)
  go_simp
  go_wp2_with (go_at_call 12; refine (Q5.out _ nb).mono ?_; rintro ex w105 ⟨rfl, nw105⟩)
  have nb := nb.tr nw105
  refine hK.out _ _ (hkp.out _ nb) (fun hS0 => ?_)
  try simp only [Act.put, List.setIfInBounds_toArray, List.set_cons_zero, List.set_cons_succ]
  refine wpAnyH_take (i := 28) (oi := ({ dst := some 160, op := Op.pick (Operand.tmp 157) (Operand.tmp 159) (Operand.const (Value.bool false)), type := 4, pos := "outright.go:184", after := #[{ on := 25, ground := Ground.data }, { on := 27, ground := Ground.data }], guard := none } : Oper)) (v := .bool true) rfl (by kernel_rfl) (by kernel_rfl) (by kernel_rfl) (fun _ _ _ h => h) (Or.inl ⟨by rfl, by intro w hw; go_simp⟩) hS0 ?_
  try simp only [Act.put, List.setIfInBounds_toArray, List.set_cons_zero, List.set_cons_succ]
  refine wpAnyH_ready (rs := [29]) (by kernel_rfl) (by simp) ?_
  refine (AllReadyH.cons (o := ({ dst := some 28, op := Op.assign (Operand.tmp 160), type := 4, pos := "outright.go:184", after := #[{ on := 28, ground := Ground.data }, { on := 27, ground := Ground.chain }, { on := 0, ground := Ground.phase }, { on := 1, ground := Ground.phase }, { on := 2, ground := Ground.phase }, { on := 3, ground := Ground.phase }, { on := 4, ground := Ground.phase }, { on := 5, ground := Ground.phase }, { on := 6, ground := Ground.phase }, { on := 7, ground := Ground.phase }, { on := 8, ground := Ground.phase }, { on := 9, ground := Ground.phase }, { on := 10, ground := Ground.phase }, { on := 11, ground := Ground.phase }, { on := 12, ground := Ground.phase }, { on := 13, ground := Ground.phase }, { on := 14, ground := Ground.phase }, { on := 15, ground := Ground.phase }, { on := 16, ground := Ground.phase }, { on := 17, ground := Ground.phase }, { on := 18, ground := Ground.phase }, { on := 19, ground := Ground.phase }, { on := 20, ground := Ground.phase }, { on := 21, ground := Ground.phase }, { on := 22, ground := Ground.phase }, { on := 23, ground := Ground.phase }, { on := 24, ground := Ground.phase }, { on := 25, ground := Ground.phase }, { on := 26, ground := Ground.phase }, { on := 27, ground := Ground.phase }, { on := 28, ground := Ground.phase }], guard := none } : Oper)) rfl (fun K' hK => ?_) AllReadyH.nil)
  go_simp
  refine hK.out _ _ (hkp.out _ nb) (fun hS0 => ?_)
  try simp only [Act.put, List.setIfInBounds_toArray, List.set_cons_zero, List.set_cons_succ]
  refine wpAnyH_done (by kernel_rfl) ?_ _
  have NE : Hid (Nw w w105) := Nwq.out.tr nb
  have QL := lives14_any (GD.out.nw NE.out)
  clear nb
  go_wp2_with fail
  refine QL.mono ?_
  rintro e wz ⟨rfl, nz⟩
  have NZ : Hid (Nw w wz) := NE.out.tr nz
  clear nz QL
  go_wp2
  go_ret
  exact ⟨rfl, NZ.out⟩
end Go.Proofs.YtbkhdnceblgljaaGreatDoor
