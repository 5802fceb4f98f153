/- StoreFails. -/
import Derived.Test.YtdckjmbellngiaaDoorFn0
namespace Go.Proofs.YtdckjmbellngiaaDoor
open Go.RowKit Go.Maps Go.Sort Go.Proofs
set_option linter.unusedVariables false
set_option linter.unusedSimpArgs false
theorem okR_posv {zs : List Int} {k : Nat} (h : okR 0 (zs.take (k + 1)) = true) (hk : k < zs.length) : 1 ≤ zs.getD k 0 := by
  obtain ⟨_, h2⟩ := okR_pw _ _ h
  have : zs.getD k 0 ∈ zs.take (k + 1) := by
    rw [List.take_add_one, List.getElem?_eq_getElem hk, Option.toList_some]
    exact List.mem_append_right _ (List.mem_singleton.2 (by simp [List.getD_eq_getElem?_getD, hk]))
  have := h2 _ this
  omega
theorem okR_bad {zs : List Int} {k : Nat} (h : okR 0 (zs.take k) = false) : okR 0 zs = false := by
  cases hb : okR 0 zs
  · rfl
  · rw [okR_pre hb k] at h; cases h
theorem infoW : (Tryd.prog.info? 49).map (fun i => (i.zero, i.size, i.bytes)) = some (some (.agg #[.string ⟨#[]⟩, .string ⟨#[]⟩]), 2, 32) := by kernel_rfl
theorem wr_new (w : World) (a b : Value) (t : TypeId) : ∀ j u, [a, b][j]? = some u → (w.alloc (.cells #[a, b] t)).cell? ((⟨w.heap.size, 0, none⟩ : Addr).add j) = some u := by
  intro j u h
  rw [addO, cell_of (heap_new _ _)]
  match j, h with
  | 0, h => simpa using h
  | 1, h => simpa using h
  | j + 2, h => simp at h
set_option maxRecDepth 100000 in
set_option maxHeartbeats 8000000 in
theorem fails12_any {w : World} {B : Nat} {a : Nat → Addr} (hS : Sent B w a) {p : Option Addr} {ls : WL} (hW : Wrs w p ls) (hlt : ∀ x ∈ ls, x.2.size ≤ 140737488355328) (c : Nat) {p1 : Option Addr} {zs : List Int} (hZ : Iz w p1 zs) (c1 : Nat) {p2 : Option Addr} {ss : List ByteArray} (hT : Strs w p2 ss) (c2 : Nat) :
    Calls Tryd.prog 5 #[.slice p ls.length c, .slice p1 zs.length c1, .slice p2 ss.length c2] w fun e w' => e = .returned (.bool true) ∧ Nw w w' := by
  have HS : Hid (Sent B w a) := hS
  have HW : Hid (Wrs w p ls) := hW
  have HL : Hid (∀ x ∈ ls, x.2.size ≤ 140737488355328) := hlt
  have HZ : Hid (Iz w p1 zs) := hZ
  have HT : Hid (Strs w p2 ss) := hT
  obtain ⟨m, hm⟩ : ∃ m, m = ls.length := ⟨_, rfl⟩
  obtain ⟨r, hr⟩ : ∃ r, r = zs.length := ⟨_, rfl⟩
  obtain ⟨q, hq⟩ : ∃ q, q = ss.length := ⟨_, rfl⟩
  have Hm : Hid (ls.length = m) := hm.symm
  have Hr : Hid (zs.length = r) := hr.symm
  have Hq : Hid (ss.length = q) := hq.symm
  rw [← hm, ← hr, ← hq]
  have hS1 : Hid (∀ W, Nw w W → Sent B W a) := fun W nW => HS.out.fr nW (fun _ _ f => f)
  clear hS hW hlt hm hr hq hZ hT
  by_cases hbig : (m : Int) ≤ 200 ∧ (q : Int) ≤ 200 ∧ (r : Int) ≤ 200
  rotate_left
  · have d1 : Hid (¬ ((m : Int) ≤ 200 ∧ (q : Int) ≤ 200 ∧ (r : Int) ≤ 200)) := hbig
    clear hbig
    go_enter Tryd.func5, Tryd.ntmps5
    by_cases h1 : (200 : Int) < (m : Int)
    · go_wp2_with fail
      refine (alive_any HS.out).mono ?_
      rintro e w1 ⟨rfl, n1⟩
      have N1 : Hid (Nw w w1) := n1
      clear n1
      go_wp2
      go_ret
      exact ⟨rfl, N1.out⟩
    · by_cases h2 : (200 : Int) < (q : Int)
      · go_wp2_with fail
        refine (alive_any HS.out).mono ?_
        rintro e w1 ⟨rfl, n1⟩
        have N1 : Hid (Nw w w1) := n1
        clear n1
        go_wp2
        go_ret
        exact ⟨rfl, N1.out⟩
      · have h3 : (200 : Int) < (r : Int) := by have := d1.out; omega
        go_wp2_with fail
        refine (alive_any HS.out).mono ?_
        rintro e w1 ⟨rfl, n1⟩
        have N1 : Hid (Nw w w1) := n1
        clear n1
        go_wp2
        go_ret
        exact ⟨rfl, N1.out⟩
  obtain ⟨hm2, hq2, hr2⟩ := hbig
  have b1 : ¬ (200 : Int) < (m : Int) := by omega
  have b2 : ¬ (200 : Int) < (q : Int) := by omega
  have b3 : ¬ (200 : Int) < (r : Int) := by omega
  go_enter Tryd.func5, Tryd.ntmps5
  go_wp2
  clear b1 b2 b3
  go_loopw [7] (fun v wr => ∃ k : Nat, k ≤ r ∧ v = .int .i64 k ∧ okR 0 (zs.take k) = true ∧ Nw w wr) (fun v _ => r - (intOf v).toNat)
  case atStart => exact ⟨0, by omega, rfl, rfl, Fr.refl _ _⟩
  case round =>
    obtain ⟨k, hk, rfl, hok, hnw⟩ := hrel
    have HOK : Hid (okR 0 (zs.take k) = true) := hok
    have HN : Hid (Nw w wr) := hnw
    clear hok
    by_cases hkr : k < r
    · have hkk : (k : Int) < (r : Int) := by omega
      have hkz : k < zs.length := by rw [Hr.out]; exact hkr
      obtain ⟨g, o, rfl, hc⟩ := HZ.out k hkz
      have hd := hnw.cellOf hc
      have HF := okR_find hkz HOK.out
      have HF2 : Hid (okR 0 (zs.take (k + 1)) = decide ((if k = 0 then 0 else zs.getD (k - 1) 0) < zs.getD k 0)) := HF
      clear HF hc
      by_cases hgood : (if k = 0 then 0 else zs.getD (k - 1) 0) < zs.getD k 0
      · have HG : Hid (okR 0 (zs.take (k + 1)) = true) := by show _ = _; rw [HF2.out]; exact decide_eq_true hgood
        have h1 : ¬ zs.getD k 0 < 1 := by have := okR_posv HG.out hkz; omega
        by_cases h0 : k = 0
        · subst h0
          generalize zs.getD 0 0 = x at hd h1
          rw [Nat.add_zero] at hd
          have hk0 : (0 : Int) < (r : Int) := by omega
          have d8 : decide ((0 : Int) < 0) = false := by decide
          have d1 : decide (x < 1) = false := decide_eq_false h1
          clear hgood HF2
          go_wp2_with fail
          go_quiet (fail)
          go_wp2
          exact ⟨⟨1, by omega, by go_num, HG.out, HN.out.drewN _⟩, by simp [intOf]; omega⟩
        · rw [if_neg h0] at hgood
          obtain ⟨i, hi⟩ : ∃ i, k = i + 1 := ⟨k - 1, by omega⟩
          have e9 : k - 1 = i := by omega
          rw [e9] at hgood
          obtain ⟨g2, o2, e2, hc2⟩ := HZ.out i (by omega)
          cases e2
          have hd2 := hnw.cellOf hc2
          generalize zs.getD k 0 = x at hd h1 hgood
          generalize zs.getD i 0 = y at hd2 hc2 hgood
          have d1 : decide (x < 1) = false := decide_eq_false h1
          have d2 : decide ((0 : Int) < (k : Int)) = true := decide_eq_true (by omega)
          have d3 : decide (0 < k) = true := decide_eq_true (by omega)
          have d4 : decide (x ≤ y) = false := decide_eq_false (by omega)
          have e1 : (k : Int) - 1 = (i : Int) := by omega
          have e2 : IntKind.i64.wrap ((k : Int) - 1) = (i : Int) := by rw [IntKind.wrap_i64]; omega
          have hir : (i : Int) < (r : Int) := by omega
          clear hc2 HF2 hgood h0 hi e9
          go_wp2_with fail
          go_quiet (fail)
          go_wp2
          exact ⟨⟨k + 1, by omega, by go_num, HG.out, HN.out.drewN _⟩, by simp [intOf]; omega⟩
      · have HB : Hid (okR 0 zs = false) := okR_bad (k := k + 1) (by rw [HF2.out]; exact decide_eq_false hgood)
        have qb := fun W (nW : Nw w W) => snew_bad (some ⟨g, o, none⟩) c1 zs 0 (HZ.out.nw nW) (by rw [Hr.out]; omega) HB.out (hS1.out W nW)
        rw [Hr.out] at qb
        have qe := fun W (nW : Nw w W) => is_sen (hS1.out W nW) 1 (by decide) (c := 2) (by decide)
        have qa := fun W (nW : Nw w W) => alive_any (hS1.out W nW)
        clear HB HF2
        by_cases h1 : zs.getD k 0 < 1
        · generalize zs.getD k 0 = x at hd h1
          have d1 : decide (x < 1) = true := decide_eq_true h1
          clear hgood
          go_wp2_with fail
          go_quiet (fail)
          go_wp2_with fail
          refine (qb _ (HN.out.drewN _)).mono ?_
          rintro e w1 ⟨rfl, n1⟩
          have N1 : Hid (Nw w w1) := Nw.tr (HN.out.drewN _) n1
          clear n1 qb
          go_wp2_with fail
          refine (qe _ N1.out).mono ?_
          rintro e w2 ⟨rfl, n2⟩
          have N2 : Hid (Nw w w2) := N1.out.tr n2
          clear n2 qe N1
          go_wp2_with fail
          refine (qa _ N2.out).mono ?_
          rintro e w3 ⟨rfl, n3⟩
          have N3 : Hid (Nw w w3) := N2.out.tr n3
          clear n3 qa N2
          go_wp2
          go_ret
          exact ⟨rfl, N3.out⟩
        · have h0 : k ≠ 0 := by intro e; subst e; rw [if_pos rfl] at hgood; omega
          rw [if_neg h0] at hgood
          obtain ⟨i, hi⟩ : ∃ i, k = i + 1 := ⟨k - 1, by omega⟩
          have e9 : k - 1 = i := by omega
          rw [e9] at hgood
          obtain ⟨g2, o2, e2, hc2⟩ := HZ.out i (by omega)
          cases e2
          have hd2 := hnw.cellOf hc2
          generalize zs.getD k 0 = x at hd h1 hgood
          generalize zs.getD i 0 = y at hd2 hc2 hgood
          have d1 : decide (x < 1) = false := decide_eq_false h1
          have d2 : decide ((0 : Int) < (k : Int)) = true := decide_eq_true (by omega)
          have d3 : decide (0 < k) = true := decide_eq_true (by omega)
          have d4 : decide (x ≤ y) = true := decide_eq_true (by omega)
          have e1 : (k : Int) - 1 = (i : Int) := by omega
          have e2 : IntKind.i64.wrap ((k : Int) - 1) = (i : Int) := by rw [IntKind.wrap_i64]; omega
          have hir : (i : Int) < (r : Int) := by omega
          clear hc2 hgood h0 hi e9
          go_wp2_with fail
          go_quiet (fail)
          go_wp2_with fail
          refine (qb _ (HN.out.drewN _)).mono ?_
          rintro e w1 ⟨rfl, n1⟩
          have N1 : Hid (Nw w w1) := Nw.tr (HN.out.drewN _) n1
          clear n1 qb
          go_wp2_with fail
          refine (qe _ N1.out).mono ?_
          rintro e w2 ⟨rfl, n2⟩
          have N2 : Hid (Nw w w2) := N1.out.tr n2
          clear n2 qe N1
          go_wp2_with fail
          refine (qa _ N2.out).mono ?_
          rintro e w3 ⟨rfl, n3⟩
          have N3 : Hid (Nw w w3) := N2.out.tr n3
          clear n3 qa N2
          go_wp2
          go_ret
          exact ⟨rfl, N3.out⟩
    · have ekr : k = r := by omega
      have hge : ¬ (k : Int) < (r : Int) := by omega
      have HG : Hid (okR 0 zs = true) := by
        show _ = _
        have := HOK.out
        rw [ekr, ← Hr.out, List.take_length] at this
        exact this
      have qn := al_new (w := w) (crash := 0) (c := c1) HN.out (HZ.out.nw HN.out) (by rw [Hr.out]; omega) HG.out (l := r) Hr.out
      clear HOK hkr ekr hk hnw
      go_wp2_with fail
      refine qn.mono ?_
      rintro e w1 ⟨b, bm, g0, rfl, al⟩
      have hg0 : Hid (zs = [] ∨ ∀ g o, (some ⟨g0, 0, none⟩ : Option Addr) = some ⟨g, o, none⟩ → g < w1.heap.size) := by
        rcases Nat.eq_zero_or_pos zs.length with h | h
        · exact .inl (List.length_eq_zero_iff.1 h)
        · obtain ⟨g', o', e', hc'⟩ := al.sr.rd 0 h
          refine .inr fun g o e => ?_
          cases e'
          cases e
          exact World.block_lt_of_cell? w1 _ hc'
      have AK : Hid (Ak w w1.heap.size w1 b bm (keepL ls 0).length (keepL ls 0) (.slice none 0 0) (some ⟨g0, 0, none⟩) r zs 0 ((keepL ls 0).length : Int)) := by
        refine ⟨?_, World.ownsRow_nil _ _ _ _, heap_lt al.sr.blk, al.sr.mp.lt, hg0.out, Nat.le_refl _, al.nw.size⟩
        have e0 : liesT (keepL ls 0) (keepL ls 0).length = fun _ => none := by funext x; rfl
        rw [e0]
        exact al
      obtain ⟨N, hN⟩ : ∃ N, N = w1.heap.size := ⟨_, rfl⟩
      rw [← hN] at AK
      clear al qn hg0 hN HN
      go_wp2
      obtain ⟨i0, hi0, hie⟩ := Option.map_eq_some_iff.1 infoW
      simp only [Prod.mk.injEq] at hie
      obtain ⟨hz0, hz1, hz2⟩ := hie
      have HI0 : Hid (Tryd.prog.info? 49 = some i0 ∧ i0.zero = some (.agg #[.string ⟨#[]⟩, .string ⟨#[]⟩]) ∧ i0.size = 2 ∧ i0.bytes = 32) := ⟨hi0, hz0, hz1, hz2⟩
      clear hi0 hz0 hz1 hz2
      go_loopw [12, 13] (fun u v wr => ∃ (i : Nat) (va : Option Addr) (vc : Nat), i ≤ m ∧ v = .int .i64 i ∧ u = .slice va (keepL ls i).length vc ∧ Ak w N wr b bm (keepL ls i).length (keepL ls i) (.slice va (keepL ls i).length vc) (some ⟨g0, 0, none⟩) r zs 0 ((keepL ls i).length : Int)) (fun _ v _ => m - (intOf v).toNat)
      case atStart => exact ⟨0, none, 0, by omega, rfl, rfl, AK.out⟩
      case round =>
        obtain ⟨i, va, vc, hi, rfl, rfl, ak⟩ := hrel
        have AI : Hid (Ak w N wr b bm (keepL ls i).length (keepL ls i) (.slice va (keepL ls i).length vc) (some ⟨g0, 0, none⟩) r zs 0 ((keepL ls i).length : Int)) := ak
        have hKl := keepL_le ls i
        clear ak AK
        by_cases him : i < m
        · have hii : (i : Int) < (m : Int) := by omega
          obtain ⟨g1, o1, e1, hcx, hcy⟩ := HW.out i (by rw [Hm.out]; exact him)
          subst e1
          obtain ⟨X, hX⟩ : ∃ X, X = (atW ls i).1 := ⟨_, rfl⟩
          obtain ⟨Y, hY⟩ : ∃ Y, Y = (atW ls i).2 := ⟨_, rfl⟩
          have cX : Hid (w.cell? ⟨g1, o1 + i * 2, none⟩ = some (.string X)) := by show _ = _; rw [hX]; exact hcx
          have cY : Hid (w.cell? ⟨g1, o1 + i * 2 + 1, none⟩ = some (.string Y)) := by show _ = _; rw [hY]; exact hcy
          have hYs : Y.size ≤ 281474976710656 := by
            have := HL.out (atW ls i) (by simp [atW, List.getD_eq_getElem?_getD, Hm.out, him])
            rw [hY]; omega
          have HX : Hid (X = (atW ls i).1) := hX
          have HY : Hid (Y = (atW ls i).2) := hY
          have dX := AI.out.al.nw.cellOf cX.out
          have dY := AI.out.al.nw.cellOf cY.out
          clear hcx hcy hX hY
          obtain ⟨L, hL⟩ : ∃ L, L = (keepL ls i).length := ⟨_, rfl⟩
          have HLL : Hid (L = (keepL ls i).length) := hL
          rw [← hL] at AI ⊢
          have hLi : L ≤ i := by rw [hL]; exact hKl
          clear hL hKl
          by_cases hokX : okN X
          · have HOX : Hid (okN X) := hokX
            have HK2 : Hid (keepL ls (i + 1) = keepL ls i ++ [(X, Y)]) := by
              show _ = _
              rw [keepL_yes (by rw [← HX.out]; exact HOX.out), HX.out, HY.out]
            clear hokX
            have qP : Hid (∀ W, Nw wr W → Calls Tryd.prog 7 #[.pointer (some ⟨b, 0, none⟩), .string X, .string Y] W fun e W' => e = .returned .nilIface ∧ N ≤ W'.heap.size ∧ Al w W' b bm (L + 1) (putT (liesT (keepL ls i) (keepL ls i).length) X Y) (some ⟨g0, 0, none⟩) r zs 0 0 ((L : Int) + 1) false ∧ W'.ownsRow N 49 2 (.slice va L vc) (keepL ls i).length (flW (keepL ls i))) := fun W nW => (AI.out.go nW).put HS.out X Y HOX.out hYs (by omega) (by omega)
            go_wp2_with fail
            go_region_held3 (fun w' => w'.cell? ⟨g1, o1 + i * 2, none⟩ = some (.string X) ∧ w'.cell? ⟨g1, o1 + i * 2 + 1, none⟩ = some (.string Y)) (first | exact ⟨dX, dY⟩ | exact KEEP.out) ((go_at_call 7; refine (qP.out _ (by first | exact (Fr.refl _ _).drew | exact Fr.refl _ _)).mono ?_; rintro e w5 ⟨rfl, p5⟩; have A5 : Hid (N ≤ w5.heap.size ∧ Al w w5 b bm (L + 1) (putT (liesT (keepL ls i) (keepL ls i).length) X Y) (some ⟨g0, 0, none⟩) r zs 0 0 ((L : Int) + 1) false ∧ w5.ownsRow N 49 2 (.slice va L vc) (keepL ls i).length (flW (keepL ls i))) := p5; have KEEP : Hid (w5.cell? ⟨g1, o1 + i * 2, none⟩ = some (.string X) ∧ w5.cell? ⟨g1, o1 + i * 2 + 1, none⟩ = some (.string Y)) := ⟨p5.2.1.nw.cellOf cX.out, p5.2.1.nw.cellOf cY.out⟩; clear p5))
            have QM : Hid (∀ W, Nw w5 W → Calls Tryd.prog 15 #[.string X] W fun e w' => e = .returned (.bool true) ∧ Nw W w') := fun W nW => (may12_any X W).mono fun e w' ⟨h1, h2⟩ => ⟨by rw [h1, decide_eq_true HOX.out], by rw [h2]; exact Fr.refl _ _⟩
            clear qP dX dY
            go_wp2_with fail
            haveI : Nonempty (Grw w5) := ⟨⟨w5, Fr.refl _ _⟩⟩
            have hex := fun x : Grw w5 => (⟨x, rfl⟩ : ∃ y : Grw w5, x.val = y.val)
            have z0 := fun x : Grw w5 => x.nw.cellOf KEEP.out.1
            (refine wp_region_grown (by kernel_rfl) (by kernel_rfl) ?_; (repeat (first | go_big_quiet_skip | (go_big_quiet_want; first | (go_big_quiet_op; first | go_big_quiet_on | go_big_quiet_call (first | rfl | with_reducible exact grw_call QM.out (Fr.refl _ w5) _))))); refine wpQuiet_nil ?_; rintro W ⟨⟨_, nW⟩, rfl⟩)
            have yX := nW.cellOf KEEP.out.1
            have yY := nW.cellOf KEEP.out.2
            have HNW : Hid (Nw w5 W) := nW
            clear nW z0 hex QM this KEEP
            have OWN : Hid ((W.alloc (.cells #[.string X, .string Y] 49)).ownsRow N 49 2 (.slice va L vc) L (flW (keepL ls i))) := by
              have := A5.out.2.2
              rw [← HLL.out] at this
              exact (own_nw this HNW.out).alloc _
            have HB5 : Hid (N ≤ (W.alloc (.cells #[.string X, .string Y] 49)).heap.size) := by
              have := A5.out.1
              have := HNW.out.size
              show _ ≤ _
              simp
              omega
            have HNew := show Hid (∀ j u, [Value.string X, .string Y][j]? = some u → (W.alloc (.cells #[.string X, .string Y] 49)).cell? ((⟨W.heap.size, 0, none⟩ : Addr).add j) = some u) from wr_new W (.string X) (.string Y) 49
            go_wp2_with (at_builtin; refine wpList_append_own _ rfl (.tmp 131) (.tmp 136) 44 rfl N 49 i0 (.agg #[.string ⟨#[]⟩, .string ⟨#[]⟩]) 2 32 Tryd.underlying44 HI0.out.1 HI0.out.2.1 HI0.out.2.2.1 HI0.out.2.2.2 rfl (by decide) (.slice va L vc) L (flW (keepL ls i)) rfl OWN.out ⟨W.heap.size, 0, none⟩ 1 1 [.string X, .string Y] rfl rfl HNew.out (by simp [Value.oneCell']) (by unfold maxLen; omega) (by omega) HB5.out ?_; intro v' w6 o6 g6 x6; clear x6; have A6 : Hid (Ak w N w6 b bm (L + 1) (keepL ls i ++ [(X, Y)]) v' (some ⟨g0, 0, none⟩) r zs 0 ((L : Int) + 1)) := by (have hal := (A5.out.2.1.go HNW.out).go (nwA W (.cells #[.string X, .string Y] 49)); have ho6 := o6; rw [HLL.out] at ho6; exact Ak.app AI.out (x := (X, Y)) hal HB5.out (fun k hk => (OWN.out.lt k hk).1) g6 ho6))
            obtain ⟨xa, xc, rfl⟩ := ownsRow_form o6
            clear o6 g6 yX yY OWN HB5 HNew A5 HNW AI
            go_wp2
            have hL2 : Hid ((keepL ls (i + 1)).length = L + 1) := by show _ = _; rw [HK2.out, List.length_append, ← HLL.out]; rfl
            have e9 : ((L + 1 : Nat) : Int) = (L : Int) + 1 := by omega
            refine ⟨⟨i + 1, xa, xc, by omega, by go_num, by rw [hL2.out], ?_⟩, by simp [intOf]; omega⟩
            rw [hL2.out, HK2.out, e9]
            exact A6.out
          · have HOX : Hid (¬ okN X) := hokX
            have HK2 : Hid (keepL ls (i + 1) = keepL ls i) := by
              show _ = _
              exact keepL_no (by rw [← HX.out]; exact HOX.out)
            clear hokX
            have qP : Hid (∀ W, Nw wr W → Calls Tryd.prog 7 #[.pointer (some ⟨b, 0, none⟩), .string X, .string Y] W fun e W' => e = .returned (sen (a 1)) ∧ Ak w N W' b bm L (keepL ls i) (.slice va L vc) (some ⟨g0, 0, none⟩) r zs 0 (L : Int)) := fun W nW => (sput_ref (AI.out.go nW).al.sr.blk X Y (hS1.out W (AI.out.go nW).al.nw) (x := a 1) (rfs_arg HOX.out)).mono fun e W' ⟨h1, h2⟩ => ⟨h1, by rw [h2]; exact AI.out.go nW⟩
            go_wp2_with fail
            go_region_held3 (fun w' => w'.cell? ⟨g1, o1 + i * 2, none⟩ = some (.string X) ∧ w'.cell? ⟨g1, o1 + i * 2 + 1, none⟩ = some (.string Y)) (first | exact ⟨dX, dY⟩ | exact KEEP.out) ((go_at_call 7; refine (qP.out _ (by first | exact (Fr.refl _ _).drew | exact Fr.refl _ _)).mono ?_; rintro e w5 ⟨rfl, p5⟩; have A5 : Hid (Ak w N w5 b bm L (keepL ls i) (.slice va L vc) (some ⟨g0, 0, none⟩) r zs 0 (L : Int)) := p5; have KEEP : Hid (w5.cell? ⟨g1, o1 + i * 2, none⟩ = some (.string X) ∧ w5.cell? ⟨g1, o1 + i * 2 + 1, none⟩ = some (.string Y)) := ⟨p5.al.nw.cellOf cX.out, p5.al.nw.cellOf cY.out⟩; clear p5))
            have QM : Hid (∀ W, Nw w5 W → Calls Tryd.prog 15 #[.string X] W fun e w' => e = .returned (.bool false) ∧ Nw W w') := fun W nW => (may12_any X W).mono fun e w' ⟨h1, h2⟩ => ⟨by rw [h1, decide_eq_false HOX.out], by rw [h2]; exact Fr.refl _ _⟩
            have QI : Hid (∀ W, Nw w5 W → Calls Tryd.prog 6 #[sen (a 1), .int .i64 2] W fun e w' => e = .returned (.bool true) ∧ Nw W w') := fun W nW => is_sen (hS1.out W (A5.out.al.nw.tr nW)) 1 (by decide) (by decide)
            clear qP dX dY
            go_wp2_with fail
            haveI : Nonempty (Grw w5) := ⟨⟨w5, Fr.refl _ _⟩⟩
            have hex := fun x : Grw w5 => (⟨x, rfl⟩ : ∃ y : Grw w5, x.val = y.val)
            have z0 := fun x : Grw w5 => x.nw.cellOf KEEP.out.1
            (refine wp_region_grown (by kernel_rfl) (by kernel_rfl) ?_; (repeat (first | go_big_quiet_skip | (go_big_quiet_want; first | (go_big_quiet_op; first | go_big_quiet_on | go_big_quiet_call (first | rfl | with_reducible exact grw_call QM.out (Fr.refl _ w5) _ | with_reducible exact grw_call QI.out (Fr.refl _ w5) _))))); refine wpQuiet_nil ?_; rintro W ⟨⟨_, nW⟩, rfl⟩)
            have A6 : Hid (Ak w N W b bm L (keepL ls i) (.slice va L vc) (some ⟨g0, 0, none⟩) r zs 0 (L : Int)) := A5.out.go nW
            clear nW z0 hex QM QI this KEEP A5 AI
            go_wp2
            refine ⟨⟨i + 1, va, vc, by omega, by go_num, by rw [HK2.out, ← HLL.out], ?_⟩, by simp [intOf]; omega⟩
            rw [HK2.out, ← HLL.out]
            exact A6.out
        · have eim : i = m := by omega
          have hge : ¬ (i : Int) < (m : Int) := by omega
          obtain ⟨K, hK⟩ : ∃ K, K = keepL ls i := ⟨_, rfl⟩
          rw [← hK] at AI hKl ⊢
          obtain ⟨L, hL⟩ : ∃ L, L = K.length := ⟨_, rfl⟩
          have HLL : Hid (K.length = L) := hL.symm
          rw [← hL] at AI hKl ⊢
          have hL2 : L ≤ 200 := by omega
          clear hK hL hKl eim him hi HI0 HW HL Hm
          go_wp2
          clear hge
          go_loopw [15, 16] (fun u v wr => ∃ (i n : Nat), i ≤ q ∧ n ≤ i ∧ v = .int .i64 i ∧ u = .int .i64 n ∧ Ak w N wr b bm L K (.slice va L vc) (some ⟨g0, 0, none⟩) r zs n L) (fun _ v _ => q - (intOf v).toNat)
          case atStart => exact ⟨0, 0, by omega, by omega, rfl, rfl, AI.out⟩
          case round =>
            obtain ⟨i, n, hi, hni, rfl, rfl, ak⟩ := hrel
            have AJ : Hid (Ak w N wr b bm L K (.slice va L vc) (some ⟨g0, 0, none⟩) r zs n L) := ak
            clear ak AI
            have hS2 : Hid (Sent B wr a) := hS1.out wr AJ.out.al.nw
            by_cases hiq : i < q
            · have hii : (i : Int) < (q : Int) := by omega
              obtain ⟨g1, o1, e1, hcx⟩ := HT.out.at i (by rw [Hq.out]; exact hiq)
              subst e1
              generalize ss.getD i e0t = X at hcx
              have cX : Hid (w.cell? ⟨g1, o1 + i, none⟩ = some (.string X)) := hcx
              have dX := AJ.out.al.nw.cellOf cX.out
              clear hcx
              by_cases hokX : okN X
              · have HOX : Hid (okN X) := hokX
                have qm := fun W => may12_any X W
                rw [decide_eq_true hokX] at qm
                clear hokX
                have qL := fun (W : World) (hW : Wrs W va K) => lies12_any hW vc L L (by rw [HLL.out]; exact Nat.le_refl _) HLL.out.symm (by rw [HLL.out]; omega) X
                by_cases hin : (n : Int) + 1 ∈ zs
                · have HV : Hid (getV a zs (n : Int) (liesT K K.length X) = .tuple #[.string ⟨#[]⟩, sen (a 6)]) := by show _ = _; unfold getV; rw [if_pos hin]
                  have HZF : Hid (anyZ zs ((n : Int) + 1) r = true) := by show _ = _; rw [← Hr.out, anyZ_all]; exact decide_eq_true hin
                  generalize (liesT K L X).getD e0t = y1 at qL
                  generalize (liesT K L X).isSome = y2 at qL
                  have qG := AJ.out.get HS.out X HOX.out (by rw [Hr.out]; omega) HG.out (by omega) HV.out
                  clear hin HV
                  go_wp2_with fail
                  refine qG.mono ?_
                  rintro e w5 ⟨rfl, ak⟩
                  have A5 : Hid (Ak w N w5 b bm L K (.slice va L vc) (some ⟨g0, 0, none⟩) r zs ((n : Int) + 1) L) := ak
                  have dX5 := A5.out.al.nw.cellOf cX.out
                  clear qG ak AJ hS2 dX
                  go_wp2_with fail
                  refine (qm w5).mono ?_
                  rintro e w6 ⟨rfl, rfl⟩
                  clear qm dX5
                  go_wp2
                  go_loopw [19, 20] (fun u v wx => ∃ k : Nat, k ≤ r ∧ v = .int .i64 k ∧ u = .bool (anyZ zs ((n : Int) + 1) k) ∧ w6 = wx) (fun _ v _ => r - (intOf v).toNat)
                  case atStart => exact ⟨0, by omega, rfl, rfl, rfl⟩
                  case round =>
                    obtain ⟨k, hk, rfl, rfl, rfl⟩ := hrel
                    by_cases hkr : k < r
                    · have hkk : (k : Int) < (r : Int) := by omega
                      obtain ⟨g3, o3, e3, hc3⟩ := HZ.out k (by rw [Hr.out]; exact hkr)
                      subst e3
                      have HB : Hid (anyZ zs ((n : Int) + 1) (k + 1) = (anyZ zs ((n : Int) + 1) k || zs.getD k 0 == (n : Int) + 1)) := rfl
                      have hd3 := A5.out.al.nw.cellOf hc3
                      generalize zs.getD k 0 = z at hd3 hc3 HB
                      generalize anyZ zs ((n : Int) + 1) k = f at HB ⊢
                      clear hc3
                      cases f
                      · go_wp2
                        exact ⟨⟨k + 1, by omega, by go_num, by rw [HB.out]; simp, trivial⟩, by simp [intOf]; omega⟩
                      · go_wp2
                        exact ⟨⟨k + 1, by omega, by go_num, by rw [HB.out]; simp, trivial⟩, by simp [intOf]; omega⟩
                    · have ek : k = r := by omega
                      subst ek
                      have hge : ¬ (k : Int) < (k : Int) := by omega
                      rw [HZF.out]
                      have dX5 := A5.out.al.nw.cellOf cX.out
                      go_wp2_with fail
                      refine (qL w6 (wrs_own (base := N) (vc := vc) (by have h := A5.out.own; rw [HLL.out] at h ⊢; exact h))).mono ?_
                      rintro e w7 ⟨rfl, rfl⟩
                      clear qL dX5
                      go_wp2_with fail
                      refine (is_sen (hS1.out w7 A5.out.al.nw) 6 (by decide) (by decide)).mono ?_
                      rintro e w8 ⟨rfl, n8⟩
                      have A8 : Hid (Ak w N w8 b bm L K (.slice va L vc) (some ⟨g0, 0, none⟩) k zs ((n : Int) + 1) L) := A5.out.go n8
                      clear n8 A5
                      go_wp2_with fail
                      refine (scounts_any A8.out.al.sr.blk).mono ?_
                      rintro e w9 ⟨rfl, n9⟩
                      have A9 : Hid (Ak w N w9 b bm L K (.slice va L vc) (some ⟨g0, 0, none⟩) k zs ((n : Int) + 1) L) := A8.out.go n9
                      clear n9 A8
                      go_wp2_with fail
                      refine (sdead_any A9.out.al.sr.blk).mono ?_
                      rintro e w10 ⟨rfl, rfl⟩
                      go_wp2
                      have e9 : ((n + 1 : Nat) : Int) = (n : Int) + 1 := by omega
                      exact ⟨⟨i + 1, n + 1, by omega, by omega, by go_num, by go_num, by rw [e9]; exact A9.out⟩, by simp [intOf]; omega⟩
                · cases hM : liesT K L X with
                  | none =>
                    have HV : Hid (getV a zs (n : Int) (liesT K K.length X) = .tuple #[.string ⟨#[]⟩, sen (a 5)]) := by show _ = _; unfold getV; rw [if_neg hin, HLL.out, hM]
                    have HZF : Hid (anyZ zs ((n : Int) + 1) r = false) := by show _ = _; rw [← Hr.out, anyZ_all]; exact decide_eq_false hin
                    have qL2 := qL
                    clear qL
                    rw [hM] at qL2
                    simp only [Option.getD_none, Option.isSome_none, e0t] at qL2
                    have qG := AJ.out.get HS.out X HOX.out (by rw [Hr.out]; omega) HG.out (by omega) HV.out
                    clear hin hM HV
                    go_wp2_with fail
                    refine qG.mono ?_
                    rintro e w5 ⟨rfl, ak⟩
                    have A5 : Hid (Ak w N w5 b bm L K (.slice va L vc) (some ⟨g0, 0, none⟩) r zs ((n : Int) + 1) L) := ak
                    have dX5 := A5.out.al.nw.cellOf cX.out
                    clear qG ak AJ hS2 dX
                    go_wp2_with fail
                    refine (qm w5).mono ?_
                    rintro e w6 ⟨rfl, rfl⟩
                    clear qm dX5
                    go_wp2
                    go_loopw [19, 20] (fun u v wx => ∃ k : Nat, k ≤ r ∧ v = .int .i64 k ∧ u = .bool (anyZ zs ((n : Int) + 1) k) ∧ w6 = wx) (fun _ v _ => r - (intOf v).toNat)
                    case atStart => exact ⟨0, by omega, rfl, rfl, rfl⟩
                    case round =>
                      obtain ⟨k, hk, rfl, rfl, rfl⟩ := hrel
                      by_cases hkr : k < r
                      · have hkk : (k : Int) < (r : Int) := by omega
                        obtain ⟨g3, o3, e3, hc3⟩ := HZ.out k (by rw [Hr.out]; exact hkr)
                        subst e3
                        have HB : Hid (anyZ zs ((n : Int) + 1) (k + 1) = (anyZ zs ((n : Int) + 1) k || zs.getD k 0 == (n : Int) + 1)) := rfl
                        have hd3 := A5.out.al.nw.cellOf hc3
                        generalize zs.getD k 0 = z at hd3 hc3 HB
                        generalize anyZ zs ((n : Int) + 1) k = f at HB ⊢
                        clear hc3
                        cases f
                        · go_wp2
                          exact ⟨⟨k + 1, by omega, by go_num, by rw [HB.out]; simp, trivial⟩, by simp [intOf]; omega⟩
                        · go_wp2
                          exact ⟨⟨k + 1, by omega, by go_num, by rw [HB.out]; simp, trivial⟩, by simp [intOf]; omega⟩
                      · have ek : k = r := by omega
                        subst ek
                        have hge : ¬ (k : Int) < (k : Int) := by omega
                        rw [HZF.out]
                        have dX5 := A5.out.al.nw.cellOf cX.out
                        go_wp2_with fail
                        refine (qL2 w6 (wrs_own (base := N) (vc := vc) (by have h := A5.out.own; rw [HLL.out] at h ⊢; exact h))).mono ?_
                        rintro e w7 ⟨rfl, rfl⟩
                        clear qL2 dX5
                        go_wp2_with fail
                        refine (is_sen (hS1.out w7 A5.out.al.nw) 5 (by decide) (by decide)).mono ?_
                        rintro e w8 ⟨rfl, n8⟩
                        have A8 : Hid (Ak w N w8 b bm L K (.slice va L vc) (some ⟨g0, 0, none⟩) k zs ((n : Int) + 1) L) := A5.out.go n8
                        clear n8 A5
                        go_wp2_with fail
                        refine (scounts_any A8.out.al.sr.blk).mono ?_
                        rintro e w9 ⟨rfl, n9⟩
                        have A9 : Hid (Ak w N w9 b bm L K (.slice va L vc) (some ⟨g0, 0, none⟩) k zs ((n : Int) + 1) L) := A8.out.go n9
                        clear n9 A8
                        go_wp2_with fail
                        refine (sdead_any A9.out.al.sr.blk).mono ?_
                        rintro e w10 ⟨rfl, rfl⟩
                        go_wp2
                        have e9 : ((n + 1 : Nat) : Int) = (n : Int) + 1 := by omega
                        exact ⟨⟨i + 1, n + 1, by omega, by omega, by go_num, by go_num, by rw [e9]; exact A9.out⟩, by simp [intOf]; omega⟩
                  | some t =>
                    have HV : Hid (getV a zs (n : Int) (liesT K K.length X) = .tuple #[.string t, .nilIface]) := by show _ = _; unfold getV; rw [if_neg hin, HLL.out, hM]
                    have HZF : Hid (anyZ zs ((n : Int) + 1) r = false) := by show _ = _; rw [← Hr.out, anyZ_all]; exact decide_eq_false hin
                    have tt := tl_same t
                    have qL2 := qL
                    clear qL
                    rw [hM] at qL2
                    simp only [Option.getD_some, Option.isSome_some] at qL2
                    have qG := AJ.out.get HS.out X HOX.out (by rw [Hr.out]; omega) HG.out (by omega) HV.out
                    clear hin hM HV
                    go_wp2_with fail
                    refine qG.mono ?_
                    rintro e w5 ⟨rfl, ak⟩
                    have A5 : Hid (Ak w N w5 b bm L K (.slice va L vc) (some ⟨g0, 0, none⟩) r zs ((n : Int) + 1) L) := ak
                    have dX5 := A5.out.al.nw.cellOf cX.out
                    clear qG ak AJ hS2 dX
                    go_wp2_with fail
                    refine (qm w5).mono ?_
                    rintro e w6 ⟨rfl, rfl⟩
                    clear qm dX5
                    go_wp2
                    go_loopw [19, 20] (fun u v wx => ∃ k : Nat, k ≤ r ∧ v = .int .i64 k ∧ u = .bool (anyZ zs ((n : Int) + 1) k) ∧ w6 = wx) (fun _ v _ => r - (intOf v).toNat)
                    case atStart => exact ⟨0, by omega, rfl, rfl, rfl⟩
                    case round =>
                      obtain ⟨k, hk, rfl, rfl, rfl⟩ := hrel
                      by_cases hkr : k < r
                      · have hkk : (k : Int) < (r : Int) := by omega
                        obtain ⟨g3, o3, e3, hc3⟩ := HZ.out k (by rw [Hr.out]; exact hkr)
                        subst e3
                        have HB : Hid (anyZ zs ((n : Int) + 1) (k + 1) = (anyZ zs ((n : Int) + 1) k || zs.getD k 0 == (n : Int) + 1)) := rfl
                        have hd3 := A5.out.al.nw.cellOf hc3
                        generalize zs.getD k 0 = z at hd3 hc3 HB
                        generalize anyZ zs ((n : Int) + 1) k = f at HB ⊢
                        clear hc3
                        cases f
                        · go_wp2
                          exact ⟨⟨k + 1, by omega, by go_num, by rw [HB.out]; simp, trivial⟩, by simp [intOf]; omega⟩
                        · go_wp2
                          exact ⟨⟨k + 1, by omega, by go_num, by rw [HB.out]; simp, trivial⟩, by simp [intOf]; omega⟩
                      · have ek : k = r := by omega
                        subst ek
                        have hge : ¬ (k : Int) < (k : Int) := by omega
                        rw [HZF.out]
                        have dX5 := A5.out.al.nw.cellOf cX.out
                        go_wp2_with fail
                        refine (qL2 w6 (wrs_own (base := N) (vc := vc) (by have h := A5.out.own; rw [HLL.out] at h ⊢; exact h))).mono ?_
                        rintro e w7 ⟨rfl, rfl⟩
                        clear qL2 dX5
                        have A8 : Hid (Ak w N w7 b bm L K (.slice va L vc) (some ⟨g0, 0, none⟩) k zs ((n : Int) + 1) L) := A5.out
                        clear A5
                        go_wp2_with fail
                        refine (scounts_any A8.out.al.sr.blk).mono ?_
                        rintro e w9 ⟨rfl, n9⟩
                        have A9 : Hid (Ak w N w9 b bm L K (.slice va L vc) (some ⟨g0, 0, none⟩) k zs ((n : Int) + 1) L) := A8.out.go n9
                        clear n9 A8
                        go_wp2_with fail
                        refine (sdead_any A9.out.al.sr.blk).mono ?_
                        rintro e w10 ⟨rfl, rfl⟩
                        go_wp2
                        have e9 : ((n + 1 : Nat) : Int) = (n : Int) + 1 := by omega
                        exact ⟨⟨i + 1, n + 1, by omega, by omega, by go_num, by go_num, by rw [e9]; exact A9.out⟩, by simp [intOf]; omega⟩
              · have HOX : Hid (¬ okN X) := hokX
                have qG := sget_ref AJ.out.al.sr.blk X hS2.out (x := a 1) (rfs_arg HOX.out)
                have qm := may12_any X wr
                rw [decide_eq_false hokX] at qm
                clear hokX
                go_wp2_with fail
                refine qG.mono ?_
                rintro e w5 ⟨rfl, rfl⟩
                clear qG
                go_wp2_with fail
                refine qm.mono ?_
                rintro e w6 ⟨rfl, rfl⟩
                clear qm
                go_wp2_with fail
                refine (is_sen hS2.out 1 (by decide) (by decide)).mono ?_
                rintro e w7 ⟨rfl, n7⟩
                have A7 : Hid (Ak w N w7 b bm L K (.slice va L vc) (some ⟨g0, 0, none⟩) r zs n L) := AJ.out.go n7
                clear n7 AJ hS2
                go_wp2
                exact ⟨⟨i + 1, n, by omega, by omega, by go_num, rfl, A7.out⟩, by simp [intOf]; omega⟩
            · have hge : ¬ (i : Int) < (q : Int) := by omega
              go_wp2_with fail
              refine (alive_any hS2.out).mono ?_
              rintro e w5 ⟨rfl, n5⟩
              have N5 : Hid (Nw w w5) := AJ.out.al.nw.tr n5
              clear n5
              go_wp2
              go_ret
              exact ⟨rfl, N5.out⟩
end Go.Proofs.YtdckjmbellngiaaDoor
