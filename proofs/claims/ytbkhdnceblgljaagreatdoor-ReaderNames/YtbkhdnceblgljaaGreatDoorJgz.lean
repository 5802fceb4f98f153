/- reader: a store in which the tiles of a log lie: the walk. -/
import Derived.Test.YtbkhdnceblgljaaGreatDoorJc
import Derived.Deep.RegionHeld3
import Derived.Deep.MidRow
import Derived.Test.YtbkhdnceblgljaaGreatDoorJgy
import Derived.Test.YtbkhdnceblgljaaGreatDoorUp
import Derived.Deep.DeepCutAuto
namespace Go.Proofs.YtbkhdnceblgljaaGreatDoor
open Go.RowKit
set_option linter.unusedVariables false
set_option linter.unusedSimpArgs false
theorem own_some {w : World} {base : Nat} {e : TypeId} {size : Nat} {v : Value} {n : Nat} {xs : List Value} (h : w.ownsRow base e size v n xs) (h0 : 0 < n) : ∃ g cap, v = .slice (some ⟨g, 0, none⟩) n cap ∧ n ≤ cap ∧ cap ≤ maxLen := by
  rcases h.2 with ⟨_, h1⟩ | ⟨g, cap, cur, hv, _, _, h1, h2, _⟩
  · omega
  · exact ⟨g, cap, hv, h1, h2⟩
theorem hss_at {w : World} {base g n c : Nat} {l : List (List UInt8)} (h32 : ∀ x ∈ l, x.length = 32) (hl : l.length = n) (h : w.ownsRow base 42 32 (.slice (some ⟨g, 0, none⟩) n c) n (hsc l)) {k : Nat} {x : List UInt8} (hk : l[k]? = some x) : ∀ j, j < 32 → w.cell? ⟨g, k * 32 + j, none⟩ = (hbs x)[j]? := by
  subst hl
  obtain ⟨ad, cp, e, h2⟩ := Hss.of h32 h
  injection e with e1 e2 e3
  obtain ⟨g', o', e4, h3⟩ := h2 k x hk
  rw [← e1] at e4
  simp only [Option.some.injEq, Addr.mk.injEq, and_true] at e4
  obtain ⟨rfl, rfl⟩ := e4
  simpa using h3
theorem nod8_two {n : Nat} (h : n ≤ 1000) (q : Nat) (hq : 2 ≤ q) : nod8 q n = 0 := by
  unfold nod8
  have : 2 ^ 16 ≤ 2 ^ (8 * q) := Nat.pow_le_pow_right (by decide) (by omega)
  exact Nat.div_eq_of_lt (by omega)
theorem nod8_small {n : Nat} (h : n ≤ 1000) (q : Nat) : nod8 q n ≤ 1000 := Nat.le_trans (Nat.div_le_self _ _) h
theorem yields_load_aJ {P : Program} {ops : Array Oper} {S : World → Prop} {o : Oper} {a : Act} (hgd : o.guard = none) (x : Operand) (t : TypeId) (n : Nat) (ho : o.op = .load t x)
    (hagg : ∀ W : World, (isAgg t).run P W = .ok true W) (hsz : ∀ W : World, (sizeOf t).run P W = .ok n W) (g off : Nat) (hx : a.eval x = .pointer (some ⟨g, off, none⟩))
    (V : Array Value) (hV : V.size = n) (hg : ∀ w, S w → ∀ j, j < n → w.cell? ⟨g, off + j, none⟩ = V[j]?) : YieldsIf P ops S o (.agg V) a := by
  refine .inl ⟨by simp [Region.wanted, hgd], fun w hw => ?_⟩
  have hl : (loadCells ⟨g, off, none⟩ n).run P w = .ok V w := by
    have := run_loadCells_list (P := P) w ⟨g, off, none⟩ V.toList (fun j v hv => by
      have hj : j < n := by
        have := (List.getElem?_eq_some_iff.1 hv).1
        simpa [hV] using this
      rw [addO, hg w hw j hj]
      simpa using hv)
    simpa [hV] using this
  unfold execOp
  simp only [ho, hx, Instr.loadAt, sure, loadVar, Sem.run_bind, Sem.run_pure, hagg, hsz, hl, Result.andThen_ok, if_true]
theorem step_buildJ {P : Program} {ops : Array Oper} {o : Oper} {a : Act} {w : World} {K : Act → World → Prop} {Q : Exit → Act → World → Prop} {E : Prop} (hP : P = Tryz.prog) (hgd : o.guard = none) (x : Operand) (ho : o.op = .buildSlice 25 1 #[(0, x)]) (V : Array Value) (hx : a.eval x = .agg V) (hV : V.size = 32)
    (h : K (a.put o.dst (.slice (some ⟨w.heap.size, 0, none⟩) 1 1)) (w.alloc (.cells V 42))) : if Region.wanted o (yielded ops a.tmps) = true then Oper.wp P o a w K Q else E := by
  subst hP
  rw [if_pos (by simp [Region.wanted, hgd])]
  unfold Oper.wp execOp
  simp only [ho, Sem.run_bind, Sem.run_pure, Result.andThen_ok, List.map_toArray, List.map_cons, List.map_nil, hx, build1 V hV]
  exact h
set_option maxRecDepth 100000 in
set_option maxHeartbeats 1000000 in
theorem laid_any (l : List (List UInt8)) (h32 : ∀ x ∈ l, x.length = 32) (n g0 c : Nat) (hnl : n = l.length) (hn0 : 0 < n) (hn : n ≤ 1000) (w : World) (hs : w.ownsRow 0 42 32 (.slice (some ⟨g0, 0, none⟩) n c) n (hsc l)) (hP : TX.Pow w) (hL : Laid w) {B : Nat} {a : Nat → Addr} (hS : Sent B w a) (hB : B ≤ w.heap.size) :
    Calls Tryz.prog 8 #[.slice (some ⟨g0, 0, none⟩) n c] w fun e w' => ∃ b bm g T M, e = .returned (.pointer (some ⟨b, 0, none⟩)) ∧ Lt w w' b bm g T M ∧ HldA l M ∧ Onl l M ∧ T ≤ 100 ∧ Nw w w' := by
  obtain ⟨i0, hi, hz0, hz1, hz2⟩ := info_parts infoHs
  have HI0 : Hid (Tryz.prog.info? 42 = some i0 ∧ i0.zero = some (.agg z32) ∧ i0.size = 32 ∧ i0.bytes = 32) := ⟨hi, hz0, hz1, hz2⟩
  have H32 : Hid (∀ q, ∀ x ∈ prN q l, x.length = 32) := fun q => prN_32 q l h32
  have HNL : Hid (n = l.length) := hnl
  have HS0 : Hid (w.ownsRow 0 42 32 (.slice (some ⟨g0, 0, none⟩) n c) n (hsc l)) := hs
  have HP : Hid (∀ W, Nw w W → TX.Pow W) := fun W nW => hP.fr nW
  have HL : Hid (∀ W, Nw w W → Laid W) := fun W nW => hL.nw nW
  have HS : Hid (∀ W, Nw w W → Sent B W a) := fun W nW => hS.fr nW (fun _ _ f => f)
  have HBL : Hid (B ≤ w.heap.size) := hB
  have hQ := snew_anyG (w := w) none 0 [] 0 (fun j hj => by simp at hj) (by simp) rfl
  rw [show (([] : List Int).length) = 0 from rfl] at hQ
  clear hi hz0 hz1 hz2 h32 hnl hs hP hL hS hB
  go_enter Tryz.func8, Tryz.ntmps8
  go_wp2_with fail
  refine hQ.mono ?_
  rintro e w1 ⟨b, bm, g, rfl, hb1, hb2, hb3, hb4, hs1, n1⟩
  have L1 : Hid (Lt w w1 b bm g 0 (fun _ => none)) := ⟨hb1, hb2, ⟨hb3, hb4⟩, hs1⟩
  have N1 : Hid (Nw w w1) := n1
  have O1 : Hid ((w1.alloc (.cells #[] 42)).ownsRow w.heap.size 42 32 (.slice (some ⟨w1.heap.size, 0, none⟩) 0 0) 0 []) := ownsRow_base (own_emptyc w1) n1.size
  have C1 : Hid (∀ j u, (hsc l)[j]? = some u → (w1.alloc (.cells #[] 42)).cell? ((⟨g0, 0, none⟩ : Addr).add j) = some u) := fun j u hj => Nw.cellOf (n1.alloc _) (HS0.out.cells (g := g0) rfl j u hj)
  have HL1 : Hid ((hsc l).length = n * 32 ∧ ∀ u ∈ hsc l, u.oneCell' = true) := ⟨by rw [hsc_len l (H32.out 0), HNL.out], fun u hu => by
    obtain ⟨x, _, hx⟩ := List.mem_flatMap.1 hu
    obtain ⟨y, _, rfl⟩ := List.mem_map.1 hx
    rfl⟩
  have hsz1 := n1.size
  have HSZ : Hid (w.heap.size ≤ (w1.alloc (.cells #[] 42)).heap.size) := by show _ ≤ _; simp; omega
  clear hQ hb1 hb2 hb3 hb4 hs1 n1
  go_wp2_with (at_builtin; refine wpList_two _ rfl (.tmp 27) (.tmp 28) 25 rfl w.heap.size 42 i0 (.agg z32) 32 32 Tryz.underlying25 HI0.out.1 HI0.out.2.1 HI0.out.2.2.1 HI0.out.2.2.2 z32_size (by decide) (.slice (some ⟨w1.heap.size, 0, none⟩) 0 0) 0 [] rfl O1.out ⟨g0, 0, none⟩ n c (hsc l) rfl HL1.out.1 C1.out HL1.out.2 (by unfold maxLen; omega) (by omega) HSZ.out ?_; intro v' w5 o5 t5; have L5 : Hid (Lt w w5 b bm g 0 (fun _ => none)) := (L1.out.nw (nwa w1 _)).fr t5.fr (fun k hk => (L1.out.nw (nwa w1 _)).row O1.out k hk); have N5 : Hid (Nw w w5) := (N1.out.alloc _).trans t5.fr (fun j hj q => by have := (O1.out.lt j q).1; omega); rw [List.nil_append, Nat.zero_add] at o5; have O5 : Hid (w5.ownsRow w.heap.size 42 32 v' n (hsc l)) := o5; obtain ⟨xa, xc, rfl⟩ := ownsRow_form o5; clear o5 t5)
  go_loopw [5, 6] (fun u v wr => ∃ (q T : Nat) (va : Option Addr) (vc : Nat) (M : Tx), q ≤ 2 ∧ T ≤ 10 * q ∧ v = .int .u8 q ∧ u = .slice va (nod8 q n) vc ∧ wr.ownsRow w.heap.size 42 32 (.slice va (nod8 q n) vc) (nod8 q n) (hsc (rwT l q)) ∧ Lt w wr b bm g T M ∧ Hld l M q 0 ∧ Onl l M ∧ Nw w wr) (fun _ v _ => 3 - (intOf v).toNat)
  case atStart =>
    have e0 : nod8 0 n = n := by simp [nod8]
    exact ⟨0, 0, xa, xc, _, by omega, by omega, rfl, by rw [e0], by rw [e0]; exact O5.out, L5.out, Hld.zero _ _, Onl.zero _, N5.out⟩
  case round =>
    obtain ⟨q, T, va, vc, M, hq, hT, rfl, rfl, ho, hlt, hld, hon, hnw⟩ := hrel
    clear L5 N5 O5 L1 N1 O1 C1 HL1 HSZ
    have HO : Hid (wr.ownsRow w.heap.size 42 32 (.slice va (nod8 q n) vc) (nod8 q n) (hsc (rwT l q))) := ho
    have HT : Hid (Lt w wr b bm g T M ∧ Hld l M q 0 ∧ Onl l M) := ⟨hlt, hld, hon⟩
    have HW : Hid (Nw w wr) := hnw
    clear ho hlt hld hon hnw
    have hmb := nod8_small hn q
    obtain ⟨m, hm⟩ : ∃ m, m = nod8 q n := ⟨_, rfl⟩
    rw [← hm] at HO hmb ⊢
    have HM : Hid (m = nod8 q n) := hm
    clear hm
    by_cases hm0 : 0 < m
    · have hq1 : q ≤ 1 := by
        rcases Nat.lt_or_ge q 2 with h | h
        · omega
        · have := nod8_two hn q h; have := HM.out; omega
      have hmi : (0 : Int) < (m : Int) := by omega
      obtain ⟨gr, cap, hva, hcap, hcapm⟩ := own_some HO.out hm0
      simp only [Value.slice.injEq, true_and] at hva
      obtain ⟨rfl, rfl⟩ := hva
      have HCAP : Hid (m ≤ vc ∧ vc ≤ maxLen) := ⟨hcap, hcapm⟩
      clear hcap hcapm
      go_wp2
      obtain ⟨cn, hcn⟩ : ∃ x, x = cntT n q := ⟨_, rfl⟩
      have HCN : Hid (cn = cntT n q ∧ cn = (m + 255) / 256) := ⟨hcn, by rw [hcn, HM.out]; rfl⟩
      have hcb : cn ≤ 4 ∧ 256 * cn ≤ m + 255 ∧ m ≤ 256 * cn := by have := HCN.out.2; omega
      clear hcn
      obtain ⟨wy, hwy⟩ : ∃ x, x = wr := ⟨_, rfl⟩
      rw [← hwy] at HO HT HW ⊢
      clear hwy
      go_loopw [7] (fun v wr => ∃ (j T' : Nat) (M' : Tx), j ≤ cn ∧ T' ≤ 10 * q + j ∧ v = .int .i64 ((256 * j : Nat) : Int) ∧ wr.ownsRow w.heap.size 42 32 (.slice (some ⟨gr, 0, none⟩) m vc) m (hsc (rwT l q)) ∧ Lt w wr b bm g T' M' ∧ Hld l M' q j ∧ Onl l M' ∧ Nw w wr) (fun v _ => cn + 1 - (intOf v).toNat / 256)
      case atStart => exact ⟨0, T, M, by omega, by omega, rfl, HO.out, HT.out.1, HT.out.2.1, HT.out.2.2, HW.out⟩
      case round =>
        obtain ⟨j, T', M', hj, hT', rfl, ho, hlt, hld, hon, hnw⟩ := hrel
        have HO2 : Hid (wr.ownsRow w.heap.size 42 32 (.slice (some ⟨gr, 0, none⟩) m vc) m (hsc (rwT l q))) := ho
        have HT2 : Hid (Lt w wr b bm g T' M' ∧ Hld l M' q j ∧ Onl l M') := ⟨hlt, hld, hon⟩
        have HW2 : Hid (Nw w wr) := hnw
        clear ho hlt hld hon hnw HO HT HW
        obtain ⟨X, hX⟩ : ∃ X, X = 256 * j := ⟨_, rfl⟩
        rw [← hX]
        have HX : Hid (X = 256 * j) := hX
        by_cases hjc : j < cn
        · have hxm : (X : Int) < (m : Int) := by omega
          obtain ⟨W, hW⟩ : ∃ W, W = wid q j n := ⟨_, rfl⟩
          have hWm : W = min (m - j * 256) 256 := by rw [hW, HM.out]; exact wid_small n q j (by omega) (by omega)
          obtain ⟨Y, hY⟩ : ∃ Y, Y = X + W := ⟨_, rfl⟩
          have hWp : 0 < W ∧ W ≤ 256 ∧ Y ≤ m ∧ X < Y := by omega
          have hmin : min ((X : Int) + 256) (m : Int) = (Y : Int) := by omega
          have HYW : Hid (Y = X + W) := hY
          have hxj : (X : Int) / 256 = (j : Int) := by omega
          have HWD : Hid (wid q j l.length = W ∧ 256 * j + W ≤ nod8 q l.length) := ⟨by rw [← HNL.out]; exact hW.symm, by rw [← HNL.out, ← HM.out]; omega⟩
          have HMY : Hid (mayT q j (W : Int)) := mayT_wid HWD.out.1 hWp.1
          have hcut := fun V => cut_hlh gr 0 m vc X Y hWp.2.2.2 (by have := HCAP.out; omega) (Y : Int) rfl V
          rw [Nat.zero_add, show Y - X = W by omega] at hcut
          have HC := show Hid (∀ V : World, (Instr.sliceAt 25 (.slice (some ⟨gr, 0, none⟩) m vc) (some (.int .i64 (X : Int))) (some (.int .i64 (Y : Int))) none).run Tryz.prog V = .ok (.slice (some ⟨gr, X * 32, none⟩) W (vc - X)) V) from hcut
          have HQ32 := H32.out (8 * q)
          have hrw : Rw wr (some ⟨gr, 0, none⟩) vc (rwT l q) := by
            have hl : (rwT l q).length = m := by rw [rwT_len, ← HNL.out, ← HM.out]
            refine ⟨by rw [hl]; exact HCAP.out.1, ?_⟩
            have h := HO2.out
            rw [← hl] at h
            exact Hss.of HQ32 h
          have htl32 := tlH_32 l (H32.out 0) q j W
          have htl := tlH_len l q j W HWD.out.2
          have QTW : Hid (∀ V, Nw wr V → Calls Tryz.prog 25 #[.slice (some ⟨gr, X * 32, none⟩) W (vc - X)] V fun e w' => ∃ g2, e = .returned (.slice (some ⟨g2, 0, none⟩) W (W + 1)) ∧ Hss w' (.slice (some ⟨g2, 0, none⟩) W (W + 1)) (tlH l q j W) ∧ Nw V w') := fun V nV => by
            have h := ((hrw.nw HQ32 nV).cut X W (by rw [rwT_len, ← HNL.out, ← HM.out]; omega)).2
            rw [Nat.zero_add, HX.out] at h
            have qq := twinh_any (some ⟨gr, 256 * j * 32, none⟩) (vc - 256 * j) (tlH l q j W) htl32 V h (by rw [htl]; omega)
            rw [htl, ← HX.out] at qq
            refine qq.mono fun e w' ⟨e1, o, n⟩ => ⟨_, e1, ?_, n⟩
            have o2 := own_headT (xs := tlH l q j W ++ [HB.mk 7777]) (fun x hx => by
              rcases List.mem_append.1 hx with hx | hx
              · exact htl32 x hx
              · rw [List.mem_singleton.1 hx]; exact HB.mk_len 7777) o (m := W) (by omega)
            rw [List.take_left' htl] at o2
            exact Hss.of htl32 (by rw [htl]; exact o2)
          obtain ⟨tB, htB⟩ : ∃ x, x = tlB l q j W := ⟨_, rfl⟩
          have HTB : Hid (tB = tlB l q j W) := htB
          have QEN : Hid (∀ V g2, Hss V (.slice (some ⟨g2, 0, none⟩) W (W + 1)) (tlH l q j W) → Calls Tryz.prog 24 #[.slice (some ⟨g2, 0, none⟩) W (W + 1)] V fun e w' => e = .returned (.tuple #[.string tB, .nilIface]) ∧ Nw V w') := fun V g2 h => by
            have q := enc_yes (tlH l q j W) htl32 (by rw [htl]; omega) (by rw [htl]; omega) (some ⟨g2, 0, none⟩) (W + 1) V (by rw [htl]; exact h)
            rw [htl] at q
            rw [HTB.out]
            exact q
          obtain ⟨nB, hnB⟩ : ∃ x : ByteArray, x = ⟨(nm q j W).toArray⟩ := ⟨_, rfl⟩
          have HNB : Hid (nB = ⟨(nm q j W).toArray⟩) := hnB
          have QPA : Hid (∀ V, Nw wr V → Calls Tryz.prog 26 #[tl q j W] V fun e w' => e = .returned (.tuple #[.string nB, .nilIface]) ∧ Nw V w') := fun V nV => by
            have q := path_yes q j W HMY.out V (HP.out V (HW2.out.tr nV))
            rw [← HNB.out] at q
            exact q
          have QPU : Hid (∀ V, Nw wr V → Calls Tryz.prog 21 #[.pointer (some ⟨b, 0, none⟩), .string nB, .string tB] V fun e w' => e = .returned .nilIface ∧ Lt w w' b bm g (T' + 1) (putT M' nB tB) ∧ Fr (fun k => k = b ∨ k = bm) V w') := fun V nV => by
            refine (HT2.out.1.nw nV).put nB tB (by rw [HNB.out]; exact okN_nm HMY.out) ?_ (HS.out V (HW2.out.tr nV)) HBL.out (by omega)
            rw [HTB.out, tlB_size l (H32.out 0) q j W HWD.out.2]; omega
          clear hrw htl32 htl htB hnB hW hWm hY hcut HQ32 hX
          have hyv : Y ≤ vc := by have := HCAP.out.1; omega
          have hyvi : (Y : Int) ≤ (vc : Int) := by omega
          have hxy : X ≤ Y := by omega
          have hxv : ¬ vc = X := by omega
          have HYX : Hid (Y - X = W) := by show Y - X = W; have := HYW.out; omega
          go_wp2_with fail
          rw [HYX.out]
          refine (QTW.out _ (by repeat first | with_reducible exact nwr wr | with_reducible refine Fr.alloc ?_ _ | with_reducible refine Fr.drew ?_ | (with_reducible refine Fr.setCell ?_ _ _ (fun h => ?_); rotate_left; focus (simp only at h; omega)))).mono ?_
          rintro e w2 ⟨g2, rfl, hs2, n2⟩
          have N2 : Hid (Nw wr w2) := Nw.tr (by repeat first | with_reducible exact nwr wr | with_reducible refine Fr.alloc ?_ _ | with_reducible refine Fr.drew ?_ | (with_reducible refine Fr.setCell ?_ _ _ (fun h => ?_); rotate_left; focus (simp only at h; omega))) n2
          have HS2 : Hid (Hss w2 (.slice (some ⟨g2, 0, none⟩) W (W + 1)) (tlH l q j W)) := hs2
          clear n2 hs2
          go_wp2_with fail
          refine (QEN.out w2 g2 HS2.out).mono ?_
          rintro e w3 ⟨rfl, n3⟩
          have N3 : Hid (Nw wr w3) := N2.out.tr n3
          clear n3
          go_wp2_with fail
          refine (QPA.out _ (by repeat first | with_reducible exact N3.out | with_reducible refine Fr.alloc ?_ _ | with_reducible refine Fr.drew ?_ | (with_reducible refine Fr.setCell ?_ _ _ (fun h => ?_); rotate_left; focus (simp only at h; omega)))).mono ?_
          rintro e w4 ⟨rfl, n4⟩
          have N4 : Hid (Nw wr w4) := Nw.tr (by repeat first | with_reducible exact N3.out | with_reducible refine Fr.alloc ?_ _ | with_reducible refine Fr.drew ?_ | (with_reducible refine Fr.setCell ?_ _ _ (fun h => ?_); rotate_left; focus (simp only at h; omega))) n4
          clear n4
          go_wp2_with fail
          refine (QPU.out _ (by repeat first | with_reducible exact N4.out | with_reducible refine Fr.alloc ?_ _ | with_reducible refine Fr.drew ?_ | (with_reducible refine Fr.setCell ?_ _ _ (fun h => ?_); rotate_left; focus (simp only at h; omega)))).mono ?_
          rintro e w5 ⟨rfl, l5, f5⟩
          have L5 : Hid (Lt w w5 b bm g (T' + 1) (putT M' nB tB)) := l5
          have N45 : Hid (Fr (fun k => k = b ∨ k = bm) wr w5) := (N4.out.mono (fun _ _ f => f.elim)).trans f5 (fun _ _ q => q)
          have NW5 : Hid (Nw w w5) := HW2.out.trans N45.out (fun k hk q => by have h1 := HT2.out.1.1; have h2 := HT2.out.1.2.1; rcases q with q | q <;> omega)
          have O5 : Hid (w5.ownsRow w.heap.size 42 32 (.slice (some ⟨gr, 0, none⟩) m vc) m (hsc (rwT l q))) := ownsRow_keep HO2.out (fun k hk => N45.out.block k (HO2.out.lt k hk).2 (fun q => by have := HT2.out.1.row HO2.out k hk; rcases q with q | q; exact this.1 q; exact this.2 q))
          have H5 : Hid (Hld l (putT M' nB tB) q (j + 1) ∧ Onl l (putT M' nB tB)) := by
            rw [HNB.out, HTB.out]
            exact ⟨HT2.out.2.1.put HWD.out.1 (by have := HYW.out; omega), HT2.out.2.2.put HWD.out.1 (by have := HYW.out; omega)⟩
          clear l5 f5
          go_wp2
          exact ⟨⟨j + 1, T' + 1, putT M' nB tB, by omega, by omega, by have := HX.out; go_num, O5.out, L5.out, H5.out.1, H5.out.2, NW5.out⟩, by have := HX.out; simp [intOf]; omega⟩
        · have hxm : ¬ (X : Int) < (m : Int) := by omega
          have hjj : j = cn := by omega
          subst hjj
          have HT3 : Hid (Lt w wr b bm g T' M' ∧ Hld l M' (q + 1) 0 ∧ Onl l M') := ⟨HT2.out.1, by
            have h := HT2.out.2.1
            rw [HCN.out.1] at h
            have hh := HNL.out
            rw [hh] at h
            exact h.next (by omega) (by omega), HT2.out.2.2⟩
          clear HT2 hX
          go_wp2
          have hl0 : (prN (8 * q + 0) l).length = m := by rw [Nat.add_zero, prN_len, ← HNL.out]; exact HM.out.symm
          have HT4 := HT3
          go_loopw [5, 13] (fun u v wr => ∃ (k : Nat) (ua : Option Addr) (uc : Nat), k ≤ 8 ∧ v = .int .i64 k ∧ u = .slice ua (prN (8 * q + k) l).length uc ∧ wr.ownsRow w.heap.size 42 32 (.slice ua (prN (8 * q + k) l).length uc) (prN (8 * q + k) l).length (hsc (prN (8 * q + k) l)) ∧ Lt w wr b bm g T' M' ∧ Nw w wr) (fun _ v _ => 9 - (intOf v).toNat)
          case atStart => exact ⟨0, _, _, by omega, rfl, by rw [hl0], by rw [hl0]; exact HO2.out, HT3.out.1, HW2.out⟩
          case round =>
            obtain ⟨k, ua, uc, hk, rfl, rfl, ho, hlt, hnw⟩ := hrel
            have OR3 : Hid (wr.ownsRow w.heap.size 42 32 (.slice ua (prN (8 * q + k) l).length uc) (prN (8 * q + k) l).length (hsc (prN (8 * q + k) l))) := ho
            have LT3 : Hid (Lt w wr b bm g T' M') := hlt
            have NW3 : Hid (Nw w wr) := hnw
            clear ho hlt hnw HO2 HW2 hl0
            by_cases hk8 : k < 8
            · have hki : (k : Int) < 8 := by omega
              have R32 : Hid (∀ x ∈ prN (8 * q + k) l, x.length = 32) := H32.out _
              have RN : Hid (prN (8 * q + (k + 1)) l = prs (prN (8 * q + k) l)) := rfl
              have RB : (prN (8 * q + k) l).length ≤ 1000 := by rw [prN_len, ← HNL.out]; exact Nat.le_trans (Nat.div_le_self _ _) hn
              generalize prN (8 * q + k) l = R at *
              obtain ⟨r, hr⟩ : ∃ r, r = R.length := ⟨_, rfl⟩
              rw [← hr] at OR3 RB ⊢
              have HR : Hid (r = R.length) := hr
              clear hr
              obtain ⟨wz, hwz⟩ : ∃ x, x = wr := ⟨_, rfl⟩
              go_wp2
              rw [← hwz] at OR3 LT3 NW3 ⊢
              have UB : Hid (∀ k, (Value.slice ua r uc).ownBlock = some k → k < wz.heap.size) := fun k hk => (OR3.out.lt k hk).2
              have BZW : Hid (w.heap.size ≤ wz.heap.size) := NW3.out.size
              clear hwz
              go_loopw [14, 15] (fun u v wr => ∃ (t : Nat) (xa : Option Addr) (xc : Nat), 2 * t ≤ r ∧ v = .int .i64 ((2 * t : Nat) : Int) ∧ u = .slice xa t xc ∧ wr.ownsRow wz.heap.size 42 32 (.slice xa t xc) t (hsc ((prs R).take t)) ∧ wr.ownsRow w.heap.size 42 32 (.slice ua r uc) r (hsc R) ∧ Lt w wr b bm g T' M' ∧ Nw w wr ∧ wz.heap.size ≤ wr.heap.size) (fun _ v _ => r + 1 - (intOf v).toNat)
              case atStart => exact ⟨0, none, 0, by omega, rfl, rfl, World.ownsRow_nil _ _ _ _, OR3.out, LT3.out, NW3.out, Nat.le_refl _⟩
              case round =>
                obtain ⟨t, xa, xc, ht, rfl, rfl, ho, ho2, hlt, hnw, hbz⟩ := hrel
                have OU : Hid (wr.ownsRow wz.heap.size 42 32 (.slice xa t xc) t (hsc ((prs R).take t))) := ho
                have OR4 : Hid (wr.ownsRow w.heap.size 42 32 (.slice ua r uc) r (hsc R)) := ho2
                have LT4 : Hid (Lt w wr b bm g T' M') := hlt
                have NW4 : Hid (Nw w wr) := hnw
                have BZ : Hid (wz.heap.size ≤ wr.heap.size) := hbz
                clear ho ho2 hlt hnw hbz OR3 LT3 NW3
                obtain ⟨I, hI⟩ : ∃ I, I = 2 * t := ⟨_, rfl⟩
                rw [← hI]
                have HI : Hid (I = 2 * t) := hI
                by_cases hIr : I + 1 < r
                · have hIi : (I : Int) + 1 < (r : Int) := by omega
                  obtain ⟨I1, hI1⟩ : ∃ I1, I1 = I + 1 := ⟨_, rfl⟩
                  have HI1 : Hid (I1 = I + 1) := hI1
                  have hwr : IntKind.i64.wrap ((I : Int) + 1) = (I1 : Int) := by rw [IntKind.wrap_i64]; omega
                  obtain ⟨x, hx⟩ : ∃ x, R[2 * t]? = some x := ⟨_, List.getElem?_eq_getElem (by rw [← HR.out, ← hI]; omega)⟩
                  obtain ⟨y, hy⟩ : ∃ y, R[2 * t + 1]? = some y := ⟨_, List.getElem?_eq_getElem (by rw [← HR.out, ← hI]; omega)⟩
                  have hx32 := R32.out x (List.mem_of_getElem? hx)
                  have hy32 := R32.out y (List.mem_of_getElem? hy)
                  obtain ⟨gr2, cap, hua, hcap, _⟩ := own_some OR4.out (by omega)
                  simp only [Value.slice.injEq, true_and] at hua
                  obtain ⟨rfl, rfl⟩ := hua
                  have cx := hss_at R32.out HR.out.symm OR4.out (by rw [hI]; exact hx : R[I]? = some x)
                  have cy := hss_at R32.out HR.out.symm OR4.out (by rw [hI1, hI]; exact hy : R[I1]? = some y)
                  have KF : Hid (∀ V, Fr (fun k => (Value.slice xa t xc).ownBlock = some k) wr V → (∀ j, j < 32 → V.cell? ⟨gr2, I * 32 + j, none⟩ = (hbs x)[j]?) ∧ (∀ j, j < 32 → V.cell? ⟨gr2, I1 * 32 + j, none⟩ = (hbs y)[j]?)) := fun V fV => by
                    have hlt := OR4.out.lt gr2 rfl
                    have hne : ¬ (Value.slice xa t xc).ownBlock = some gr2 := fun e => by have := (OU.out.lt gr2 e).1; have := UB.out gr2 rfl; omega
                    exact ⟨fun j hj => (fV.cell (p := ⟨gr2, I * 32 + j, none⟩) hlt.2 hne).trans (cx j hj), fun j hj => (fV.cell (p := ⟨gr2, I1 * 32 + j, none⟩) hlt.2 hne).trans (cy j hj)⟩
                  have KP : Hid (∀ V, Nw wr V → (∀ j, j < 32 → V.cell? ⟨gr2, I * 32 + j, none⟩ = (hbs x)[j]?) ∧ (∀ j, j < 32 → V.cell? ⟨gr2, I1 * 32 + j, none⟩ = (hbs y)[j]?)) := fun V nV => KF.out V (nV.mono (fun _ _ f => f.elim))
                  have HZ0 := prs_take R t x y hx hy
                  have QN0 : Hid (∀ V, Nw wr V → Calls Tryz.prog 27 #[.agg (hbs x), .agg (hbs y)] V fun e w' => e = .returned (.agg (hbs (Sh (1 :: (x ++ y))))) ∧ Nw V w') := fun V nV => node_any x y hx32 hy32 V (HL.out V (NW4.out.tr nV))
                  have hxs : (hbs x).size = 32 := by rw [hbs_size, hx32]
                  have hys : (hbs y).size = 32 := by rw [hbs_size, hy32]
                  have hZs0 : (hbs (Sh (1 :: (x ++ y)))).size = 32 := by rw [hbs_size, Sh_len]
                  obtain ⟨Z, hZ⟩ : ∃ Z, Z = Sh (1 :: (x ++ y)) := ⟨_, rfl⟩
                  rw [← hZ] at HZ0 QN0 hZs0
                  have QN := QN0
                  have hZs := hZs0
                  have HZ : Hid (hsc ((prs R).take (t + 1)) = hsc ((prs R).take t) ++ (hbs Z).toList) := by show _ = _; rw [HZ0, hsc_app, hsc_one]
                  have hb1 : (I : Int) < (r : Int) := by omega
                  have hb2 : (I1 : Int) < (r : Int) := by omega
                  have hb3 : ¬ (r : Int) ≤ (I : Int) := by omega
                  have hb4 : ¬ (r : Int) ≤ (I1 : Int) := by omega
                  have htb : t ≤ 1000 := by omega
                  clear hx hy hx32 hy32 cx cy hZ HZ0 QN0 hZs0 hI hI1 hcap
                  go_upto_region 23 with fail
                  have nb : Nw wr wr.drew := (Fr.refl _ _).drew
                  refine wp_region_held_drew (S := (fun V => (∀ j, j < 32 → V.cell? ⟨gr2, I * 32 + j, none⟩ = (hbs x)[j]?) ∧ (∀ j, j < 32 → V.cell? ⟨gr2, I1 * 32 + j, none⟩ = (hbs y)[j]?))) (by kernel_rfl) (KP.out _ nb) ?_
                  intro hS0
                  refine wpAnyH_take (i := 0) (v := .slice xa t xc) rfl (by kernel_rfl) (by kernel_rfl) (by kernel_rfl) (fun _ _ _ h => h) (Or.inl ⟨by rfl, by intro w hw; go_simp⟩) hS0 ?_
                  try simp only [Act.put, List.setIfInBounds_toArray, List.set_cons_zero, List.set_cons_succ]
                  refine wpAnyH_take (i := 1) (v := .slice (some ⟨gr2, 0, none⟩) r uc) rfl (by kernel_rfl) (by kernel_rfl) (by kernel_rfl) (fun _ _ _ h => h) (Or.inl ⟨by rfl, by intro w hw; go_simp⟩) hS0 ?_
                  try simp only [Act.put, List.setIfInBounds_toArray, List.set_cons_zero, List.set_cons_succ]
                  refine wpAnyH_take (i := 2) (v := .int .i64 (I : Int)) rfl (by kernel_rfl) (by kernel_rfl) (by kernel_rfl) (fun _ _ _ h => h) (Or.inl ⟨by rfl, by intro w hw; go_simp⟩) hS0 ?_
                  try simp only [Act.put, List.setIfInBounds_toArray, List.set_cons_zero, List.set_cons_succ]
                  refine wpAnyH_take (i := 3) (v := .pointer (some ⟨gr2, I * 32, none⟩)) rfl (by kernel_rfl) (by kernel_rfl) (by kernel_rfl) (fun _ _ _ h => h) (Or.inl ⟨by rfl, by intro w hw; go_simp⟩) hS0 ?_
                  try simp only [Act.put, List.setIfInBounds_toArray, List.set_cons_zero, List.set_cons_succ]
                  refine wpAnyH_take (i := 4) (v := .agg (hbs x)) rfl (by kernel_rfl) (by kernel_rfl) (by kernel_rfl) (fun _ _ _ h => h) (yields_load_aJ rfl (.tmp 93) 42 32 rfl Tryz.isAgg42 Tryz.sizeOf42 gr2 (I * 32) (by kernel_rfl) (hbs x) hxs (fun V hV => hV.1)) hS0 ?_
                  try simp only [Act.put, List.setIfInBounds_toArray, List.set_cons_zero, List.set_cons_succ]
                  refine wpAnyH_take (i := 5) (v := .slice (some ⟨gr2, 0, none⟩) r uc) rfl (by kernel_rfl) (by kernel_rfl) (by kernel_rfl) (fun _ _ _ h => h) (Or.inl ⟨by rfl, by intro w hw; go_simp⟩) hS0 ?_
                  try simp only [Act.put, List.setIfInBounds_toArray, List.set_cons_zero, List.set_cons_succ]
                  refine wpAnyH_take (i := 6) (v := .int .i64 (I : Int)) rfl (by kernel_rfl) (by kernel_rfl) (by kernel_rfl) (fun _ _ _ h => h) (Or.inl ⟨by rfl, by intro w hw; go_simp⟩) hS0 ?_
                  try simp only [Act.put, List.setIfInBounds_toArray, List.set_cons_zero, List.set_cons_succ]
                  refine wpAnyH_take (i := 7) (v := .int .i64 (I1 : Int)) rfl (by kernel_rfl) (by kernel_rfl) (by kernel_rfl) (fun _ _ _ h => h) (Or.inl ⟨by rfl, by intro w hw; go_simp⟩) hS0 ?_
                  try simp only [Act.put, List.setIfInBounds_toArray, List.set_cons_zero, List.set_cons_succ]
                  refine wpAnyH_take (i := 8) (v := .pointer (some ⟨gr2, I1 * 32, none⟩)) rfl (by kernel_rfl) (by kernel_rfl) (by kernel_rfl) (fun _ _ _ h => h) (Or.inl ⟨by rfl, by intro w hw; go_simp⟩) hS0 ?_
                  try simp only [Act.put, List.setIfInBounds_toArray, List.set_cons_zero, List.set_cons_succ]
                  refine wpAnyH_take (i := 9) (v := .agg (hbs y)) rfl (by kernel_rfl) (by kernel_rfl) (by kernel_rfl) (fun _ _ _ h => h) (yields_load_aJ rfl (.tmp 98) 42 32 rfl Tryz.isAgg42 Tryz.sizeOf42 gr2 (I1 * 32) (by kernel_rfl) (hbs y) hys (fun V hV => hV.2)) hS0 ?_
                  try simp only [Act.put, List.setIfInBounds_toArray, List.set_cons_zero, List.set_cons_succ]
                  refine wpAnyH_ready (rs := [10]) (by kernel_rfl) (by simp) ?_
                  refine AllReadyH.cons rfl (fun K' hK => ?_) AllReadyH.nil
                  go_simp
                  go_wp2_with (go_at_call 27; refine (QN.out _ nb).mono ?_; rintro e2 w2 ⟨rfl, n2⟩)
                  have N2 : Hid (Nw wr w2) := Nw.tr nb n2
                  refine hK.out _ _ (KP.out _ N2.out) (fun hS0 => ?_)
                  try simp only [Act.put, List.setIfInBounds_toArray, List.set_cons_zero, List.set_cons_succ]
                  refine wpAnyH_ready (rs := [11]) (by kernel_rfl) (by simp) ?_
                  refine AllReadyH.cons rfl (fun K' hK => ?_) AllReadyH.nil
                  refine step_buildJ rfl rfl (.tmp 100) rfl (hbs Z) (by kernel_rfl) hZs ?_
                  refine hK.out _ _ (KP.out _ (N2.out.alloc _)) (fun hS0 => ?_)
                  try simp only [Act.put, List.setIfInBounds_toArray, List.set_cons_zero, List.set_cons_succ]
                  refine wpAnyH_ready (rs := [12]) (by kernel_rfl) (by simp) ?_
                  refine AllReadyH.cons rfl (fun K' hK => ?_) AllReadyH.nil
                  have OU2 : Hid ((w2.alloc (.cells (hbs Z) 42)).ownsRow wz.heap.size 42 32 (.slice xa t xc) t (hsc ((prs R).take t))) := (ownsRow_keep OU.out (fun k hk => N2.out.block k (OU.out.lt k hk).2 (fun f => f))).alloc _
                  refine step_two rfl (.tmp 90) (.tmp 101) 25 rfl wz.heap.size 42 i0 (.agg z32) 32 32 Tryz.underlying25 HI0.out.1 HI0.out.2.1 HI0.out.2.2.1 HI0.out.2.2.2 z32_size (by decide) (.slice xa t xc) t (hsc ((prs R).take t)) (by kernel_rfl) OU2.out ⟨w2.heap.size, 0, none⟩ 1 1 (hbs Z).toList (by kernel_rfl) (by simp [hZs]) (hash_new _ _ _) (hbs_one _) (by unfold maxLen; omega) (by omega) (by have := BZ.out; have := N2.out.size; simp; omega) ?_
                  intro v5 w5 o5 t5
                  have F5 : Hid (Fr (fun k => (Value.slice xa t xc).ownBlock = some k) wr w5) := ((N2.out.mono (fun _ _ f => f.elim)).trans ((nwa w2 _).mono (fun _ _ f => f.elim)) (fun _ _ q => q)).trans t5.fr (fun _ _ q => q)
                  rw [← HZ.out] at o5
                  obtain ⟨ya, yc, rfl⟩ := ownsRow_form o5
                  have O5 : Hid (w5.ownsRow wz.heap.size 42 32 (.slice ya (t + 1) yc) (t + 1) (hsc ((prs R).take (t + 1)))) := o5
                  clear o5 t5
                  refine hK.out _ _ (KF.out _ F5.out) (fun hS0 => ?_)
                  try simp only [Act.put, List.setIfInBounds_toArray, List.set_cons_zero, List.set_cons_succ]
                  refine wpAnyH_ready (rs := [13]) (by kernel_rfl) (by simp) ?_
                  refine AllReadyH.cons rfl (fun K' hK => ?_) AllReadyH.nil
                  go_simp
                  refine hK.out _ _ (KF.out _ F5.out) (fun hS0 => ?_)
                  try simp only [Act.put, List.setIfInBounds_toArray, List.set_cons_zero, List.set_cons_succ]
                  refine wpAnyH_done (by kernel_rfl) ?_ _
                  go_wp2
                  exact ⟨⟨t + 1, ya, yc, by have := HI.out; omega, by have := HI.out; go_num, rfl, O5.out, ownsRow_keep OR4.out (fun k hk => F5.out.block k (OR4.out.lt k hk).2 (fun q => by have := UB.out k hk; have := (OU.out.lt k q).1; omega)), LT4.out.fr F5.out (fun k hk => LT4.out.row OU.out k hk), NW4.out.trans F5.out (fun k hk q => by have := (OU.out.lt k q).1; have := BZW.out; omega), Nat.le_trans BZ.out F5.out.size⟩, by have := HI.out; simp [intOf]; omega⟩
                · have hIi : ¬ (I : Int) + 1 < (r : Int) := by omega
                  have htr : t = (prs R).length := by rw [prs_len, ← HR.out]; omega
                  go_wp2
                  have O6 := ownsRow_base OU.out BZW.out
                  rw [htr, List.take_length] at O6
                  exact ⟨⟨k + 1, xa, xc, by omega, by go_num, by rw [RN.out, htr], by rw [RN.out]; exact O6, LT4.out, NW4.out⟩, by simp [intOf]; omega⟩
            · have hk88 : k = 8 := by omega
              subst hk88
              have hki : ¬ ((8 : Nat) : Int) < 8 := by omega
              have e8 : prN (8 * q + 8) l = rwT l (q + 1) := by unfold rwT; congr 1
              have e9 : (rwT l (q + 1)).length = nod8 (q + 1) n := by rw [rwT_len, ← HNL.out]
              go_wp2
              have O7 := OR3.out
              rw [e8, e9] at O7
              exact ⟨⟨q + 1, T', ua, uc, M', by omega, by omega, by go_num, by rw [e8, e9], O7, LT3.out, HT3.out.2.1, HT3.out.2.2, NW3.out⟩, by simp [intOf]; omega⟩
    · have hm00 : m = 0 := by omega
      subst hm00
      have hmi : ¬ (0 : Int) < ((0 : Nat) : Int) := by omega
      go_wp2
      refine bodyPost_ret (v := .pointer (some ⟨b, 0, none⟩)) (by simp [results, Tryz.results8]) rfl ⟨b, rfl, bm, g, T, M, HT.out.1, HT.out.2.1.all (by rw [← HNL.out]; exact HM.out.symm), HT.out.2.2, by omega, HW.out⟩
end Go.Proofs.YtbkhdnceblgljaaGreatDoor
namespace Go.Proofs.YtbkhdnceblgljaaGreatDoor
open Go.RowKit
set_option linter.unusedVariables false
set_option linter.unusedSimpArgs false
theorem Sent.up {B B' : Nat} {w : World} {a : Nat → Addr} (h : Sent B w a) (hB : B ≤ B') (hs : B' ≤ w.heap.size) : Sent B' w a :=
  { h with blk := fun i hi => ⟨Nat.lt_of_lt_of_le (h.blk i hi).1 hB, (h.blk i hi).2⟩, hB := Nat.le_trans h.hB hB, hsz := hs }
theorem Gd.up {B : Nat} {w : World} {a : Nat → Addr} (h : Gd B a w) : Gd w.heap.size a w := Gd.of (h.s.up h.s.hsz (Nat.le_refl _)) h.l h.pow
theorem evJ {w : World} {a : Nat → Addr} (i : Nat) (hi : i < 16) : EV w a (sen (a i)) (i + 1) none := .inr (.inl ⟨i, hi, rfl, rfl, rfl⟩)
theorem is_senJ {B : Nat} {w : World} {a : Nat → Addr} (hS : Sent B w a) (i : Nat) (hi : i < 16) {c : Int} (hc : c = (i + 1 : Nat)) :
    Calls Tryz.prog 12 #[sen (a i), .int .i64 c] w fun e w' => e = .returned (.bool true) ∧ Nw w w' := by
  have := isE_any hS (evJ (w := w) (a := a) i hi) c
  have e : sameB (i + 1) none c (-1) = true := by simp [sameB, hc]
  rw [e] at this
  exact this
theorem tlH_all (l : List (List UInt8)) : tlH l 0 0 l.length = l := by simp [tlH, rwT, prN]
theorem lh3_at : (lh 3)[0]? = some (Sh [0, 0]) ∧ (lh 3)[1]? = some (Sh [0, 1]) := ⟨rfl, rfl⟩
theorem wid3 : wid 0 0 (lh 3).length = 3 := by rw [lh_len]; decide
theorem own_at {w : World} {base n : Nat} {va : Option Addr} {vc : Nat} {l : List (List UInt8)} (h32 : ∀ x ∈ l, x.length = 32) (hl : l.length = n) (h : w.ownsRow base 42 32 (.slice va n vc) n (hsc l)) (h0 : 0 < n) : ∃ g, va = some ⟨g, 0, none⟩ ∧ g < w.heap.size ∧ base ≤ g ∧ ∀ k x, l[k]? = some x → ∀ j, j < 32 → w.cell? ⟨g, k * 32 + j, none⟩ = (hbs x)[j]? := by
  obtain ⟨g, cap, hv, _, _⟩ := own_some h h0
  simp only [Value.slice.injEq, true_and] at hv
  obtain ⟨rfl, rfl⟩ := hv
  have := h.lt g rfl
  exact ⟨g, rfl, this.2, this.1, fun k x hk => hss_at h32 hl h hk⟩
set_option maxRecDepth 100000 in
set_option maxHeartbeats 2000000 in
theorem lives14_any {B : Nat} {w : World} {a : Nat → Addr} (hG : Gd B a w) : Calls Tryz.prog 10 #[] w fun e w' => e = .returned (.bool true) ∧ Nw w w' := by
  have GD : Hid (Gd w.heap.size a w) := hG.up
  have L32 : Hid (∀ x ∈ lh 3, x.length = 32) := lh_32 3
  have q1 := hashes14_any 3 (by omega) w hG.l
  clear hG
  go_enter Tryz.func10, Tryz.ntmps10
  go_wp2_with fail
  refine q1.mono ?_
  rintro e w1 ⟨va, vc, rfl, o1, n1⟩
  obtain ⟨g0, rfl, _, _, _⟩ := own_at L32.out (lh_len 3) o1 (by omega)
  have O1 : Hid (w1.ownsRow w.heap.size 42 32 (.slice (some ⟨g0, 0, none⟩) 3 vc) 3 (hsc (lh 3))) := o1
  have N1 : Hid (Nw w w1) := n1
  have q2 := laid_any (lh 3) L32.out 3 g0 vc (lh_len 3).symm (by omega) (by omega) w1 (ownsRow_base o1 (Nat.zero_le _)) (GD.out.nw n1).pow (GD.out.nw n1).l (GD.out.nw n1).s n1.size
  clear q1 o1 n1
  go_wp2_with fail
  refine q2.mono ?_
  rintro e w2 ⟨b, bm, g, T, M, rfl, lt2, hld, hon, hT, n2⟩
  have N2 : Hid (Nw w w2) := N1.out.tr n2
  have O2 : Hid (w2.ownsRow w.heap.size 42 32 (.slice (some ⟨g0, 0, none⟩) 3 vc) 3 (hsc (lh 3))) := ownsRow_keep O1.out (fun k hk => n2.block k (O1.out.lt k hk).2 (fun f => f))
  have HG0 : Hid (g0 < w1.heap.size) := (O1.out.lt g0 rfl).2
  have hs1 := N1.out.size
  have q3 := RS.made (K := 0) lt2.2.2.2 hld L32.out lt2.2.2.1.2 ⟨Nat.le_trans hs1 lt2.1, Nat.le_trans hs1 lt2.2.1, Nat.le_trans hs1 lt2.2.2.1.1⟩ rfl (by simp) ⟨Int.le_refl _, Int.le_refl _⟩ 1 (by omega) (GD.out.nw N2.out).s
  have LTT : Hid (w1.heap.size ≤ b ∧ w1.heap.size ≤ bm ∧ w1.heap.size ≤ g) := ⟨lt2.1, lt2.2.1, lt2.2.2.1.1⟩
  clear q2 lt2 hld hon hT n2
  go_wp2_with fail
  refine q3.mono ?_
  rintro e w3 ⟨s, rfl, A3, hsb, hbm, hzs, hcap, hrn, hx, hy, hM, hL, htg, n3⟩
  have HA3 : Hid (s.At (lh 3) w.heap.size 0 w3) := A3
  have HF3 : Hid (s.sb = b ∧ s.zs = [] ∧ s.cap = 1 ∧ s.rn = 0 ∧ s.x = 0 ∧ s.y = 0 ∧ s.L = []) := ⟨hsb, hzs, hcap, hrn, hx, hy, hL⟩
  have N3 : Hid (Nw w w3) := N2.out.tr n3
  have O3 : Hid (w3.ownsRow w.heap.size 42 32 (.slice (some ⟨g0, 0, none⟩) 3 vc) 3 (hsc (lh 3))) := ownsRow_keep O2.out (fun k hk => n3.block k (O2.out.lt k hk).2 (fun f => f))
  have TG0 : Hid (s.tg g0 = 9) := htg g0 (by have := HG0.out; have := N2.out.size; have := (O2.out.lt g0 rfl).2; omega) (by have := HG0.out; have := LTT.out; omega) (by have := HG0.out; have := LTT.out; omega) (by have := HG0.out; have := LTT.out; omega)
  obtain ⟨rb, hrb⟩ : ∃ x, x = s.rb := ⟨_, rfl⟩
  have HRB : Hid (rb = s.rb) := hrb
  rw [← hrb]
  have QT : Hid (∀ V, s.At (lh 3) w.heap.size 0 V → Nw w3 V → s.Got (lh 3) w.heap.size 0 0 0 3 (fun s' => s'.rn = s.rn + 1 ∧ s'.x = s.x + 1 ∧ s'.y = s.y ∧ s'.M = s.M ∧ s'.L.length = s.L.length + 1 ∧ ∀ j, CT.tk s'.L j = none ↔ (j ≠ keyT 0 0 3 (mayT_wid wid3 (by omega)) ∧ CT.tk s.L j = none)) V) := fun V hV nV =>
    RS.new2 hV wid3 (by omega) (by rw [HF3.out.2.2.2.2.2.2]; rfl) (by rw [HF3.out.2.1]; simp) (by rw [HF3.out.2.2.2.2.2.2, HF3.out.2.2.1]; simp) (GD.out.nw (N3.out.tr nV)).pow (by omega) (GD.out.nw (N3.out.tr nV)).s
  have q4 := RS.tile A3 wid3 (by omega) _ QT.out
  rw [← hrb] at q4
  clear q3 hsb hbm hzs hcap hrn hx hy hM hL htg n3 A3 hrb
  go_wp2_with fail
  refine q4.mono ?_
  rintro e w4 ⟨s1, v4, bq, rfl, o4, hbq, htq, A4, le4, r4, f4⟩
  have HA4 : Hid (s1.At (lh 3) w.heap.size 1 w4) := A4
  have HR4 : Hid (s1.rb = rb ∧ s1.sb = b ∧ s1.rn = 1 ∧ s1.x = 1 ∧ s1.y = 0 ∧ CT.tk s1.L (keyT 0 0 3 (mayT_wid wid3 (by omega))) ≠ none) := ⟨le4.rb.trans HRB.out.symm, le4.sb.trans HF3.out.1, by rw [r4.1, HF3.out.2.2.2.1]; rfl, by rw [r4.2.1, HF3.out.2.2.2.2.1]; rfl, by rw [r4.2.2.1, HF3.out.2.2.2.2.2.1], fun e => ((r4.2.2.2.2.2 _).1 e).1 rfl⟩
  have N4 : Hid (Nw w w4) := N3.out.trans f4 (fun k hk q => by have := HA3.out.bt k q; omega)
  have O4 : Hid (w4.ownsRow w.heap.size 42 32 (.slice (some ⟨g0, 0, none⟩) 3 vc) 3 (hsc (lh 3))) := ownsRow_keep O3.out (fun k hk => f4.block k (O3.out.lt k hk).2 (fun q => by
    have : k = g0 := by simpa [Value.ownBlock] using hk.symm
    rw [this] at q; have := TG0.out; unfold RS.Ff at q; omega))
  have T4 : Hid (s1.tg g0 = 9) := (le4.tg g0 (O3.out.lt g0 rfl).2).trans TG0.out
  have e3 : tlH (lh 3) 0 0 3 = lh 3 := by have := tlH_all (lh 3); rwa [lh_len] at this
  rw [e3] at o4
  obtain ⟨ya, yc, rfl⟩ := ownsRow_form o4
  obtain ⟨g4, rfl, hg4, hg4b, _⟩ := own_at L32.out (lh_len 3) o4 (by omega)
  have R4 : Hid (w4.ownsRow bq 42 32 (.slice (some ⟨g4, 0, none⟩) 3 yc) 3 (hsc (lh 3)) ∧ s1.tg g4 = 9) := ⟨o4, htq g4 hg4b⟩
  have hm1 : may 1 0 := ⟨by decide, by decide⟩
  have hw1 : wid (1 / 8) (ofA 1 0 / 256) (lh 3).length = 3 := wid3
  have q5 := RS.node A4 (L := 1) (I := 0) hm1 (by rw [lh_len]; omega) hw1 (by omega) (by decide) (GD.out.fr N4.out (fun _ q => q.elim)) _ (fun V hV nV => RS.had2 hV wid3 (by omega) HR4.out.2.2.2.2.2 (GD.out.nw (N4.out.tr nV)).pow (by omega))
  rw [HR4.out.1, lh_len] at q5
  have eH : ovr 1 (((lh 3).drop (0 * 2 ^ 1)).take (2 ^ 1)) = Sh (1 :: (Sh [0, 0] ++ Sh [0, 1])) := rfl
  rw [eH] at q5
  obtain ⟨H, hH⟩ : ∃ H, H = Sh (1 :: (Sh [0, 0] ++ Sh [0, 1])) := ⟨_, rfl⟩
  rw [← hH] at q5
  have HH : Hid (H = Sh (1 :: (Sh [0, 0] ++ Sh [0, 1])) ∧ H.length = 32) := ⟨hH, by rw [hH, Sh_len]⟩
  have hHs : (hbs H).size = 32 := by rw [hbs_size, HH.out.2]
  clear q4 hbq htq A4 le4 r4 f4 e3 o4 hg4 hg4b hm1 hw1 eH hH
  go_wp2_with fail
  refine q5.mono ?_
  rintro e w5 ⟨s2, rfl, A5, le5, r5, f5⟩
  have N5a : Hid (Nw w w5) := N4.out.trans f5 (fun k hk q => by have := HA4.out.bt k q; omega)
  have HA5 : Hid (s2.At (lh 3) w.heap.size 2 w5) := A5
  have HR5 : Hid (s2.rb = rb ∧ s2.sb = b ∧ s2.rn = 1 ∧ s2.x = 2 ∧ s2.y = 1) := ⟨le5.rb.trans HR4.out.1, le5.sb.trans HR4.out.2.1, r5.1.trans HR4.out.2.2.1, by rw [r5.2.1, HR4.out.2.2.2.1]; rfl, by rw [r5.2.2.1, HR4.out.2.2.2.2.1]; rfl⟩
  have O5 : Hid (w5.ownsRow w.heap.size 42 32 (.slice (some ⟨g0, 0, none⟩) 3 vc) 3 (hsc (lh 3))) := ownsRow_keep O4.out (fun k hk => f5.block k (O4.out.lt k hk).2 (fun q => by
    have : k = g0 := by simpa [Value.ownBlock] using hk.symm
    rw [this] at q; have := T4.out; unfold RS.Ff at q; omega))
  have R5 : Hid (w5.ownsRow bq 42 32 (.slice (some ⟨g4, 0, none⟩) 3 yc) 3 (hsc (lh 3))) := ownsRow_keep R4.out.1 (fun k hk => f5.block k (R4.out.1.lt k hk).2 (fun q => by
    have : k = g4 := by simpa [Value.ownBlock] using hk.symm
    rw [this] at q; have := R4.out.2; unfold RS.Ff at q; omega))
  clear q5 A5 le5 r5 f5
  go_wp2_with (refine wp_store_agg rfl (.tmp 7) (.tmp 41) 42 32 rfl Tryz.sizeOf42 w5.heap.size 0 rfl _ 42 (heap_new _ _) (hbs H) rfl hHs (hbs_one _) (by decide) (hbs H) (by simp) ?_; intro w6 j6 f6 zz; clear zz; have N56 : Hid (Nw w5 w6) := (Fr.alloc (Fr.refl _ w5) _).trans f6 (fun k hk q => by omega); have J6 : Hid (w6.heap[w5.heap.size]? = some (.cells (hbs H) 42 (0, 0))) := j6; clear j6 f6)
  have HA6 : Hid (s2.At (lh 3) w.heap.size 2 w6) := HA5.out.nw N56.out
  have N6 : Hid (Nw w w6) := N5a.out.tr N56.out
  have hm0 : may 0 3 := ⟨by decide, by decide⟩
  have hblk := HA6.out.rm.blk
  rw [HR5.out.1] at hblk
  have HBK : Hid (w6.heap[rb]? = some (rdo (.pointer (some ⟨s2.sb, 0, none⟩)) (.pointer (some ⟨s2.cb, 0, none⟩)) s2.x s2.y)) := hblk
  have q6 := rnode_out (w := w6) (q := .pointer (some ⟨rb, 0, none⟩)) 0 3 3 hm0 3 (by decide) (by omega) (by omega) (by decide) (fun V nV => rthere_any ((nV.block _ (heap_lt HBK.out) (fun f => f)).trans HBK.out)) (GD.out.nw N6.out).s
  have hzs : (hbs zh).size = 32 := by rw [hbs_size]; rfl
  obtain ⟨hb, hhb⟩ : ∃ x, x = w5.heap.size := ⟨_, rfl⟩
  rw [← hhb] at J6 ⊢
  clear hm0 hblk hhb
  refine q6.mono ?_
  rintro e w7 ⟨rfl, n7⟩
  have N67 : Hid (Nw w6 w7) := n7
  clear q6 n7
  go_wp2_with (refine wp_store_agg rfl (.tmp 9) (.tmp 47) 42 32 rfl Tryz.sizeOf42 w7.heap.size 0 rfl _ 42 (heap_new _ _) (hbs zh) rfl hzs (hbs_one _) (by decide) (hbs zh) (by simp) ?_; intro w8 j8 f8 zz; clear zz; have N78 : Hid (Nw w7 w8) := (Fr.alloc (Fr.refl _ w7) _).trans f8 (fun k hk q => by omega); clear j8 f8)
  have N8 : Hid (Nw w6 w8) := N67.out.tr N78.out
  have q8 := rcounts_any ((N8.out.block _ (heap_lt HBK.out) (fun f => f)).trans HBK.out)
  rw [HR5.out.2.2.2.1, HR5.out.2.2.2.2] at q8
  refine q8.mono ?_
  rintro e w9 ⟨rfl, n9⟩
  have N9 : Hid (Nw w6 w9) := N8.out.tr n9
  have q9 := scounts_any (HA6.out.rm.st.nw N9.out).blk
  rw [HR5.out.2.1, HR5.out.2.2.1] at q9
  clear q8 n9
  go_wp2_with fail
  refine q9.mono ?_
  rintro e wa ⟨rfl, na⟩
  have NA : Hid (Nw w6 wa) := N9.out.tr na
  have NWA : Hid (Nw w wa) := N6.out.tr NA.out
  have OA : Hid (wa.ownsRow w.heap.size 42 32 (.slice (some ⟨g0, 0, none⟩) 3 vc) 3 (hsc (lh 3))) := ownsRow_keep O5.out (fun k hk => (N56.out.tr NA.out).block k (O5.out.lt k hk).2 (fun f => f))
  have RA : Hid (wa.ownsRow bq 42 32 (.slice (some ⟨g4, 0, none⟩) 3 yc) 3 (hsc (lh 3))) := ownsRow_keep R5.out (fun k hk => (N56.out.tr NA.out).block k (R5.out.lt k hk).2 (fun f => f))
  have JA : Hid (wa.heap[hb]? = some (.cells (hbs H) 42 (0, 0))) := (NA.out.block _ (heap_lt J6.out) (fun f => f)).trans J6.out
  have C0 : Hid (∀ j, j < 32 → wa.cell? ⟨g0, 0 + j, none⟩ = (hbs (Sh [0, 0]))[j]?) := by
    show ∀ j, j < 32 → wa.cell? ⟨g0, 0 + j, none⟩ = (hbs (Sh [0, 0]))[j]?
    have := hss_at L32.out (lh_len 3) OA.out lh3_at.1; simpa using this
  have C1 : Hid (∀ j, j < 32 → wa.cell? ⟨g0, 32 + j, none⟩ = (hbs (Sh [0, 1]))[j]?) := by
    show ∀ j, j < 32 → wa.cell? ⟨g0, 32 + j, none⟩ = (hbs (Sh [0, 1]))[j]?
    have := hss_at L32.out (lh_len 3) OA.out lh3_at.2; simpa using this
  have QS : Hid (∀ V, Nw wa V → Calls Tryz.prog 30 #[.slice (some ⟨g4, 0, none⟩) 3 yc, .slice (some ⟨g0, 0, none⟩) 3 vc] V fun e w' => e = .returned (.bool true) ∧ Nw V w') := fun V nV => sameh_yes _ _ (lh 3) L32.out V ((Hss.of L32.out (by rw [lh_len]; exact RA.out)).nw L32.out nV) ((Hss.of L32.out (by rw [lh_len]; exact OA.out)).nw L32.out nV) (by rw [lh_len]; omega)
  have QN : Hid (∀ V, Nw wa V → Calls Tryz.prog 27 #[.agg (hbs (Sh [0, 0])), .agg (hbs (Sh [0, 1]))] V fun e w' => e = .returned (.agg (hbs H)) ∧ Nw V w') := fun V nV => by rw [HH.out.1]; exact node_any _ _ (Sh_len _) (Sh_len _) V (GD.out.nw (NWA.out.tr nV)).l
  have QI : Hid (∀ V, Nw wa V → Calls Tryz.prog 12 #[sen (a 4), .int .i64 5] V fun e w' => e = .returned (.bool true) ∧ Nw V w') := fun V nV => is_senJ (GD.out.nw (NWA.out.tr nV)).s 4 (by decide) (by decide)
  have X32 : (Sh [0, 0]).length = 32 := Sh_len _
  have Y32 : (Sh [0, 1]).length = 32 := Sh_len _
  generalize Sh [0, 0] = X at *
  generalize Sh [0, 1] = Y at *
  clear q9 na
  go_wp2_with fail
  (refine wp_region_grown (by kernel_rfl) (by kernel_rfl) ?_; (repeat (first | go_big_quiet_skip | (go_big_quiet_want; first | (refine quiet_load (.tmp 7) rfl hb 0 rfl H HH.out.2 (hash_cells JA.out) ?_; ((try simp only [Act.put, List.setIfInBounds_toArray, List.set_cons_zero, List.set_cons_succ]); go_big_quiet_on)) | (refine quiet_load (.tmp 73) rfl g0 0 rfl X X32 C0.out ?_; ((try simp only [Act.put, List.setIfInBounds_toArray, List.set_cons_zero, List.set_cons_succ]); go_big_quiet_on)) | (refine quiet_load (.tmp 76) rfl g0 32 rfl Y Y32 C1.out ?_; ((try simp only [Act.put, List.setIfInBounds_toArray, List.set_cons_zero, List.set_cons_succ]); go_big_quiet_on)) | (refine quiet_eql (.tmp 71) (.tmp 78) rfl H HH.out.2 rfl rfl ?_; ((try simp only [Act.put, List.setIfInBounds_toArray, List.set_cons_zero, List.set_cons_succ]); go_big_quiet_on)) | (go_big_quiet_op; first | go_big_quiet_on | go_big_quiet_call (first | rfl | with_reducible exact grw_call QS.out (Fr.refl _ wa) _ | with_reducible exact grw_call QN.out (Fr.refl _ wa) _ | with_reducible exact grw_call QI.out (Fr.refl _ wa) _))))); refine wpQuiet_nil ?_; rintro W ⟨⟨_, nW⟩, rfl⟩)
  go_wp2
  go_ret
  exact ⟨rfl, NWA.out.tr nW⟩
end Go.Proofs.YtbkhdnceblgljaaGreatDoor
namespace Go.Proofs.YtbkhdnceblgljaaGreatDoor
open Go.RowKit
set_option linter.unusedVariables false
set_option linter.unusedSimpArgs false
theorem run_append_noneK {P : Program} (w : World) (t ty e : TypeId) (i : TypeInfo) (ht : P.underlying t = some (.slice e)) (hi : P.info? e = some i) {base size : Nat} {v : Value} {n : Nat} {xs : List Value} (hown : w.ownsRow base e size v n xs) :
    (Builtin.append_ #[t, t] ty #[v, .slice none 0 0]).run P w = .ok v w := by
  have hsrc : Src P i.size t (.slice none 0 0) 0 [] w := Src.ofNil w ht 0
  rcases hown.2 with ⟨rfl, rfl⟩ | ⟨g, cap, cur, rfl, _, _, hnc, _⟩
  · rcases hsrc.kind with ⟨e', hk⟩ | hk <;> simp [Builtin.append_, run_underlying ht, run_underlying hk, sizeOf, typeInfo, hi, hsrc.len, hsrc.cells, storeCells]
  · have hr := run_append_room_src (P := P) w t t ty e i ht hi g 0 n cap (.slice none 0 0) 0 [] hsrc (by omega) (fun j hj => by simp at hj) (fun j hj => by simp at hj)
    simpa [World.setCells] using hr
theorem wpList_append_noneK {P : Program} {w : World} {ops : Array Oper} {rest : List Oper} {o : Oper} {a : Act} {Q : Exit → Act → World → Prop} (hgd : o.guard = none) (s x : Operand) (t : TypeId)
    (ho : o.op = .call { callee := .builtin .append, args := #[s, x], argTypes := #[t, t] }) (e : TypeId) (i : TypeInfo) (ht : P.underlying t = some (.slice e)) (hi : P.info? e = some i)
    {base size : Nat} (v : Value) {n : Nat} {xs : List Value} (hs : a.eval s = v) (hown : w.ownsRow base e size v n xs) (hx : a.eval x = .slice none 0 0)
    (h : wpList P ops Q rest (a.put o.dst v) w) : wpList P ops Q (o :: rest) a w := by
  refine wpList_plain hgd fun K hK => ?_
  have hr := run_append_noneK (P := P) w t o.type e i ht hi hown
  unfold Oper.wp execOp
  simp only [ho, resolve, invoke, builtin, Sem.run_bind, Sem.run_pure, Result.andThen_ok, List.map_toArray, List.map_cons, List.map_nil, hs, hx, hr]
  exact hK _ _ h

theorem hldA_nil (M : Tx) : HldA [] M := fun q i W h h0 => by
  exfalso
  have : nod8 q 0 = 0 := by simp [nod8]
  have := (wid_in q i 0 W h h0).1
  omega
theorem onl_nil : Onl [] (fun _ => none) := fun s t h => by cases h
set_option maxRecDepth 100000 in
set_option maxHeartbeats 1000000 in
theorem laid_zero (w : World) :
    Calls Tryz.prog 8 #[.slice none 0 0] w fun e w' => ∃ b bm g T M, e = .returned (.pointer (some ⟨b, 0, none⟩)) ∧ Lt w w' b bm g T M ∧ HldA [] M ∧ Onl [] M ∧ T ≤ 100 ∧ Nw w w' := by
  obtain ⟨i0, hi, hz0, hz1, hz2⟩ := info_parts infoHs
  have hQ := snew_anyG (w := w) none 0 [] 0 (fun j hj => by simp at hj) (by simp) rfl
  rw [show (([] : List Int).length) = 0 from rfl] at hQ
  go_enter Tryz.func8, Tryz.ntmps8
  go_wp2_with fail
  refine hQ.mono ?_
  rintro e w1 ⟨b, bm, g, rfl, hb1, hb2, hb3, hb4, hs1, n1⟩
  have L1 : Hid (Lt w w1 b bm g 0 (fun _ => none)) := ⟨hb1, hb2, ⟨hb3, hb4⟩, hs1⟩
  have N1 : Hid (Nw w w1) := n1
  have O1 : Hid ((w1.alloc (.cells #[] 42)).ownsRow w.heap.size 42 32 (.slice (some ⟨w1.heap.size, 0, none⟩) 0 0) 0 []) := ownsRow_base (own_emptyc w1) n1.size
  clear hQ hb1 hb2 hb3 hb4 hs1 n1
  go_wp2_with (at_builtin; refine wpList_append_noneK rfl (.tmp 27) (.tmp 28) 25 rfl 42 i0 Tryz.underlying25 hi (.slice (some ⟨w1.heap.size, 0, none⟩) 0 0) rfl O1.out rfl ?_)
  go_loopw [5, 6] (fun u v wr => u = .slice (some ⟨w1.heap.size, 0, none⟩) 0 0 ∧ wr = w1.alloc (.cells #[] 42)) (fun _ v _ => 0)
  case atStart => exact ⟨rfl, rfl⟩
  case round =>
    obtain ⟨rfl, rfl⟩ := hrel
    go_wp2
    refine bodyPost_ret (v := .pointer (some ⟨b, 0, none⟩)) (by simp [results, Tryz.results8]) rfl ⟨b, bm, g, 0, _, rfl, L1.out.nw (nwa w1 _), hldA_nil _, onl_nil, by omega, N1.out.alloc _⟩
end Go.Proofs.YtbkhdnceblgljaaGreatDoor
namespace Go.Proofs.YtbkhdnceblgljaaGreatDoor
open Go.RowKit
set_option linter.unusedVariables false
set_option linter.unusedSimpArgs false
theorem lvT_at (S l c i : Nat) (t : Ti) (h : (lvT S l c)[i]? = some t) : t = ⟨l, i, wid l i S⟩ := by
  have hi : i < c := by have := (List.getElem?_eq_some_iff.1 h).1; rwa [lvT_len] at this
  simp only [lvT, List.getElem?_map, List.getElem?_range hi, Option.map_some, Option.some.injEq] at h
  exact h.symm
theorem allT_lv (S : Nat) : ∀ j, ∀ t ∈ allT S j, t.L < j
  | 0, t, h => by simp [allT] at h
  | j + 1, t, h => by
    simp only [allT, List.mem_append] at h
    rcases h with h | h
    · have := allT_lv S j t h; omega
    · obtain ⟨i, hi⟩ := List.getElem?_of_mem h
      rw [lvT_at S j _ i t hi]; simp
theorem allT_one (S : Nat) : ∀ (j a b : Nat) (t u : Ti), (allT S j)[a]? = some t → (allT S j)[b]? = some u → t.L = u.L → t.I = u.I → a = b
  | 0, a, b, t, u, h, _, _, _ => by simp [allT] at h
  | j + 1, a, b, t, u, h, k, e1, e2 => by
    simp only [allT] at h k
    rcases Nat.lt_or_ge a (allT S j).length with ha | ha
    · rw [List.getElem?_append_left ha] at h
      have h1 := allT_lv S j t (List.mem_of_getElem? h)
      rcases Nat.lt_or_ge b (allT S j).length with hb | hb
      · rw [List.getElem?_append_left hb] at k
        exact allT_one S j a b t u h k e1 e2
      · rw [List.getElem?_append_right hb] at k
        have := lvT_at S j _ _ u k
        rw [this] at e1; simp only at e1; omega
    · rw [List.getElem?_append_right ha] at h
      have ht := lvT_at S j _ _ t h
      rcases Nat.lt_or_ge b (allT S j).length with hb | hb
      · rw [List.getElem?_append_left hb] at k
        have h1 := allT_lv S j u (List.mem_of_getElem? k)
        rw [ht] at e1; simp only at e1; omega
      · rw [List.getElem?_append_right hb] at k
        have hu := lvT_at S j _ _ u k
        rw [ht, hu] at e2; simp only at e2; omega
theorem laid14 {n : Nat} (hn : n ≤ 1000) {va : Option Addr} {vc base : Nat} {w : World} (hs : w.ownsRow base 42 32 (.slice va n vc) n (hsc (lh n))) (hz : n = 0 → va = none ∧ vc = 0) {B : Nat} {a : Nat → Addr} (hG : Gd B a w) (hB : B ≤ w.heap.size) :
    Calls Tryz.prog 8 #[.slice va n vc] w fun e w' => ∃ b bm g T M, e = .returned (.pointer (some ⟨b, 0, none⟩)) ∧ Lt w w' b bm g T M ∧ HldA (lh n) M ∧ Onl (lh n) M ∧ T ≤ 100 ∧ Nw w w' := by
  by_cases h0 : n = 0
  · obtain ⟨rfl, rfl⟩ := hz h0
    subst h0
    exact laid_zero w
  · obtain ⟨g0, rfl, _, _, _⟩ := own_at (lh_32 n) (lh_len n) hs (by omega)
    exact laid_any (lh n) (lh_32 n) n g0 vc (lh_len n).symm (by omega) hn w (ownsRow_base hs (Nat.zero_le _)) hG.pow hG.l hG.s hB
end Go.Proofs.YtbkhdnceblgljaaGreatDoor
namespace Go.Proofs.YtbkhdnceblgljaaGreatDoor
open Go.RowKit
set_option linter.unusedVariables false
set_option linter.unusedSimpArgs false
/-- A tile as a key. -/
theorem ti_key {n : Nat} (hn : n ≤ 1048576) {t : Ti} {k : Nat} (h : (allT n 8)[k]? = some t) : wid t.L t.I n = t.W ∧ 0 < t.W := by
  obtain ⟨h1, h2, h3⟩ := allT_mem (List.mem_of_getElem? h)
  have := (wid_pos n t.L t.I hn (by omega)).2 h2
  exact ⟨h3.symm, by omega⟩
def tiK (l : List (List UInt8)) (t : Ti) : Prop := wid t.L t.I l.length = t.W ∧ 0 < t.W
theorem ti_cells {w : World} {base N : Nat} {va : Option Addr} {vc : Nat} {TL : List Ti} (hl : TL.length = N) (h : w.ownsRow base 60 3 (.slice va N vc) N (tic TL)) {k : Nat} {t : Ti} (hk : TL[k]? = some t) : ∃ g, va = some ⟨g, 0, none⟩ ∧ w.cell? ⟨g, k * 3, none⟩ = some (.int .u8 (t.L : Int)) ∧ w.cell? ⟨g, k * 3 + 1, none⟩ = some (.int .u64 (t.I : Int)) ∧ w.cell? ⟨g, k * 3 + 2, none⟩ = some (.int .i64 (t.W : Int)) := by
  have hlt : k < N := by have := (List.getElem?_eq_some_iff.1 hk).1; omega
  rcases h.2 with ⟨_, h1⟩ | ⟨g, cap, cur, hv, _⟩
  · omega
  · cases hv
    obtain ⟨c0, c1, c2⟩ := tic_at TL k t hk
    have hh := h.cells (g := g) rfl
    have e0 := hh _ _ c0
    have e1 := hh _ _ c1
    have e2 := hh _ _ c2
    rw [addZ] at e0 e1 e2
    exact ⟨g, rfl, e0, e1, e2⟩
/-- The reader had the first k of these tiles. -/
def Hd (l : List (List UInt8)) (TL : List Ti) (k : Nat) (L : CT.LT) : Prop := ∀ j : CT.KT, CT.tk L j = none ↔ ∀ i t, i < k → TL[i]? = some t → j.1 ≠ (t.L, t.I, (t.W : Int))
theorem Hd.not {l : List (List UInt8)} {TL : List Ti} {k : Nat} {L : CT.LT} (h : Hd l TL k L) {t : Ti} {i : Nat} (hi : i < k) (ht : TL[i]? = some t) (hm : mayT t.L t.I (t.W : Int)) : CT.tk L (keyT t.L t.I t.W hm) ≠ none := fun e => (h _).1 e i t hi ht rfl
theorem Hd.yet {l : List (List UInt8)} {TL : List Ti} {k : Nat} {L : CT.LT} (h : Hd l TL k L) (hone : ∀ (a b : Nat) (t u : Ti), TL[a]? = some t → TL[b]? = some u → t.L = u.L → t.I = u.I → a = b) {t : Ti} (ht : TL[k]? = some t) (hm : mayT t.L t.I (t.W : Int)) : CT.tk L (keyT t.L t.I t.W hm) = none := by
  refine (h _).2 fun i u hi hu e => ?_
  have e1 : t.L = u.L := congrArg (fun x => x.1) e
  have e2 : t.I = u.I := congrArg (fun x => x.2.1) e
  have := hone k i t u ht hu e1 e2
  omega
theorem Hd.zero (l : List (List UInt8)) (TL : List Ti) : Hd l TL 0 [] := fun j => ⟨fun _ i t h => by omega, fun _ => rfl⟩
theorem Hd.next {l : List (List UInt8)} {TL : List Ti} {k : Nat} {L L' : CT.LT} (h : Hd l TL k L) {t : Ti} (ht : TL[k]? = some t) (hm : mayT t.L t.I (t.W : Int)) (hL : ∀ j, CT.tk L' j = none ↔ (j ≠ keyT t.L t.I t.W hm ∧ CT.tk L j = none)) : Hd l TL (k + 1) L' := fun j => by
  rw [hL, h j]
  constructor
  · rintro ⟨h1, h2⟩ i u hi hu
    rcases Nat.lt_or_ge i k with q | q
    · exact h2 i u q hu
    · obtain rfl : i = k := by omega
      rw [ht] at hu
      injection hu with hu
      subst hu
      exact fun e => h1 (Subtype.ext e)
  · intro q
    exact ⟨fun e => q k t (by omega) ht (by rw [e]; rfl), fun i u hi hu => q i u (by omega) hu⟩
theorem Hd.same {l : List (List UInt8)} {TL : List Ti} {k : Nat} {L L' : CT.LT} (h : Hd l TL k L) (hL : ∀ j, CT.tk L' j = none ↔ CT.tk L j = none) : Hd l TL k L' := fun j => by rw [hL, h j]
end Go.Proofs.YtbkhdnceblgljaaGreatDoor
