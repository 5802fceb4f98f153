/- tiled: the law's log, and a store with its tiles. -/
import Derived.Test.YtjkhcplnedcmeaaGreatDoorIgc
import Derived.Test.YtjkhcplnedcmeaaGreatDoorJgd
import Derived.Test.YtjkhcplnedcmeaaGreatDoorIgb
import Derived.Test.YtjkhcplnedcmeaaGreatDoorLg1
import Derived.Test.YtjkhcplnedcmeaaGreatDoorIga
namespace Go.Proofs.YtjkhcplnedcmeaaGreatDoor
open Go.RowKit
set_option linter.unusedVariables false
set_option linter.unusedSimpArgs false
/-- A row of another kind is neither the store nor its map. -/
theorem Lt.rowS {w w1 : World} {b bm g T : Nat} {M : Tx} (h : Lt w w1 b bm g T M) {base n s : Nat} {t : TypeId} (hty : t ≠ 141) {v : Value} {xs : List Value} (ho : w1.ownsRow base t s v n xs) : ∀ k, v.ownBlock = some k → k ≠ b ∧ k ≠ bm := fun k hk => by
  rcases ho.2 with ⟨rfl, _⟩ | ⟨g', cap, cur, rfl, hg, hb, _⟩
  · simp [Value.ownBlock] at hk
  · simp only [Value.ownBlock, Option.some.injEq] at hk
    subst hk
    refine ⟨fun e => ?_, fun e => ?_⟩
    · have := h.2.2.2.blk
      rw [← e, hb] at this
      simp only [Option.some.injEq, Obj.cells.injEq] at this
      exact hty this.2.1
    · obtain ⟨D, ⟨es, ck, hm, _⟩, _⟩ := h.2.2.2.mp
      rw [← e, hb] at hm
      simp at hm
theorem take_snoc {α : Type} (l : List α) (k : Nat) (x : α) (h : l[k]? = some x) : l.take (k + 1) = l.take k ++ [x] := by rw [List.take_add_one, h]; rfl
set_option maxRecDepth 100000 in
set_option maxHeartbeats 8000000 in
theorem lying_any (n : Nat) (hn : n ≤ 1000) (w : World) {B : Nat} {a : Nat → Addr} (hG : Gd B a w) (hB : B ≤ w.heap.size) :
    Calls Tryz.prog 12 #[.int .i64 (n : Int)] w fun e w' => ∃ lb base v b bm g T M, e = .returned (.tuple #[.pointer (some ⟨lb, 0, none⟩), .pointer (some ⟨b, 0, none⟩), .bool true]) ∧ w.heap.size ≤ lb ∧ Lg w' lb base v (ldS n) ∧ Lt w w' b bm g T M ∧ HldA (ldH n) M ∧ T ≤ 100000 ∧ (lb ≠ b ∧ lb ≠ bm ∧ lb ≠ g) ∧ (∀ q, v.ownBlock = some q → q ≠ b ∧ q ≠ bm ∧ q ≠ g) ∧ Nw w w' := by
  obtain ⟨i0, hi, hz0, hz1, hz2⟩ := info_parts infoHs
  have HI0 : Hid (Tryz.prog.info? 69 = some i0 ∧ i0.zero = some (.agg z32) ∧ i0.size = 32 ∧ i0.bytes = 32) := ⟨hi, hz0, hz1, hz2⟩
  have HG : Hid (∀ V, Nw w V → Gd B a V) := fun V nV => hG.nw nV
  have HBL : Hid (B ≤ w.heap.size) := hB
  have q1 := new_any w
  clear hG hB hi hz0 hz1 hz2
  go_enter Tryz.func12, Tryz.ntmps12
  go_wp2_with fail
  refine q1.mono ?_
  rintro e w1 ⟨rfl, lg1, sz1, n1⟩
  have N1 : Hid (Nw w w1) := n1
  have LG1 : Hid (Lg w1 w.heap.size (w.heap.size + 1) (.slice none 0 0) []) := lg1
  have SZ1 : Hid (w1.heap.size = w.heap.size + 1) := sz1
  have hQ := snew_anyG (w := w1) none 0 [] 0 (fun j hj => by simp at hj) (by simp) rfl
  rw [show (([] : List Int).length) = 0 from rfl] at hQ
  obtain ⟨lb, hlb⟩ : ∃ q, q = w.heap.size := ⟨_, rfl⟩
  have HLB : Hid (lb = w.heap.size) := hlb
  rw [← hlb]
  clear n1 lg1 sz1 q1 hlb
  go_wp2_with fail
  refine hQ.mono ?_
  rintro e w2 ⟨b, bm, g, rfl, hb1, hb2, hb3, hb4, hs1, n2⟩
  have L2 : Hid (Lt w1 w2 b bm g 0 (fun _ => none)) := ⟨hb1, hb2, ⟨hb3, hb4⟩, hs1⟩
  have N2 : Hid (Nw w w2) := N1.out.tr n2
  have LG2 : Hid (Lg w2 lb (w.heap.size + 1) (.slice none 0 0) []) := by rw [HLB.out]; exact LG1.out.nw n2
  have HNE : Hid (lb ≠ b ∧ lb ≠ bm) := ⟨by have := HLB.out; have := SZ1.out; omega, by have := HLB.out; have := SZ1.out; omega⟩
  have HNG : Hid (lb ≠ g) := by show lb ≠ g; have := HLB.out; have := SZ1.out; omega
  clear hQ hb1 hb2 hb3 hb4 hs1 n2
  go_wp2_with fail
  go_loopw [8] (fun i wr => ∃ (k : Nat) (v : Value), k ≤ n ∧ i = .int .i64 k ∧ Lg wr lb (w.heap.size + 1) v (ldS k) ∧ Lt w1 wr b bm g 0 (fun _ => none) ∧ (∀ q, v.ownBlock = some q → q ≠ g) ∧ Nw w wr) (fun i _ => n - (intOf i).toNat)
  case atStart => exact ⟨0, _, by omega, rfl, LG2.out, L2.out, (fun q hq => by simp [Value.ownBlock] at hq), N2.out⟩
  case round =>
    obtain ⟨k, v, hk, rfl, hlg, hlt0, hsp, hnw⟩ := hrel
    have HSP : Hid (∀ q, v.ownBlock = some q → q ≠ g) := hsp
    have HLG : Hid (Lg wr lb (w.heap.size + 1) v (ldS k)) := hlg
    have HLT : Hid (Lt w1 wr b bm g 0 (fun _ => none)) := hlt0
    have HW : Hid (Nw w wr) := hnw
    clear hlg hlt0 hnw hsp
    by_cases hlt : k < n
    · have QD : Hid (∀ V, Calls Tryz.prog 50 #[.int .i64 (k : Int)] V fun e w' => e = .returned (.string (dgS k)) ∧ Nw V w') := fun V => digits_s k (by omega) V
      have QA : Hid (∀ V, Nw wr V → Calls Tryz.prog 49 #[.pointer (some ⟨lb, 0, none⟩), .string (dgS k)] V fun e w' => e = .returned (.tuple #[.int .u64 (k : Int), .nilIface]) ∧ ∃ v', Lg w' lb (w.heap.size + 1) v' (ldS (k + 1)) ∧ Stays V v v' ∧ Fr (fun j => j = lb ∨ v.ownBlock = some j) V w') := fun V nV => by
        have h := HLG.out.nw nV
        have := append_yes h (dgS k) (by have := dgS_size k; omega) (by rw [ldS_len]; omega)
        rw [ldS_len] at this
        exact this.mono fun e w' ⟨e1, v', h1, h2, h3⟩ => ⟨e1, v', by rw [ldS_succ]; exact h1, h2, h3⟩
      generalize dgS k = ds at QD QA
      have hki : (k : Int) < (n : Int) := by omega
      go_wp2_with fail
      refine (QD.out _).mono ?_
      rintro e w3 ⟨rfl, n3⟩
      have N3 : Hid (Nw wr w3) := n3
      clear n3
      go_wp2_with fail
      refine (QA.out _ N3.out).mono ?_
      rintro e w4 ⟨rfl, v4, g4, st4, f4⟩
      have SP4 : Hid (∀ q, v4.ownBlock = some q → q ≠ g) := fun q hq => by
        rcases st4 with e | ⟨g', hg', hl'⟩
        · exact HSP.out q (e ▸ hq)
        · rw [hg'] at hq
          simp only [Option.some.injEq] at hq
          have := HLT.out.2.2.1.2
          have := N3.out.size
          omega
      have F4 : Hid (Fr (fun j => j = lb ∨ v.ownBlock = some j) wr w4) := (N3.out.mono (fun _ _ f => f.elim)).trans f4 (fun _ _ q => q)
      have G4 : Hid (Lg w4 lb (w.heap.size + 1) v4 (ldS (k + 1))) := g4
      clear g4 f4 st4
      go_wp2
      refine ⟨⟨k + 1, v4, by omega, by go_num, G4.out, HLT.out.fr F4.out (fun j hj => ?_), SP4.out, HW.out.trans F4.out (fun j hj q => ?_)⟩, by simp [intOf]; omega⟩
      · rcases hj with rfl | hj
        · exact HNE.out
        · exact HLT.out.rowS (by decide) HLG.out.own j hj
      · rcases q with rfl | q
        · have := HLB.out; omega
        · have := (HLG.out.own.lt j q).1; omega
    · obtain rfl : k = n := by omega
      have hkn : ¬ (k : Int) < (k : Int) := by omega
      clear LG2 L2 N2 LG1
      have QT := all_yes k (by omega) wr
      have hT := tis_all (S := k) (by omega) 8 (by omega)
      have hTL : (allT k 8).length ≤ 32768 := allT_le k (by omega) 8
      obtain ⟨ts, hts⟩ : ∃ ts, ts = allT k 8 := ⟨_, rfl⟩
      have HTS : Hid (ts = allT k 8) := hts
      rw [← hts] at QT hT hTL
      obtain ⟨N, hN⟩ : ∃ N, N = ts.length := ⟨_, rfl⟩
      have HN : Hid (N = ts.length) := hN
      rw [← hN] at QT hTL
      have HT : Hid (Tis k ts) := hT
      clear hts hN hT
      go_wp2_with fail
      refine QT.mono ?_
      rintro e w3 ⟨va, vc, rfl, o3, n3⟩
      have O3 : Hid (w3.ownsRow wr.heap.size 120 3 (.slice va N vc) N (tic ts)) := o3
      have N3 : Hid (Nw w w3) := HW.out.tr n3
      have G3 : Hid (Lg w3 lb (w.heap.size + 1) v (ldS k)) := HLG.out.nw n3
      have T3 : Hid (Lt w1 w3 b bm g 0 (fun _ => none)) := HLT.out.nw n3
      have HWS : Hid (w.heap.size ≤ wr.heap.size) := HW.out.size
      obtain ⟨wz, hwz⟩ : ∃ q, q = wr.heap.size := ⟨_, rfl⟩
      rw [← hwz] at O3 HWS
      clear o3 n3 QT HLG HLT HW hwz
      go_wp2_with fail
      go_loopw [13] (fun i wr => ∃ (j T : Nat) (M : Tx), j ≤ N ∧ T ≤ j ∧ i = .int .i64 j ∧ Lt w1 wr b bm g T M ∧ HldT (ldH k) M (ts.take j) ∧ Fr (fun q => q = b ∨ q = bm) w3 wr) (fun i _ => N - (intOf i).toNat)
      case atStart => exact ⟨0, 0, _, by omega, by omega, rfl, T3.out, fun t ht => by simp at ht, Fr.refl _ _⟩
      case round =>
        obtain ⟨j, T, M, hj, hTj, rfl, hlt0, hht, hfr⟩ := hrel
        obtain ⟨wv, hwv⟩ : ∃ x, x = wr := ⟨_, rfl⟩
        subst hwv
        have HLT : Hid (Lt w1 wv b bm g T M) := hlt0
        have HHT : Hid (HldT (ldH k) M (ts.take j)) := hht
        have HF : Hid (Fr (fun q => q = b ∨ q = bm) w3 wv) := hfr
        clear hlt0 hht hfr
        have HLG : Hid (Lg wv lb (w.heap.size + 1) v (ldS k)) := G3.out.fr HF.out (fun q => by have := HNE.out; omega) (fun g hg q => by have := T3.out.rowS (by decide) G3.out.own g hg; omega)
        have HW : Hid (Nw w wv) := N3.out.trans HF.out (fun q hq e => by have h1 := T3.out.1; have h2 := T3.out.2.1; have := N1.out.size; omega)
        have HTR : Hid (wv.ownsRow w.heap.size 120 3 (.slice va N vc) N (tic ts)) := ownsRow_base (ownsRow_keep O3.out (fun g hg => HF.out.block g (O3.out.lt g hg).2 (fun q => by have := T3.out.rowS (by decide) O3.out g hg; omega))) (Nat.le_trans HWS.out (Nat.le_refl _))
        by_cases hjl : j < N
        · obtain ⟨t, ht⟩ : ∃ t, ts[j]? = some t := ⟨_, List.getElem?_eq_getElem (by rw [← HN.out]; exact hjl)⟩
          obtain ⟨gt, hva, y0, y1, y2⟩ := tic_cellsP (by rw [← HN.out]; exact HTR.out) j t ht
          subst hva
          have gtl := (HTR.out.lt gt rfl).2
          have HT1 : Hid (Tis k [t]) := fun u hu => by simp at hu; subst hu; exact HT.out _ (List.mem_of_getElem? ht)
          have HTK : Hid (ts.take (j + 1) = ts.take j ++ [t]) := take_snoc ts j t ht
          obtain ⟨q, I, W⟩ := t
          obtain ⟨hw, h0W, hq, hI⟩ := HT1.out _ (List.mem_singleton.2 rfl)
          simp only at hw h0W hq hI y0 y1 y2
          have hwi := wid_in q I _ W hw h0W
          have HWI : Hid (wid q I k = W ∧ 256 * I + W ≤ nod8 q k) := ⟨hw, hwi.1⟩
          have HMY : Hid (mayT q I (W : Int)) := mayT_wid hw h0W
          have hW256 := hwi.2.1
          have htl32 := tlH_32 (ldH k) (ldH_32 k) q I W
          have htl := tlH_len (ldH k) q I W (by rw [ldH_len]; exact hwi.1)
          have HTL32 : Hid (∀ x ∈ tlH (ldH k) q I W, x.length = 32) := htl32
          have HTLL : Hid ((tlH (ldH k) q I W).length = W) := htl
          obtain ⟨tB, htB⟩ : ∃ x, x = tlB (ldH k) q I W := ⟨_, rfl⟩
          have HTB : Hid (tB = tlB (ldH k) q I W) := htB
          obtain ⟨nB, hnB⟩ : ∃ x : ByteArray, x = ⟨(nm q I W).toArray⟩ := ⟨_, rfl⟩
          have HNB : Hid (nB = ⟨(nm q I W).toArray⟩) := hnB
          have QEN : Hid (∀ V B0 va vc, V.ownsRow B0 69 32 (.slice va W vc) W (hsc (tlH (ldH k) q I W)) → Calls Tryz.prog 54 #[.slice va W vc] V fun e w' => e = .returned (.tuple #[.string tB, .nilIface]) ∧ Nw V w') := fun V B0 va vc h => by
            have q := enc_yes (tlH (ldH k) q I W) HTL32.out (by rw [HTLL.out]; omega) (by rw [HTLL.out]; omega) va vc V (Hss.of HTL32.out (by rw [HTLL.out]; exact h))
            rw [HTLL.out] at q
            rw [HTB.out]
            exact q
          have QPA : Hid (∀ V, Nw wv V → Calls Tryz.prog 53 #[tl q I W] V fun e w' => e = .returned (.tuple #[.string nB, .nilIface]) ∧ Nw V w') := fun V nV => by
            have q := tpath_yes q I W HMY.out V (HG.out V (HW.out.tr nV)).pow
            rw [← HNB.out] at q
            exact q
          have QPU : Hid (∀ V, Nw wv V → Calls Tryz.prog 44 #[.pointer (some ⟨b, 0, none⟩), .string nB, .string tB] V fun e w' => e = .returned .nilIface ∧ Lt w1 w' b bm g (T + 1) (putT M nB tB) ∧ Fr (fun k => k = b ∨ k = bm) V w') := fun V nV => by
            refine (HLT.out.nw nV).put nB tB (by rw [HNB.out]; exact okN_nm HMY.out) ?_ (HG.out V (HW.out.tr nV)).s (Nat.le_trans HBL.out N1.out.size) (by omega)
            rw [HTB.out, tlB_size (ldH k) (ldH_32 k) q I W (by rw [ldH_len]; exact HWI.out.2)]; omega
          have QTR : Hid (∀ V x, Nw wv V → x < W → Calls Tryz.prog 52 #[.pointer (some ⟨lb, 0, none⟩), sp ((256 * I + x) * 2 ^ (8 * q)) ((256 * I + x) * 2 ^ (8 * q) + 2 ^ (8 * q))] V fun e w' => e = .returned (.tuple #[.agg (hbs (mth (sbl (ldS k) ((256 * I + x) * 2 ^ (8 * q)) ((256 * I + x) * 2 ^ (8 * q) + 2 ^ (8 * q))))), .nilIface]) ∧ Nw V w') := fun V x nV hx => by
            have hin : (256 * I + x + 1) * 2 ^ (8 * q) ≤ k := Nat.le_trans (Nat.mul_le_mul_right _ (show 256 * I + x + 1 ≤ nod8 q k by have := HWI.out.2; omega)) (Nat.div_mul_le_self k (2 ^ (8 * q)))
            rw [Nat.succ_mul] at hin
            exact Tree_yes (HLG.out.nw nV) _ _ (Nat.le_add_right _ _) (by rw [ldS_len]; exact hin) (HG.out V (HW.out.tr nV)).l (HG.out V (HW.out.tr nV)).s
          have HMT : Hid (∀ x, x < W → (tlH (ldH k) q I W)[x]? = some (mth (sbl (ldS k) ((256 * I + x) * 2 ^ (8 * q)) ((256 * I + x) * 2 ^ (8 * q) + 2 ^ (8 * q))))) := fun x hx => mth_tile k q I W x hx HWI.out.2
          have hq1 : q = 0 ∨ q = 1 := by
            rcases Nat.lt_or_ge q 2 with h | h
            · omega
            · exfalso
              have h1 : nod8 q k = 0 := by
                unfold nod8
                have : 2 ^ 16 ≤ 2 ^ (8 * q) := Nat.pow_le_pow_right (by decide) (by omega)
                exact Nat.div_eq_of_lt (by omega)
              have := HWI.out.2
              omega
          have hIk : (256 * I + W) * 2 ^ (8 * q) ≤ k := Nat.le_trans (Nat.mul_le_mul_right _ HWI.out.2) (Nat.div_mul_le_self k (2 ^ (8 * q)))
          have hji : (j : Int) < (N : Int) := by omega
          clear ht hw hwi htl32 htl htB hnB hq
          rcases hq1 with rfl | rfl
          · have hpw : 2 ^ (8 * 0) = 1 := by decide
            rw [hpw] at QTR HMT hIk
            have hW1 : W ≤ 256 := hW256
            go_upto_region 16 with fail
            have HTL := heap_new wv (.cells #[.int .u8 0, .int .u64 (I : Int), .int .i64 (W : Int)] 120)
            refine gen_w (fun V => Nw wv V ∧ wv.heap.size < V.heap.size ∧ V.heap[wv.heap.size]? = some (.cells #[.int .u8 0, .int .u64 (I : Int), .int .i64 (W : Int)] 120)) ⟨(by repeat first | with_reducible exact Fr.refl _ _ | with_reducible refine Fr.alloc ?_ _ | with_reducible refine Fr.drew ?_ | (with_reducible refine Fr.setCell ?_ _ _ (fun h => ?_); rotate_left; focus (simp only at h; omega))), by simp, by (repeat first | with_reducible exact HTL | with_reducible exact heap_new _ _ | with_reducible exact heap_next _ _ _ | with_reducible exact heap_third _ _ _ _ | with_reducible refine hp_dr ?_ | (with_reducible refine hp_ne ?_ ?_; focus omega) | (with_reducible refine hp_al ?_ ?_; focus (first | omega | (simp <;> omega))) | with_reducible apply hp_set) <;> rfl⟩ ?_
            rintro w5 ⟨n5, l5, b5⟩
            obtain ⟨f0, f1, f2⟩ := cell3 b5
            have N5 : Hid (Nw wv w5) := n5
            have B5 : Hid (w5.heap[wv.heap.size]? = some (.cells #[.int .u8 0, .int .u64 (I : Int), .int .i64 (W : Int)] 120)) := b5
            clear n5 b5 HTL y0 y1 y2
            go_wp2_with fail
            obtain ⟨tb, htb⟩ : ∃ q, q = wv.heap.size := ⟨_, rfl⟩
            rw [← htb] at f0 f1 f2 l5 B5 ⊢
            clear htb f0 f1 f2
            go_loopw [16, 17] (fun r i wr => ∃ (x : Nat) (va : Option Addr) (vc : Nat), x ≤ W ∧ r = .slice va x vc ∧ i = .int .i64 x ∧ wr.ownsRow w5.heap.size 69 32 (.slice va x vc) x (hsc ((tlH (ldH k) 0 I W).take x)) ∧ Nw w5 wr) (fun _ i _ => W - (intOf i).toNat)
            case atStart => exact ⟨0, none, 0, by omega, rfl, rfl, World.ownsRow_nil _ _ _ _, Fr.refl _ _⟩
            case round =>
              obtain ⟨x, xa, xc, hx, rfl, rfl, ho, hnw⟩ := hrel
              have HO : Hid (wr.ownsRow w5.heap.size 69 32 (.slice xa x xc) x (hsc ((tlH (ldH k) 0 I W).take x))) := ho
              have HNI : Hid (Nw w5 wr) := hnw
              have bi := (hnw.block _ l5 (fun f => f)).trans B5.out
              have BI : Hid (wr.heap[tb]? = some (.cells #[.int .u8 0, .int .u64 (I : Int), .int .i64 (W : Int)] 120)) := bi
              obtain ⟨f0, f1, f2⟩ := cell3 bi
              have lti := heap_lt bi
              clear ho hnw bi
              by_cases hxl : x < W
              · obtain ⟨z, hz⟩ : ∃ z, z = 256 * I + x := ⟨_, rfl⟩
                have hzI : (I : Int) * 256 + (x : Int) = (z : Int) := by omega
                obtain ⟨Y, hY⟩ : ∃ Y, Y = z + 1 := ⟨_, rfl⟩
                have hYI : (z : Int) + 1 = (Y : Int) := by omega
                have hbd : I ≤ 1000 ∧ z ≤ 1000 ∧ z ≤ 1000 ∧ Y ≤ 2000 := by omega
                have hxi : (x : Int) < (W : Int) := by omega
                have QR := QTR.out
                have HR1 := HMT.out x hxl
                have QR1 : Hid (∀ V, Nw wv V → Calls Tryz.prog 52 #[.pointer (some ⟨lb, 0, none⟩), sp z Y] V fun e w' => e = .returned (.tuple #[.agg (hbs (mth (sbl (ldS k) z Y))), .nilIface]) ∧ Nw V w') := fun V nV => by
                  have := QTR.out V x nV hxl
                  rw [← hz] at this
                  rw [Nat.mul_one, ← hY] at this
                  exact this
                rw [← hz] at HR1
                rw [Nat.mul_one, ← hY] at HR1
                have HS : Hid (hsc ((tlH (ldH k) 0 I W).take (x + 1)) = hsc ((tlH (ldH k) 0 I W).take x) ++ (hbs (mth (sbl (ldS k) z Y))).toList) := by show _ = _; rw [take_snoc _ _ _ HR1, hsc_app, hsc_one]
                have hRl : (hbs (mth (sbl (ldS k) z Y))).size = 32 := by rw [hbs_size, mth_len]
                obtain ⟨R, hR⟩ : ∃ R, R = mth (sbl (ldS k) z Y) := ⟨_, rfl⟩
                rw [← hR] at QR1 HS hRl
                clear hR HR1 QR hz hY
                go_wp2_with fail
                refine (QR1.out _ (by repeat first | with_reducible exact (N5.out.tr HNI.out) | with_reducible refine Fr.alloc ?_ _ | with_reducible refine Fr.drew ?_ | (with_reducible refine Fr.setCell ?_ _ _ (fun h => ?_); rotate_left; focus (simp only at h; omega)))).mono ?_
                rintro e w6 ⟨rfl, n6⟩
                have N6 : Hid (Nw wr w6) := Nw.tr (by repeat first | with_reducible exact nwr wr | with_reducible refine Fr.alloc ?_ _ | with_reducible refine Fr.drew ?_ | (with_reducible refine Fr.setCell ?_ _ _ (fun h => ?_); rotate_left; focus (simp only at h; omega))) n6
                clear n6
                go_wp2_with first
                  | (refine wp_store_agg rfl (.tmp 19) (.tmp 97) 69 32 rfl Tryz.sizeOf69 w6.heap.size 0 rfl z32 69 (by rw [← z32_h]; exact heap_new _ _) (hbs R) rfl hRl (hbs_one _) (by decide) (hbs R) (by rw [dropA z32_size]; simp) ?_; intro w7 j7 f7 z7; clear z7; have N7 : Hid (Nw wr w7) := N6.out.tr ((nwa w6 _).trans f7 (fun q hq e => by omega)); have J7 : Hid (w7.heap[w6.heap.size]? = some (.cells (hbs R) 69)) := j7; have own2 : Hid ((w7.alloc (.cells (hbs R) 69)).ownsRow w5.heap.size 69 32 (.slice xa x xc) x (hsc ((tlH (ldH k) 0 I W).take x))) := (ownsRow_keep HO.out (fun g hg => N7.out.block g (HO.out.lt g hg).2 (fun f => f))).alloc _; clear f7 j7)
                  | refine wple_load_at rfl (.tmp 19) 69 32 rfl Tryz.isAgg69 Tryz.sizeOf69 w6.heap.size 0 rfl (hbs R) hRl (fun j _ => by rw [Nat.zero_add]; exact cell_of J7.out j) ?_
                  | refine wp_build1 rfl (.tmp 102) rfl (hbs R) rfl hRl ?_
                  | (at_builtin; refine wpList_two _ rfl (.tmp 101) (.tmp 103) 45 rfl w5.heap.size 69 i0 (.agg z32) 32 32 Tryz.underlying45 HI0.out.1 HI0.out.2.1 HI0.out.2.2.1 HI0.out.2.2.2 z32_size (by decide) (.slice xa x xc) x (hsc ((tlH (ldH k) 0 I W).take x)) rfl own2.out ⟨w7.heap.size, 0, none⟩ 1 1 (hbs R).toList rfl (by simp [hRl]) (hash_new _ _ _) (hbs_one _) (by unfold maxLen; omega) (by omega) (by have := HW.out.size; have := N5.out.size; have := HNI.out.size; have := N7.out.size; simp; omega) ?_; intro v' w8 o8 t8; have N8 : Hid (Nw w5 w8) := ((HNI.out.tr N7.out).alloc _).trans t8.fr (fun j hj q => by have h1 := (HO.out.lt j q).1; omega); rw [← HS.out] at o8; obtain ⟨ya, yc, rfl⟩ := ownsRow_form o8; have O8 : Hid (w8.ownsRow w5.heap.size 69 32 (.slice ya (x + 1) yc) (x + 1) (hsc ((tlH (ldH k) 0 I W).take (x + 1)))) := o8; clear o8 t8)
                exact ⟨⟨x + 1, ya, yc, by omega, rfl, by go_num, O8.out, N8.out⟩, by simp [intOf]; omega⟩
              · obtain rfl : x = W := by omega
                have hxn : ¬ (x : Int) < (x : Int) := by omega
                have O6 := HO.out
                have htk : (tlH (ldH k) 0 I x).take x = tlH (ldH k) 0 I x := List.take_of_length_le (by rw [HTLL.out]; exact Nat.le_refl _)
                rw [htk] at O6
                have HO6 : Hid (wr.ownsRow w5.heap.size 69 32 (.slice xa x xc) x (hsc (tlH (ldH k) 0 I x))) := O6
                clear O6 htk
                go_wp2_with fail
                refine (QPA.out _ (by repeat first | with_reducible exact (N5.out.tr HNI.out) | with_reducible refine Fr.alloc ?_ _ | with_reducible refine Fr.drew ?_ | (with_reducible refine Fr.setCell ?_ _ _ (fun h => ?_); rotate_left; focus (simp only at h; omega)))).mono ?_
                rintro e w6 ⟨rfl, n6⟩
                have N6 : Hid (Nw wv w6) := (N5.out.tr HNI.out).tr (Nw.tr (by repeat first | with_reducible exact nwr wr | with_reducible refine Fr.alloc ?_ _ | with_reducible refine Fr.drew ?_ | (with_reducible refine Fr.setCell ?_ _ _ (fun h => ?_); rotate_left; focus (simp only at h; omega))) n6)
                have NI6 : Hid (Nw wr w6) := Nw.tr (by repeat first | with_reducible exact nwr wr | with_reducible refine Fr.alloc ?_ _ | with_reducible refine Fr.drew ?_ | (with_reducible refine Fr.setCell ?_ _ _ (fun h => ?_); rotate_left; focus (simp only at h; omega))) n6
                clear n6
                go_wp2_with fail
                refine (QEN.out _ _ _ _ (ownsRow_keep HO6.out (fun g hg => NI6.out.block g (HO6.out.lt g hg).2 (fun f => f)))).mono ?_
                rintro e w7 ⟨rfl, n7⟩
                have N7 : Hid (Nw wv w7) := N6.out.tr n7
                clear n7
                go_wp2_with fail
                refine (QPU.out _ N7.out).mono ?_
                rintro e w8 ⟨rfl, l8, f8⟩
                have L8 : Hid (Lt w1 w8 b bm g (T + 1) (putT M nB tB)) := l8
                have F8 : Hid (Fr (fun k => k = b ∨ k = bm) wv w8) := (N7.out.mono (fun _ _ f => f.elim)).trans f8 (fun _ _ q => q)
                have HH8 : Hid (HldT (ldH k) (putT M nB tB) (ts.take (j + 1))) := by
                  rw [HNB.out, HTB.out, HTK.out]
                  exact HHT.out.put (by rw [ldH_len]; exact HT.out.take j) ⟨0, I, x⟩ (by rw [ldH_len]; exact HT1.out)
                clear l8 f8
                go_wp2
                exact ⟨⟨j + 1, T + 1, putT M nB tB, by omega, by omega, by go_num, L8.out, HH8.out, HF.out.trans F8.out (fun _ _ q => q)⟩, by simp [intOf]; omega⟩
          · have hpw : 2 ^ (8 * 1) = 256 := by decide
            rw [hpw] at QTR HMT hIk
            have hW1 : W ≤ 256 := hW256
            go_upto_region 16 with fail
            have HTL := heap_new wv (.cells #[.int .u8 1, .int .u64 (I : Int), .int .i64 (W : Int)] 120)
            refine gen_w (fun V => Nw wv V ∧ wv.heap.size < V.heap.size ∧ V.heap[wv.heap.size]? = some (.cells #[.int .u8 1, .int .u64 (I : Int), .int .i64 (W : Int)] 120)) ⟨(by repeat first | with_reducible exact Fr.refl _ _ | with_reducible refine Fr.alloc ?_ _ | with_reducible refine Fr.drew ?_ | (with_reducible refine Fr.setCell ?_ _ _ (fun h => ?_); rotate_left; focus (simp only at h; omega))), by simp, by (repeat first | with_reducible exact HTL | with_reducible exact heap_new _ _ | with_reducible exact heap_next _ _ _ | with_reducible exact heap_third _ _ _ _ | with_reducible refine hp_dr ?_ | (with_reducible refine hp_ne ?_ ?_; focus omega) | (with_reducible refine hp_al ?_ ?_; focus (first | omega | (simp <;> omega))) | with_reducible apply hp_set) <;> rfl⟩ ?_
            rintro w5 ⟨n5, l5, b5⟩
            obtain ⟨f0, f1, f2⟩ := cell3 b5
            have N5 : Hid (Nw wv w5) := n5
            have B5 : Hid (w5.heap[wv.heap.size]? = some (.cells #[.int .u8 1, .int .u64 (I : Int), .int .i64 (W : Int)] 120)) := b5
            clear n5 b5 HTL y0 y1 y2
            go_wp2_with fail
            obtain ⟨tb, htb⟩ : ∃ q, q = wv.heap.size := ⟨_, rfl⟩
            rw [← htb] at f0 f1 f2 l5 B5 ⊢
            clear htb f0 f1 f2
            go_loopw [16, 17] (fun r i wr => ∃ (x : Nat) (va : Option Addr) (vc : Nat), x ≤ W ∧ r = .slice va x vc ∧ i = .int .i64 x ∧ wr.ownsRow w5.heap.size 69 32 (.slice va x vc) x (hsc ((tlH (ldH k) 1 I W).take x)) ∧ Nw w5 wr) (fun _ i _ => W - (intOf i).toNat)
            case atStart => exact ⟨0, none, 0, by omega, rfl, rfl, World.ownsRow_nil _ _ _ _, Fr.refl _ _⟩
            case round =>
              obtain ⟨x, xa, xc, hx, rfl, rfl, ho, hnw⟩ := hrel
              have HO : Hid (wr.ownsRow w5.heap.size 69 32 (.slice xa x xc) x (hsc ((tlH (ldH k) 1 I W).take x))) := ho
              have HNI : Hid (Nw w5 wr) := hnw
              have bi := (hnw.block _ l5 (fun f => f)).trans B5.out
              have BI : Hid (wr.heap[tb]? = some (.cells #[.int .u8 1, .int .u64 (I : Int), .int .i64 (W : Int)] 120)) := bi
              obtain ⟨f0, f1, f2⟩ := cell3 bi
              have lti := heap_lt bi
              clear ho hnw bi
              by_cases hxl : x < W
              · obtain ⟨z, hz⟩ : ∃ z, z = 256 * I + x := ⟨_, rfl⟩
                have hzI : (I : Int) * 256 + (x : Int) = (z : Int) := by omega
                obtain ⟨X, HX⟩ : ∃ X, X = z * 256 := ⟨_, rfl⟩
                have hxI : (z : Int) * 256 = (X : Int) := by omega
                obtain ⟨Y, hY⟩ : ∃ Y, Y = X + 256 := ⟨_, rfl⟩
                have hYI : (X : Int) + 256 = (Y : Int) := by omega
                have hbd : I ≤ 1000 ∧ z ≤ 1000 ∧ X ≤ 1000 ∧ Y ≤ 2000 := by omega
                have hxi : (x : Int) < (W : Int) := by omega
                have QR := QTR.out
                have HR1 := HMT.out x hxl
                have QR1 : Hid (∀ V, Nw wv V → Calls Tryz.prog 52 #[.pointer (some ⟨lb, 0, none⟩), sp X Y] V fun e w' => e = .returned (.tuple #[.agg (hbs (mth (sbl (ldS k) X Y))), .nilIface]) ∧ Nw V w') := fun V nV => by
                  have := QTR.out V x nV hxl
                  rw [← hz] at this
                  rw [← HX, ← hY] at this
                  exact this
                rw [← hz] at HR1
                rw [← HX, ← hY] at HR1
                have HS : Hid (hsc ((tlH (ldH k) 1 I W).take (x + 1)) = hsc ((tlH (ldH k) 1 I W).take x) ++ (hbs (mth (sbl (ldS k) X Y))).toList) := by show _ = _; rw [take_snoc _ _ _ HR1, hsc_app, hsc_one]
                have hRl : (hbs (mth (sbl (ldS k) X Y))).size = 32 := by rw [hbs_size, mth_len]
                obtain ⟨R, hR⟩ : ∃ R, R = mth (sbl (ldS k) X Y) := ⟨_, rfl⟩
                rw [← hR] at QR1 HS hRl
                clear hR HR1 QR hz hY HX
                go_wp2_with fail
                refine (QR1.out _ (by repeat first | with_reducible exact (N5.out.tr HNI.out) | with_reducible refine Fr.alloc ?_ _ | with_reducible refine Fr.drew ?_ | (with_reducible refine Fr.setCell ?_ _ _ (fun h => ?_); rotate_left; focus (simp only at h; omega)))).mono ?_
                rintro e w6 ⟨rfl, n6⟩
                have N6 : Hid (Nw wr w6) := Nw.tr (by repeat first | with_reducible exact nwr wr | with_reducible refine Fr.alloc ?_ _ | with_reducible refine Fr.drew ?_ | (with_reducible refine Fr.setCell ?_ _ _ (fun h => ?_); rotate_left; focus (simp only at h; omega))) n6
                clear n6
                go_wp2_with first
                  | (refine wp_store_agg rfl (.tmp 19) (.tmp 97) 69 32 rfl Tryz.sizeOf69 w6.heap.size 0 rfl z32 69 (by rw [← z32_h]; exact heap_new _ _) (hbs R) rfl hRl (hbs_one _) (by decide) (hbs R) (by rw [dropA z32_size]; simp) ?_; intro w7 j7 f7 z7; clear z7; have N7 : Hid (Nw wr w7) := N6.out.tr ((nwa w6 _).trans f7 (fun q hq e => by omega)); have J7 : Hid (w7.heap[w6.heap.size]? = some (.cells (hbs R) 69)) := j7; have own2 : Hid ((w7.alloc (.cells (hbs R) 69)).ownsRow w5.heap.size 69 32 (.slice xa x xc) x (hsc ((tlH (ldH k) 1 I W).take x))) := (ownsRow_keep HO.out (fun g hg => N7.out.block g (HO.out.lt g hg).2 (fun f => f))).alloc _; clear f7 j7)
                  | refine wple_load_at rfl (.tmp 19) 69 32 rfl Tryz.isAgg69 Tryz.sizeOf69 w6.heap.size 0 rfl (hbs R) hRl (fun j _ => by rw [Nat.zero_add]; exact cell_of J7.out j) ?_
                  | refine wp_build1 rfl (.tmp 102) rfl (hbs R) rfl hRl ?_
                  | (at_builtin; refine wpList_two _ rfl (.tmp 101) (.tmp 103) 45 rfl w5.heap.size 69 i0 (.agg z32) 32 32 Tryz.underlying45 HI0.out.1 HI0.out.2.1 HI0.out.2.2.1 HI0.out.2.2.2 z32_size (by decide) (.slice xa x xc) x (hsc ((tlH (ldH k) 1 I W).take x)) rfl own2.out ⟨w7.heap.size, 0, none⟩ 1 1 (hbs R).toList rfl (by simp [hRl]) (hash_new _ _ _) (hbs_one _) (by unfold maxLen; omega) (by omega) (by have := HW.out.size; have := N5.out.size; have := HNI.out.size; have := N7.out.size; simp; omega) ?_; intro v' w8 o8 t8; have N8 : Hid (Nw w5 w8) := ((HNI.out.tr N7.out).alloc _).trans t8.fr (fun j hj q => by have h1 := (HO.out.lt j q).1; omega); rw [← HS.out] at o8; obtain ⟨ya, yc, rfl⟩ := ownsRow_form o8; have O8 : Hid (w8.ownsRow w5.heap.size 69 32 (.slice ya (x + 1) yc) (x + 1) (hsc ((tlH (ldH k) 1 I W).take (x + 1)))) := o8; clear o8 t8)
                exact ⟨⟨x + 1, ya, yc, by omega, rfl, by go_num, O8.out, N8.out⟩, by simp [intOf]; omega⟩
              · obtain rfl : x = W := by omega
                have hxn : ¬ (x : Int) < (x : Int) := by omega
                have O6 := HO.out
                have htk : (tlH (ldH k) 1 I x).take x = tlH (ldH k) 1 I x := List.take_of_length_le (by rw [HTLL.out]; exact Nat.le_refl _)
                rw [htk] at O6
                have HO6 : Hid (wr.ownsRow w5.heap.size 69 32 (.slice xa x xc) x (hsc (tlH (ldH k) 1 I x))) := O6
                clear O6 htk
                go_wp2_with fail
                refine (QPA.out _ (by repeat first | with_reducible exact (N5.out.tr HNI.out) | with_reducible refine Fr.alloc ?_ _ | with_reducible refine Fr.drew ?_ | (with_reducible refine Fr.setCell ?_ _ _ (fun h => ?_); rotate_left; focus (simp only at h; omega)))).mono ?_
                rintro e w6 ⟨rfl, n6⟩
                have N6 : Hid (Nw wv w6) := (N5.out.tr HNI.out).tr (Nw.tr (by repeat first | with_reducible exact nwr wr | with_reducible refine Fr.alloc ?_ _ | with_reducible refine Fr.drew ?_ | (with_reducible refine Fr.setCell ?_ _ _ (fun h => ?_); rotate_left; focus (simp only at h; omega))) n6)
                have NI6 : Hid (Nw wr w6) := Nw.tr (by repeat first | with_reducible exact nwr wr | with_reducible refine Fr.alloc ?_ _ | with_reducible refine Fr.drew ?_ | (with_reducible refine Fr.setCell ?_ _ _ (fun h => ?_); rotate_left; focus (simp only at h; omega))) n6
                clear n6
                go_wp2_with fail
                refine (QEN.out _ _ _ _ (ownsRow_keep HO6.out (fun g hg => NI6.out.block g (HO6.out.lt g hg).2 (fun f => f)))).mono ?_
                rintro e w7 ⟨rfl, n7⟩
                have N7 : Hid (Nw wv w7) := N6.out.tr n7
                clear n7
                go_wp2_with fail
                refine (QPU.out _ N7.out).mono ?_
                rintro e w8 ⟨rfl, l8, f8⟩
                have L8 : Hid (Lt w1 w8 b bm g (T + 1) (putT M nB tB)) := l8
                have F8 : Hid (Fr (fun k => k = b ∨ k = bm) wv w8) := (N7.out.mono (fun _ _ f => f.elim)).trans f8 (fun _ _ q => q)
                have HH8 : Hid (HldT (ldH k) (putT M nB tB) (ts.take (j + 1))) := by
                  rw [HNB.out, HTB.out, HTK.out]
                  exact HHT.out.put (by rw [ldH_len]; exact HT.out.take j) ⟨1, I, x⟩ (by rw [ldH_len]; exact HT1.out)
                clear l8 f8
                go_wp2
                exact ⟨⟨j + 1, T + 1, putT M nB tB, by omega, by omega, by go_num, L8.out, HH8.out, HF.out.trans F8.out (fun _ _ q => q)⟩, by simp [intOf]; omega⟩
        · obtain rfl : j = N := by omega
          have hjn : ¬ (j : Int) < (j : Int) := by omega
          have hT8 : ts.take j = allT k 8 := by rw [← HTS.out]; exact List.take_of_length_le (by rw [HN.out]; exact Nat.le_refl _)
          rw [hT8] at HHT
          clear hT8
          go_wp2_with fail
          go_quiet (fail)
          have ND : Nw wv (wv.drewN nq) := (Fr.refl _ _).drewN nq
          go_wp2
          refine bodyPost_ret (v := .tuple #[.pointer (some ⟨lb, 0, none⟩), .pointer (some ⟨b, 0, none⟩), .bool true]) (by simp [results, Tryz.results12]) rfl ⟨lb, w.heap.size + 1, v, b, bm, g, T, M, rfl, by rw [HLB.out]; exact Nat.le_refl _, HLG.out.nw ND, ?_, hldT_all (by rw [ldH_len]; omega) (by rw [ldH_len]; exact HHT.out), by omega, ⟨HNE.out.1, HNE.out.2, HNG.out⟩, fun q hq => ⟨(HLT.out.rowS (by decide) HLG.out.own q hq).1, (HLT.out.rowS (by decide) HLG.out.own q hq).2, HSP.out q hq⟩, HW.out.tr ND⟩
          have h := HLT.out.nw ND
          have hs := N1.out.size
          exact ⟨by have := h.1; omega, by have := h.2.1; omega, ⟨by have := h.2.2.1.1; omega, h.2.2.1.2⟩, h.2.2.2⟩
end Go.Proofs.YtjkhcplnedcmeaaGreatDoor
