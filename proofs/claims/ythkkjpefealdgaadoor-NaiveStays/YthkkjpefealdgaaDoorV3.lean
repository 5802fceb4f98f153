/- NaiveStays: the walk. -/
import Derived.Test.YthkkjpefealdgaaDoorG4
import Derived.Test.YthkkjpefealdgaaDoorV1
namespace Go.Proofs.YthkkjpefealdgaaDoor
open Go.RowKit
set_option linter.unusedVariables false
set_option linter.unusedSimpArgs false

set_option maxRecDepth 100000 in
set_option maxHeartbeats 3000000 in
theorem stays_any (p r : Option Addr) (c d : Nat) (ss ms : List ByteArray) (x y : Nat) (w : World) (hp : Strs w p ss) (hx : ∀ x ∈ ss, x.size ≤ 140737488355328) (hl : ss.length ≤ 140737488355328) (hr : Strs w r ms) (hm : ∀ x ∈ ms, x.size ≤ 140737488355328) (hlm : ms.length ≤ 140737488355328) (hx64 : x < 18446744073709551616) (hy64 : y < 18446744073709551616) (hL : Laid w) {B : Nat} {a : Nat → Addr} (hS : Sent B w a) :
    Calls Tryd.prog 5 #[.slice p ss.length c, .slice r ms.length d, .int .u64 (x : Int), .int .u64 (y : Int)] w fun e w' => e = .returned (.bool true) ∧ Nw w w' := by
  have HL : Hid (Laid w) := hL
  have HS : Hid (Sent B w a) := hS
  have QZ : Hid (∀ W, Nw w W → Calls Tryd.prog 8 #[.slice p ss.length c] W fun e w' => (∃ m : Nat, e = .returned (.int .i64 (m : Int)) ∧ m < 4611686018427387904 ∧ (m ≤ 1048576 → m = tsz ss)) ∧ w' = W) := fun W hW => tsize_any p c ss W (hp.nw hW) hx hl
  have QZ2 : Hid (∀ W, Nw w W → Calls Tryd.prog 8 #[.slice r ms.length d] W fun e w' => (∃ m : Nat, e = .returned (.int .i64 (m : Int)) ∧ m < 4611686018427387904 ∧ (m ≤ 1048576 → m = tsz ms)) ∧ w' = W) := fun W hW => tsize_any r d ms W (hr.nw hW) hm hlm
  have QG : Hid (∀ W, Nw w W → Calls Tryd.prog 9 #[.slice p ss.length c] W fun e w' => ∃ b base v, e = .returned (.tuple #[.pointer (some ⟨b, 0, none⟩), .int .i64 ((kp ss).length : Int), .bool true]) ∧ Lg w' b base v (kp ss) ∧ W.heap.size ≤ b ∧ Nw W w') := fun W hW => grown_any p c ss W (hp.nw hW) hx hl (hS.fr hW (fun _ _ f => f))
  have QV : Hid (∀ W, Nw w W → Calls Tryd.prog 12 #[] W fun e w' => e = .returned (.bool true) ∧ Nw W w') := fun W hW => lives_any W (hL.nw hW) (hS.fr hW (fun _ _ f => f))
  have HR : Hid (Strs w r ms) := hr
  have HM : Hid (∀ x ∈ ms, x.size ≤ 140737488355328) := hm
  clear hL hS hp hx hr hm
  have hn63 : (ss.length : Int) ≤ 140737488355328 := by omega
  have hm63 : (ms.length : Int) ≤ 140737488355328 := by omega
  obtain ⟨ln, hn⟩ : ∃ n, n = ss.length := ⟨_, rfl⟩
  rw [← hn] at QZ QG hl hn63 ⊢
  clear hn
  obtain ⟨lm, hlm2⟩ : ∃ n, n = ms.length := ⟨_, rfl⟩
  rw [← hlm2] at QZ2 hlm hm63 ⊢
  have HLM : Hid (lm = ms.length) := hlm2
  clear hlm2
  go_enter Tryd.func5, Tryd.ntmps5
  go_wp2_with fail
  refine (QZ.out _ (nwr w)).mono ?_
  rintro e1 w1 ⟨⟨m1, rfl, hm1, _⟩, h1⟩
  have N1 : Hid (Nw w w1) := by rw [h1]; exact nwr w
  clear h1 QZ
  go_wp2_with fail
  refine (QZ2.out _ N1.out).mono ?_
  rintro e1 w2 ⟨⟨m2, rfl, hm2, _⟩, h1⟩
  have N2 : Hid (Nw w w2) := by rw [h1]; exact N1.out
  clear h1 QZ2 N1
  have q2 := beyond_any (some ⟨w2.heap.size, 0, none⟩) 4 [ln, lm, m1, m2] _ (four_int w2 ln lm m1 m2) (getD_all (by intro k hk; simp only [List.mem_cons, List.not_mem_nil, or_false] at hk; rcases hk with rfl | rfl | rfl | rfl <;> omega)) (by simp)
  go_wp2_with fail
  refine q2.mono ?_
  rintro e2 w3 ⟨rfl, h2⟩
  have N3 : Hid (Nw w w3) := by rw [h2]; exact N2.out.alloc _
  clear q2 h2 N2
  by_cases hbig : 1048576 < [ln, lm, m1, m2].sum
  · rw [decide_eq_true hbig]
    go_wp2
    go_ret
    exact ⟨rfl, N3.out⟩
  rw [decide_eq_false hbig]
  clear hbig
  go_wp2_with fail
  refine (QG.out _ N3.out).mono ?_
  rintro e3 w4 ⟨b, base, v, rfl, l4, hb4, n4⟩
  clear QG
  obtain ⟨L, hLd⟩ : ∃ L, L = kp ss := ⟨_, rfl⟩
  rw [← hLd] at l4 ⊢
  clear hLd
  have L4 : Hid (Lg w4 b base v L) := l4
  have N4 : Hid (Nw w w4) := N3.out.tr n4
  have hlen := l4.len
  have HBW : Hid (w.heap.size ≤ b ∧ b < w4.heap.size ∧ b < base) := ⟨Nat.le_trans N3.out.size hb4, heap_lt l4.blk, l4.lt.1⟩
  have HG4 : Hid (∀ g, v.ownBlock = some g → g < w4.heap.size) := fun g hg => (l4.own.lt g hg).2
  clear l4 n4 N3 hb4
  obtain ⟨n, hnd⟩ : ∃ n, n = L.length := ⟨_, rfl⟩
  have HND : Hid (n = L.length) := hnd
  have hn64 : n < 18446744073709551616 := by omega
  rw [← hnd] at hlen ⊢
  clear hnd
  have QT : Hid (∀ W V K, Lg W b base V K → Nw w W → Calls Tryd.prog 25 #[.pointer (some ⟨b, 0, none⟩), .int .u64 (n : Int)] W fun e w' => e = .returned (treeA K a 0 n) ∧ Nw W w') := fun W V K hK hW => Root_any hK n hn64 (HL.out.nw hW) (HS.out.fr hW (fun _ _ f => f))
  have QP : Hid (∀ W V K, Lg W b base V K → Nw w W → Calls Tryd.prog 18 #[.pointer (some ⟨b, 0, none⟩), .int .u64 (x : Int), .int .u64 (n : Int)] W fun e w' => ∃ v, e = .returned (.tuple #[v, ev a (decide ((x < n) ∧ n ≤ K.length))]) ∧ Kpt W w' v ((TP K x n).map (hst K)) ∧ Nw W w') := fun W V K hK hW => Path_k hK x n hx64 hn64 (HL.out.nw hW) (HS.out.fr hW (fun _ _ f => f))
  have QR : Hid (∀ W V K, Lg W b base V K → Nw w W → Calls Tryd.prog 19 #[.pointer (some ⟨b, 0, none⟩), .int .u64 (x : Int), .int .u64 (n : Int)] W fun e w' => ∃ v, e = .returned (.tuple #[v, ev a (decide ((0 < x ∧ x ≤ n) ∧ n ≤ K.length))]) ∧ Kpt W w' v ((TR K x n).map (hst K)) ∧ Nw W w') := fun W V K hK hW => Proof_k hK x n hx64 hn64 (HL.out.nw hW) (HS.out.fr hW (fun _ _ f => f))
  have QB : Hid (∀ W V K, Lg W b base V K → Nw w W → Calls Tryd.prog 20 #[.pointer (some ⟨b, 0, none⟩), .int .u64 (x : Int), .int .u64 (y : Int), .int .u64 (n : Int)] W fun e w' => ∃ v, e = .returned (.tuple #[v, ev a (decide ((x < y ∧ y ≤ n) ∧ n ≤ K.length))]) ∧ Kpt W w' v ((TB K x y n).map (hst K)) ∧ Nw W w') := fun W V K hK hW => Batch_k hK x y n hx64 hy64 hn64 (HL.out.nw hW) (HS.out.fr hW (fun _ _ f => f))
  have QA : Hid (∀ W V K s, Lg W b base V K → Nw w W → s.size < 9223372036854775807 → Calls Tryd.prog 26 #[.pointer (some ⟨b, 0, none⟩), .string s] W fun e w' => (∃ x y, e = .returned (.tuple #[x, y])) ∧ ∃ v', Lg w' b base v' (kstep K s) ∧ Stays W V v' ∧ Fr (fun k => k = b ∨ V.ownBlock = some k) W w') := fun W V K s hK hW hs => append_k hK s hs (HS.out.fr hW (fun _ _ f => f))
  clear HL HS
  have QP1 : Hid (∀ W, Lg W b base v L → Nw w W → _) := fun W h1 h2 => QP.out W v L h1 h2
  have QR1 : Hid (∀ W, Lg W b base v L → Nw w W → _) := fun W h1 h2 => QR.out W v L h1 h2
  have QB1 : Hid (∀ W, Lg W b base v L → Nw w W → _) := fun W h1 h2 => QB.out W v L h1 h2
  obtain ⟨l1, hl1⟩ : ∃ l, l = (TP L x n).map (hst L) := ⟨_, rfl⟩
  obtain ⟨l2, hl2⟩ : ∃ l, l = (TR L x n).map (hst L) := ⟨_, rfl⟩
  obtain ⟨l3, hl3⟩ : ∃ l, l = (TB L x y n).map (hst L) := ⟨_, rfl⟩
  rw [← hl1] at QP1
  rw [← hl2] at QR1
  rw [← hl3] at QB1
  have E1 : Hid (l1 = (TP L x n).map (hst L)) := hl1
  have E2 : Hid (l2 = (TR L x n).map (hst L)) := hl2
  have E3 : Hid (l3 = (TB L x y n).map (hst L)) := hl3
  clear hl1 hl2 hl3
  obtain ⟨o1, ho1⟩ : ∃ o, o = decide ((x < n) ∧ n ≤ L.length) := ⟨_, rfl⟩
  obtain ⟨o2, ho2⟩ : ∃ o, o = decide ((0 < x ∧ x ≤ n) ∧ n ≤ L.length) := ⟨_, rfl⟩
  obtain ⟨o3, ho3⟩ : ∃ o, o = decide ((x < y ∧ y ≤ n) ∧ n ≤ L.length) := ⟨_, rfl⟩
  have O1 : Hid (o1 = decide ((x < n) ∧ n ≤ L.length)) := ho1
  have O2 : Hid (o2 = decide ((0 < x ∧ x ≤ n) ∧ n ≤ L.length)) := ho2
  have O3 : Hid (o3 = decide ((x < y ∧ y ≤ n) ∧ n ≤ L.length)) := ho3
  rw [← ho1] at QP1
  rw [← ho2] at QR1
  rw [← ho3] at QB1
  clear ho1 ho2 ho3
  have QT4 := QT.out w4 v L L4.out N4.out
  rw [treeA, if_pos ⟨Nat.zero_le _, by rw [HND.out]; exact Nat.le_refl _⟩] at QT4
  have A32 : (mth (sbl L 0 n)).length = 32 := mth_len _
  obtain ⟨A, hA⟩ : ∃ A, A = mth (sbl L 0 n) := ⟨_, rfl⟩
  rw [← hA] at QT4 A32
  have HA : Hid (A = mth (sbl L 0 n)) := hA
  have HA32 : Hid (A.length = 32) := A32
  have hAs : (hbs A).size = 32 := by rw [hbs_size, A32]
  clear hA A32
  go_wp2_with fail
  refine QT4.mono ?_
  rintro e5 w5 ⟨rfl, n5⟩
  have M5 : Hid (Nw w4 w5) := n5
  clear QT4 n5
  go_wp2_with (refine wp_store_agg rfl (.tmp 13) (.tmp 55) 32 32 rfl Tryd.sizeOf32 w5.heap.size 0 rfl _ 32 (heap_new _ _) (hbs A) rfl hAs (hbs_one _) (by decide) (hbs A) (by simp) ?_; intro w6 j6 f6 _; have M6 : Hid (Nw w4 w6) := (M5.out.alloc _).trans f6 (fun k hk q => by have := M5.out.size; omega); have J6 : Hid (w6.heap[w5.heap.size]? = some (.cells (hbs A) 32 (0, 0))) := j6; clear j6 f6)
  have h45 : w4.heap.size ≤ w5.heap.size := M5.out.size
  obtain ⟨b5, hb5⟩ : ∃ b5, b5 = w5.heap.size := ⟨_, rfl⟩
  rw [← hb5] at J6 h45 ⊢
  have H45 : Hid (w4.heap.size ≤ b5) := h45
  clear hb5 M5 h45
  refine (QP1.out w6 (L4.out.nw M6.out) (N4.out.tr M6.out)).mono ?_
  rintro e7 w7 ⟨v1, rfl, k1, n7⟩
  have K1 : Hid (Kpt w6 w7 v1 l1) := k1
  have M7 : Hid (Nw w6 w7) := n7
  obtain ⟨a1, c1, rfl⟩ := k1.here.form
  clear k1 n7
  go_wp2_with fail
  refine (QR1.out w7 (L4.out.nw (M6.out.tr M7.out)) (N4.out.tr (M6.out.tr M7.out))).mono ?_
  rintro e8 w8 ⟨v2, rfl, k2, n8⟩
  have K2 : Hid (Kpt w7 w8 v2 l2) := k2
  have M8 : Hid (Nw w7 w8) := n8
  obtain ⟨a2, c2, rfl⟩ := k2.here.form
  clear k2 n8
  go_wp2_with fail
  refine (QB1.out w8 (L4.out.nw (M6.out.tr (M7.out.tr M8.out))) (N4.out.tr (M6.out.tr (M7.out.tr M8.out)))).mono ?_
  rintro e9 w9 ⟨v3, rfl, k3, n9⟩
  have K3 : Hid (Kpt w8 w9 v3 l3) := k3
  have M9 : Hid (Nw w8 w9) := n9
  obtain ⟨a3, c3, rfl⟩ := k3.here.form
  clear k3 n9
  have MM : Hid (Nw w4 w9) := M6.out.tr (M7.out.tr (M8.out.tr M9.out))
  have L9 : Hid (Lg w9 b base v L) := L4.out.nw MM.out
  have N9 : Hid (Nw w w9) := N4.out.tr MM.out
  go_wp2_with fail
  go_loopw [21] (fun i wr => ∃ (k : Nat) (V : Value), k ≤ lm ∧ i = .int .i64 k ∧ Lg wr b base V (kq L (ms.take k)) ∧ Nw w wr ∧ Fr (fun k => k < w4.heap.size) w9 wr ∧ (∀ g, V.ownBlock = some g → g < w4.heap.size ∨ w9.heap.size ≤ g)) (fun i _ => lm - (intOf i).toNat)
  case atStart => exact ⟨0, v, by omega, rfl, L9.out, N9.out, Fr.refl _ _, fun g hg => .inl (HG4.out g hg)⟩
  case round =>
    obtain ⟨k, V, hk, rfl, gL, gN, gF, gV⟩ := hrel
    have GL : Hid (Lg wr b base V (kq L (ms.take k))) := gL
    have GN : Hid (Nw w wr) := gN
    have GF : Hid (Fr (fun k => k < w4.heap.size) w9 wr) := gF
    have GV : Hid (∀ g, V.ownBlock = some g → g < w4.heap.size ∨ w9.heap.size ≤ g) := gV
    clear gL gN gF gV
    by_cases hlt : k < lm
    · obtain ⟨s, hs⟩ : ∃ s, ms[k]? = some s := ⟨_, List.getElem?_eq_getElem (by rw [← HLM.out]; exact hlt)⟩
      have hss := HM.out s (List.mem_of_getElem? hs)
      obtain ⟨g, o, hp, g1⟩ := HR.out k s hs
      subst hp
      have c1' := GN.out.cellOf g1
      have lg := World.block_lt_of_cell? _ _ c1'
      simp only at lg
      have HK : Hid (kq L (ms.take (k + 1)) = kstep (kq L (ms.take k)) s) := kq_step hs
      have hki : (k : Int) < (lm : Int) := by omega
      have q := QA.out wr V (kq L (ms.take k)) s GL.out GN.out (by omega)
      clear hs g1
      go_wp2_with fail
      refine q.mono ?_
      rintro e wz ⟨⟨xx, yy, rfl⟩, V', lz, sz, fz⟩
      have R1 : Hid (Lg wz b base V' (kq L (ms.take (k + 1)))) := by rw [HK.out]; exact lz
      have R2 : Hid (Nw w wz) := GN.out.trans fz (fun j hj h => by
        have := HBW.out
        rcases h with h | h
        · omega
        · have := (GL.out.own.lt j h).1; omega)
      have R3 : Hid (Fr (fun k => k < w4.heap.size) w9 wz) := GF.out.trans fz (fun j hj h => by
        have := HBW.out
        rcases h with h | h
        · omega
        · rcases GV.out j h with h | h <;> omega)
      have R4 : Hid (∀ g, V'.ownBlock = some g → g < w4.heap.size ∨ w9.heap.size ≤ g) := fun g hg => by
        rcases sz with e | ⟨g', hg', hl'⟩
        · exact GV.out g (by rw [← e]; exact hg)
        · rw [hg'] at hg; injection hg with hg
          have := GF.out.size
          exact .inr (by omega)
      clear lz sz fz q
      go_wp2
      exact ⟨⟨k + 1, V', by omega, by go_num, R1.out, R2.out, R3.out, R4.out⟩, by simp [intOf]; omega⟩
    · obtain rfl : k = lm := by omega
      have hT : Hid (ms.take k = ms) := by
        have := HLM.out
        exact List.take_of_length_le (by omega)
      rw [hT.out] at GL
      obtain ⟨N, hN⟩ := kq_pre L ms
      rw [hN] at GL
      clear hN hT
      have hkn : ¬ (k : Int) < (k : Int) := by omega
      have hnL : n ≤ L.length := by rw [HND.out]; exact Nat.le_refl _
      have hnN : n ≤ (L ++ N).length := by rw [List.length_append]; omega
      have QTr := QT.out wr V (L ++ N) GL.out GN.out
      rw [treeA, if_pos ⟨Nat.zero_le _, hnN⟩, sbl_app hnL, ← HA.out] at QTr
      obtain ⟨p1, p2, p3⟩ := TP_app (M := N) x n hnL
      obtain ⟨r1, r2, r3⟩ := TR_app (M := N) x n hnL
      obtain ⟨b1, b2, b3⟩ := TB_app (M := N) x y n hnL
      have QP2 : Hid (∀ W, Lg W b base V (L ++ N) → Nw w W → _) := fun W h1 h2 => QP.out W V (L ++ N) h1 h2
      have QR2 : Hid (∀ W, Lg W b base V (L ++ N) → Nw w W → _) := fun W h1 h2 => QR.out W V (L ++ N) h1 h2
      have QB2 : Hid (∀ W, Lg W b base V (L ++ N) → Nw w W → _) := fun W h1 h2 => QB.out W V (L ++ N) h1 h2
      rw [p2, p3, ← E1.out, ← O1.out] at QP2
      rw [r2, r3, ← E2.out, ← O2.out] at QR2
      rw [b2, b3, ← E3.out, ← O3.out] at QB2
      have T1 : Hid (∀ z ∈ l1, z.length = 32) := by rw [E1.out]; exact map32 _ _
      have T2 : Hid (∀ z ∈ l2, z.length = 32) := by rw [E2.out]; exact map32 _ _
      have T3 : Hid (∀ z ∈ l3, z.length = 32) := by rw [E3.out]; exact map32 _ _
      have U1 : Hid (l1.length < 4611686018427387904) := by rw [E1.out, List.length_map]; exact Nat.lt_of_le_of_lt (TP_len (by rw [← HND.out]; exact hlen) x n) (by decide)
      have U2 : Hid (l2.length < 4611686018427387904) := by rw [E2.out, List.length_map]; exact Nat.lt_of_le_of_lt (TR_len (by rw [← HND.out]; exact hlen) x n) (by decide)
      have U3 : Hid (l3.length < 4611686018427387904) := by rw [E3.out, List.length_map]; exact Nat.lt_of_le_of_lt (TB_len (by rw [← HND.out]; exact hlen) x y n) (by decide)
      -- what was answered ahead of the appends
      have X1 : Hid (Hss wr (.slice a1 l1.length c1) l1) := K1.out.fr M6.out.size (M8.out.tr M9.out) GF.out
      have X2 : Hid (Hss wr (.slice a2 l2.length c2) l2) := K2.out.fr (Nat.le_trans M6.out.size M7.out.size) M9.out GF.out
      have X3 : Hid (Hss wr (.slice a3 l3.length c3) l3) := K3.out.fr (Nat.le_trans M6.out.size (Nat.le_trans M7.out.size M8.out.size)) (nwr w9) GF.out
      have J9 : Hid (w9.heap[b5]? = some (.cells (hbs A) 32 (0, 0))) := ((M7.out.tr (M8.out.tr M9.out)).block _ (heap_lt J6.out) (fun f => f)).trans J6.out
      have XA : Hid (wr.heap[b5]? = some (.cells (hbs A) 32 (0, 0))) := (GF.out.block _ (heap_lt J9.out) (by have := H45.out; omega)).trans J9.out
      clear p1 p2 p3 r1 r2 r3 b1 b2 b3 K1 K2 K3 J6 J9 E1 E2 E3 O1 O2 O3 QP QR QB QT QA HR HM L9 L4 MM M6 M7 M8 M9 N9 GF GV HBW HG4 H45 HA
      go_wp2_with fail
      refine QTr.mono ?_
      rintro e wA ⟨rfl, nA⟩
      clear QTr
      have NA : Hid (Nw wr wA) := nA
      clear nA
      go_wp2_with (refine wp_store_agg rfl (.tmp 22) (.tmp 95) 32 32 rfl Tryd.sizeOf32 wA.heap.size 0 rfl _ 32 (heap_new _ _) (hbs A) rfl hAs (hbs_one _) (by decide) (hbs A) (by simp) ?_; intro wB jB fB _; have NB : Hid (Nw wr wB) := (NA.out.alloc _).trans fB (fun k hk q => by have := NA.out.size; omega); have JB : Hid (wB.heap[wA.heap.size]? = some (.cells (hbs A) 32 (0, 0))) := jB; clear jB fB)
      refine (QP2.out wB (GL.out.nw NB.out) (GN.out.tr NB.out)).mono ?_
      rintro e wC ⟨u1, rfl, k1, nC⟩
      have KC : Hid (Kpt wB wC u1 l1) := k1
      have MC : Hid (Nw wB wC) := nC
      obtain ⟨d1, f1, rfl⟩ := k1.here.form
      clear k1 nC
      go_wp2_with fail
      refine (QR2.out wC (GL.out.nw (NB.out.tr MC.out)) (GN.out.tr (NB.out.tr MC.out))).mono ?_
      rintro e wD ⟨u2, rfl, k2, nD⟩
      have KD : Hid (Kpt wC wD u2 l2) := k2
      have MD : Hid (Nw wC wD) := nD
      obtain ⟨d2, f2, rfl⟩ := k2.here.form
      clear k2 nD
      go_wp2_with fail
      refine (QB2.out wD (GL.out.nw (NB.out.tr (MC.out.tr MD.out))) (GN.out.tr (NB.out.tr (MC.out.tr MD.out)))).mono ?_
      rintro e wE ⟨u3, rfl, k3, nE⟩
      have ME : Hid (Nw wD wE) := nE
      obtain ⟨d3, f3, rfl⟩ := k3.here.form
      have NE : Hid (Nw wr wE) := NB.out.tr (MC.out.tr (MD.out.tr ME.out))
      have Y3 : Hid (∀ W, Nw wE W → Calls Tryd.prog 27 #[.slice a3 l3.length c3, .slice d3 l3.length f3] W fun e w' => e = .returned (.bool true) ∧ Nw W w') := (fun W hW => sameh_yes _ _ l3 T3.out W (X3.out.nw T3.out (NE.out.tr hW)) (k3.hss hW) U3.out)
      have Y2 : Hid (∀ W, Nw wE W → Calls Tryd.prog 27 #[.slice a2 l2.length c2, .slice d2 l2.length f2] W fun e w' => e = .returned (.bool true) ∧ Nw W w') := (fun W hW => sameh_yes _ _ l2 T2.out W (X2.out.nw T2.out (NE.out.tr hW)) (KD.out.hss (ME.out.tr hW)) U2.out)
      have Y1 : Hid (∀ W, Nw wE W → Calls Tryd.prog 27 #[.slice a1 l1.length c1, .slice d1 l1.length f1] W fun e w' => e = .returned (.bool true) ∧ Nw W w') := (fun W hW => sameh_yes _ _ l1 T1.out W (X1.out.nw T1.out (NE.out.tr hW)) (KC.out.hss (MD.out.tr (ME.out.tr hW))) U1.out)
      have JE : Hid (wE.heap[wA.heap.size]? = some (.cells (hbs A) 32 (0, 0))) := ((MC.out.tr (MD.out.tr ME.out)).block _ (heap_lt JB.out) (fun f => f)).trans JB.out
      have IE : Hid (wE.heap[b5]? = some (.cells (hbs A) 32 (0, 0))) := (NE.out.block _ (heap_lt XA.out) (fun f => f)).trans XA.out
      have NWE : Hid (Nw w wE) := GN.out.tr NE.out
      clear k3 nE KC KD MC MD ME NB NE JB XA X1 X2 X3 QP2 QR2 QB2 GL GN T1 T2 T3 U1 U2 U3 NA
      go_wp2_with first
        | (refine wpl_load rfl (.tmp 22) rfl wA.heap.size 0 rfl A HA32.out (hash_cells JE.out) ?_)
        | (refine wpl_load rfl (.tmp 13) rfl b5 0 rfl A HA32.out (hash_cells IE.out) ?_)
        | (refine wpl_eql rfl (.tmp 119) (.tmp 120) rfl A HA32.out rfl rfl ?_)
      refine (Y1.out _ (nwr wE)).mono ?_
      rintro e wz ⟨rfl, nz⟩
      have NN : Hid (Nw wE wz) := nz
      clear nz
      go_wp2_with fail
      refine (Y2.out _ NN.out).mono ?_
      rintro e wz ⟨rfl, nz⟩
      have NN : Hid (Nw wE wz) := NN.out.tr nz
      clear nz
      go_wp2_with fail
      refine (Y3.out _ NN.out).mono ?_
      rintro e wz ⟨rfl, nz⟩
      have NN : Hid (Nw wE wz) := NN.out.tr nz
      clear nz
      go_wp2_with fail
      have NZ : Hid (Nw w wz) := NWE.out.tr NN.out
      cases o1 <;> cases o2 <;> cases o3
      all_goals
        simp only [ev_t, ev_f]
        (refine wp_region_grown (by kernel_rfl) (by kernel_rfl) ?_; (repeat (first | go_big_quiet_skip | (go_big_quiet_want; first | (go_big_quiet_op; first | go_big_quiet_on | go_big_quiet_call (first | rfl | with_reducible exact grw_call QV.out NZ.out _))))); refine wpQuiet_nil ?_; rintro W ⟨⟨_, nW⟩, rfl⟩)
        go_wp2
        go_ret
        exact ⟨rfl, NZ.out.tr nW⟩
end Go.Proofs.YthkkjpefealdgaaDoor
