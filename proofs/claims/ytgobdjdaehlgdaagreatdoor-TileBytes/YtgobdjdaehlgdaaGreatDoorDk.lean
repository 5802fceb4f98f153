/- TileBytes. -/
import Derived.Test.YtgobdjdaehlgdaaGreatDoorDj
namespace Go.Proofs.YtgobdjdaehlgdaaGreatDoor
open Go.RowKit
open Go.Lib (decDigits nDigits)
set_option linter.unusedVariables false
set_option linter.unusedSimpArgs false
theorem stays_ge {a : World} {x y : Value} {b : Nat} (h : Stays a x y) (hx : ∀ g, x.ownBlock = some g → b ≤ g) (ha : b ≤ a.heap.size) : ∀ g, y.ownBlock = some g → b ≤ g := fun g hg => by
  rcases h with h | ⟨k, hk, hl⟩
  · rw [h] at hg; exact hx g hg
  · rw [hk] at hg; cases hg; omega
set_option maxRecDepth 100000 in
set_option maxHeartbeats 4000000 in
theorem bytes11_any (L : List (List UInt8)) (h32 : ∀ x ∈ L, x.length = 32) (hl : L.length < 4611686018427387904) (ad : Option Addr) (c : Nat) (s : ByteArray) (hsz : s.size < 4611686018427387904) (x : Int) (hx : -9223372036854775808 ≤ x ∧ x ≤ 9223372036854775807) (w : World) (hr : Rw w ad c L) (hP : TX.Pow w) (hM : MaxL w) {B : Nat} {a : Nat → Addr} (hSe : Sent B w a) :
    Calls Tryz.prog 5 #[.slice ad L.length c, .string s, .int .i64 x] w fun e w' => e = .returned (.bool true) ∧ Nw w w' := by
  obtain ⟨p, ev, fc, fp, e1, e2, e3⟩ := both_enc L h32 w hSe
  have QE : Hid (∀ (V : World) (ad : Option Addr) (c : Nat), Nw w V → Hss V (.slice ad L.length c) L → Calls Tryz.prog 19 #[.slice ad L.length c] V fun e w' => e = .returned (.tuple #[.string p, ev]) ∧ Nw V w') := e1
  have QR : Hid (∀ (V : World) (ad : Option Addr) (c : Nat), Hss V (.slice ad L.length c) L → Calls Tryz.prog 20 #[.slice ad L.length c] V fun e w' => e = .returned (.tuple #[.string p, flt fc fp]) ∧ Nw V w') := e2
  have QS : Hid (∀ V, Nw w V → Calls Tryz.prog 9 #[ev, flt fc fp] V fun e w' => e = .returned (.bool true) ∧ Nw V w') := e3
  have HD : Hid (s.size ≤ 1048576 → ∃ (R : List (List UInt8)) (ev : Value) (fc fp : Int), (∀ x ∈ R, x.length = 32) ∧ R.length ≤ 256 ∧ (∀ (V : World), Nw w V → Calls Tryz.prog 21 #[.string s, .int .i64 x] V fun e w' => ∃ ad c, e = .returned (.tuple #[.slice ad R.length c, ev]) ∧ w'.ownsRow V.heap.size 96 32 (.slice ad R.length c) R.length (hsc R) ∧ Nw V w') ∧
      (∀ (V : World), Calls Tryz.prog 22 #[.string s, .int .i64 x] V fun e w' => ∃ ad c, e = .returned (.tuple #[.slice ad R.length c, flt fc fp]) ∧ Hss w' (.slice ad R.length c) R ∧ Nw V w') ∧
      (∀ V, Nw w V → Calls Tryz.prog 9 #[ev, flt fc fp] V fun e w' => e = .returned (.bool true) ∧ Nw V w')) := fun h => both_dec s h x hx w hSe
  have HR : Hid (Hss w (.slice ad L.length c) L) := hr.2
  have H32 : Hid (∀ x ∈ L, x.length = 32) := h32
  have QV : Hid (∀ V, Nw w V → Calls Tryz.prog 12 #[] V fun e w' => e = .returned (.bool true) ∧ Nw V w') := fun V nV => lives_any V (hP.fr nV) (hM.nw nV) (hSe.fr nV (fun _ _ f => f))
  have q2 := beyond_any (some ⟨w.heap.size, 0, none⟩) 2 [L.length, s.size] _ (two_int w L.length s.size) (getD_ltD L.length s.size hl hsz) (by simp)
  rw [show [L.length, s.size].length = 2 from rfl] at q2
  clear e1 e2 e3 hP hM hSe hr h32 hx
  obtain ⟨n, hn⟩ : ∃ n, n = L.length := ⟨_, rfl⟩
  have HN : Hid (n = L.length) := hn
  rw [← hn] at q2 QE QR HR hl ⊢
  clear hn
  have hni : (n : Int) < 4611686018427387904 := by omega
  have hsi : (s.size : Int) < 4611686018427387904 := by omega
  go_enter Tryz.func5, Tryz.ntmps5
  go_wp2_with fail
  refine q2.mono ?_
  rintro _ w1 ⟨rfl, h1⟩
  have N1 : Hid (Nw w w1) := by rw [h1]; exact nwa w _
  clear h1 q2
  by_cases hbig : 1048576 < [n, s.size].sum
  · rw [decide_eq_true hbig]
    go_wp2
    go_ret
    exact ⟨rfl, N1.out⟩
  rw [decide_eq_false hbig]
  have hnb : n ≤ 1048576 ∧ s.size ≤ 1048576 := by simp at hbig; omega
  obtain ⟨hnb, hsb⟩ := hnb
  clear hbig
  obtain ⟨R, eu, gc, gp, hR32, hRl, d1, d2, d3⟩ := HD.out hsb
  have QD : Hid (∀ (V : World), Nw w V → Calls Tryz.prog 21 #[.string s, .int .i64 x] V fun e w' => ∃ ad c, e = .returned (.tuple #[.slice ad R.length c, eu]) ∧ w'.ownsRow V.heap.size 96 32 (.slice ad R.length c) R.length (hsc R) ∧ Nw V w') := d1
  have QG : Hid (∀ (V : World), Calls Tryz.prog 22 #[.string s, .int .i64 x] V fun e w' => ∃ ad c, e = .returned (.tuple #[.slice ad R.length c, flt gc gp]) ∧ Hss w' (.slice ad R.length c) R ∧ Nw V w') := d2
  have QT : Hid (∀ V, Nw w V → Calls Tryz.prog 9 #[eu, flt gc gp] V fun e w' => e = .returned (.bool true) ∧ Nw V w') := d3
  have R32 : Hid (∀ x ∈ R, x.length = 32) := hR32
  clear d1 d2 d3 HD hR32
  obtain ⟨r, hrr⟩ : ∃ r, r = R.length := ⟨_, rfl⟩
  have HRR : Hid (r = R.length) := hrr
  rw [← hrr] at QD QG hRl
  clear hrr
  have hri : (r : Int) ≤ 256 := by omega
  have q3 := twinh_any ad c L H32.out w1 (by rw [← HN.out]; exact HR.out.nw H32.out N1.out) (by rw [← HN.out]; exact hnb)
  rw [← HN.out] at q3
  go_wp2_with fail
  refine q3.mono ?_
  rintro _ w2 ⟨rfl, o2, n2⟩
  obtain ⟨g, hg⟩ : ∃ g, g = w1.heap.size := ⟨_, rfl⟩
  rw [← hg] at o2 ⊢
  have N2 : Hid (Nw w w2) := N1.out.tr n2
  have O2 : Hid (w2.ownsRow g 96 32 (.slice (some ⟨g, 0, none⟩) (L.length + 1) (L.length + 1)) (L.length + 1) (hsc (L ++ [HB.mk 7777]))) := by rw [HN.out] at o2; exact o2
  have S2 : Hid (Hss w2 (.slice (some ⟨g, 0, none⟩) n (n + 1)) L) := by have := twin_hss H32.out O2.out; rw [← HN.out] at this; exact this
  clear q3 o2 n2 hg N1
  go_wp2_with fail
  refine (QE.out _ _ _ N2.out S2.out).mono ?_
  rintro _ w3 ⟨rfl, n3⟩
  have N3 : Hid (Nw w2 w3) := n3
  clear n3 S2
  go_wp2_with fail
  refine (QR.out _ _ _ (HR.out.nw H32.out (N2.out.tr N3.out))).mono ?_
  rintro _ w4 ⟨rfl, n4⟩
  have N4 : Hid (Nw w2 w4) := N3.out.tr n4
  clear n4 N3
  go_wp2_with fail
  refine (QD.out _ (N2.out.tr (N4.out.alloc _))).mono ?_
  rintro _ w5 ⟨a5, c5, rfl, o5, n5⟩
  have S45 : Hid (w.heap.size ≤ w4.heap.size ∧ w.heap.size ≤ w5.heap.size) := ⟨(N2.out.tr N4.out).size, (N2.out.tr (N4.out.tr ((nwa w4 _).tr n5))).size⟩
  have B5 : Hid (w5.heap[w4.heap.size]? = some (.cells #[.int .i64 fc, .int .i64 fp] 29)) := (n5.block _ (by simp) (fun f => f)).trans (heap_new _ _)
  have N5 : Hid (Nw w2 w5) := N4.out.tr ((nwa w4 _).tr n5)
  have O5 : Hid (w5.ownsRow w4.heap.size 96 32 (.slice a5 r c5) r (hsc R)) := ownsRow_base o5 (by simp)
  clear n5 o5 N4
  go_wp2_with fail
  refine (QD.out _ (N2.out.tr N5.out)).mono ?_
  rintro _ w6 ⟨a6, c6, rfl, o6, n6⟩
  have B6 : Hid (w6.heap[w4.heap.size]? = some (.cells #[.int .i64 fc, .int .i64 fp] 29)) := (n6.block _ (heap_lt B5.out) (fun f => f)).trans B5.out
  have N56 : Hid (Nw w5 w6) := n6
  have N6 : Hid (Nw w2 w6) := N5.out.tr n6
  have O6 : Hid (w6.ownsRow w5.heap.size 96 32 (.slice a6 r c6) r (hsc R)) := o6
  clear n6 o6 B5
  go_wp2_with fail
  refine (QG.out _).mono ?_
  rintro _ w7 ⟨a7, c7, rfl, o7, n7⟩
  have b7 := (n7.block _ (heap_lt B6.out) (fun f => f)).trans B6.out
  have N67 : Hid (Nw w6 w7) := n7
  have N7 : Hid (Nw w2 w7) := N6.out.tr n7
  have S7 : Hid (Hss w7 (.slice a7 r c7) R) := o7
  obtain ⟨y0, y1⟩ : w7.cell? ⟨w4.heap.size, 0, none⟩ = some (.int .i64 fc) ∧ w7.cell? ⟨w4.heap.size, 1, none⟩ = some (.int .i64 fp) := ⟨(cell_of b7 0).trans rfl, (cell_of b7 1).trans rfl⟩
  have l7 := heap_lt b7
  clear n7 o7 B6 b7
  go_wp2_with fail
  refine (QS.out _ (N2.out.tr (N7.out.alloc _))).mono ?_
  rintro _ w8 ⟨rfl, n8⟩
  have N78 : Hid (Nw w7 w8) := (nwa w7 _).tr n8
  have b8 : w8.heap[w7.heap.size]? = some (.cells #[.int .i64 gc, .int .i64 gp] 29) := (n8.block _ (by simp) (fun f => f)).trans (heap_new _ _)
  have B8 : Hid (w8.heap[w7.heap.size]? = some (.cells #[.int .i64 gc, .int .i64 gp] 29)) := b8
  have N8 : Hid (Nw w2 w8) := N7.out.tr N78.out
  clear n8 b8 y0 y1 l7
  have hk5 : ∀ V : World, Nw w8 V → Hss V (.slice a5 r c5) R := fun V nV => by
    have h := (Hss.of R32.out (show w5.ownsRow w4.heap.size 96 32 (.slice a5 r c5) R.length (hsc R) by rw [← HRR.out]; exact O5.out)).nw R32.out (N56.out.tr (N67.out.tr (N78.out.tr nV)))
    exact h
  have hk6 : ∀ V : World, Nw w8 V → Hss V (.slice a6 r c6) R := fun V nV => by
    have h := (Hss.of R32.out (show w6.ownsRow w5.heap.size 96 32 (.slice a6 r c6) R.length (hsc R) by rw [← HRR.out]; exact O6.out)).nw R32.out (N67.out.tr (N78.out.tr nV))
    exact h
  have HK5 : Hid (∀ V : World, Nw w8 V → Hss V (.slice a5 r c5) R) := hk5
  have HK6 : Hid (∀ V : World, Nw w8 V → Hss V (.slice a6 r c6) R) := hk6
  have HK7 : Hid (∀ V : World, Nw w8 V → Hss V (.slice a7 r c7) R) := fun V nV => S7.out.nw R32.out (N78.out.tr nV)
  have HRL : Hid (R.length < 4611686018427387904) := by show _ < _; rw [← HRR.out]; omega
  clear hk5 hk6
  go_wp2_with fail
  refine (sameh_yes _ _ R R32.out _ (HK5.out _ (Fr.refl _ _)) (HK7.out _ (Fr.refl _ _)) HRL.out).mono ?_
  rintro _ w9 ⟨rfl, n9⟩
  have N9 : Hid (Nw w8 w9) := n9
  clear n9
  go_wp2_with fail
  refine (sameh_yes _ _ R R32.out _ (HK6.out _ N9.out) (HK7.out _ N9.out) HRL.out).mono ?_
  rintro _ w10 ⟨rfl, n10⟩
  have N10 : Hid (Nw w8 w10) := N9.out.tr n10
  have b10 := (N10.out.block _ (heap_lt B8.out) (fun f => f)).trans B8.out
  obtain ⟨y0, y1⟩ : w10.cell? ⟨w7.heap.size, 0, none⟩ = some (.int .i64 gc) ∧ w10.cell? ⟨w7.heap.size, 1, none⟩ = some (.int .i64 gp) := ⟨(cell_of b10 0).trans rfl, (cell_of b10 1).trans rfl⟩
  have l10 := heap_lt b10
  clear n10 b10 N9
  go_wp2_with fail
  refine (QT.out _ (N2.out.tr (N8.out.tr N10.out))).mono ?_
  rintro _ w11 ⟨rfl, n11⟩
  have N11 : Hid (Nw w8 w11) := N10.out.tr n11
  clear n11 y0 y1 l10 N10
  have q9 := lefth_any L H32.out (by rw [← HN.out]; exact hnb) g g ad c w11 (ownsRow_keep O2.out (fun t ht => (N8.out.tr N11.out).block t (O2.out.lt t ht).2 (fun f => f))) (by rw [← HN.out]; exact HR.out.nw H32.out (N2.out.tr (N8.out.tr N11.out)))
  rw [← HN.out] at q9
  go_wp2_with fail
  refine q9.mono ?_
  rintro _ w12 ⟨rfl, n12⟩
  have N12 : Hid (Nw w8 w12) := N11.out.tr n12
  clear n12 q9 N11
  go_wp2_with fail
  have hbB : HB.Bk (w12.alloc (.cells (HB.bkc 0 HB.nilS) 51)) w12.heap.size 0 HB.nilS [] := ⟨heap_new _ _, World.ownsRow_nil _ _ _ _, by intro g hg; cases hg⟩
  refine (HB.hashes_any w12.heap.size 0 HB.nilS [] a5 r c5 _ hbB (by omega) (by simp)).mono ?_
  rintro _ w13 ⟨rfl, v13, hb13, st13, f13⟩
  have HB13 : Hid (HB.Bk w13 w12.heap.size 1 v13 [(.slice a5 r c5, HB.nilS, 1)]) := hb13
  have V13 : Hid (∀ k, v13.ownBlock = some k → w12.heap.size ≤ k) := stays_ge st13 (by intro k hk; cases hk) (by simp)
  have F13 : Hid (Fr (fun k => w12.heap.size ≤ k) w12 w13) := ((nwa w12 _).mono (S' := fun k => w12.heap.size ≤ k) (fun _ _ f => f.elim)).trans f13 (fun k hk h => by
    rcases h with h | h
    · omega
    · cases h)
  clear hbB hb13 f13 st13
  go_wp2_with fail
  refine (HB.hashes_any w12.heap.size 1 v13 _ a6 r c6 _ HB13.out (by omega) (by simp)).mono ?_
  rintro _ w14 ⟨rfl, v14, hb14, st14, f14⟩
  have HB14 : Hid (HB.Bk w14 w12.heap.size 2 v14 [(.slice a5 r c5, HB.nilS, 1), (.slice a6 r c6, HB.nilS, 2)]) := hb14
  have V14 : Hid (∀ k, v14.ownBlock = some k → w12.heap.size ≤ k) := stays_ge st14 V13.out F13.out.size
  have F14 : Hid (Fr (fun k => w12.heap.size ≤ k) w12 w14) := F13.out.trans f14 (fun k hk h => by
    rcases h with h | h
    · omega
    · have := V13.out k h; omega)
  clear hb14 f14 st14
  have N612 : Hid (Nw w6 w12) := N67.out.tr (N78.out.tr N12.out)
  have N512 : Hid (Nw w5 w12) := N56.out.tr N612.out
  have hrw : Hid (HB.Rws w14 w12.heap.size v14 [(.slice a5 r c5, HB.nilS, 1), (.slice a6 r c6, HB.nilS, 2)] (fun _ => R)) :=
    HB.two_rowsD R32.out (show w5.ownsRow w4.heap.size 96 32 (.slice a5 r c5) R.length (hsc R) by rw [← HRR.out]; exact O5.out) (show w6.ownsRow w5.heap.size 96 32 (.slice a6 r c6) R.length (hsc R) by rw [← HRR.out]; exact O6.out) (Nat.le_refl _) N612.out.size N56.out.size V14.out
      (fun q hq => (F14.out.block q (by have := N512.out.size; omega) (by have := N512.out.size; show ¬ (w12.heap.size ≤ q); omega)).trans (N512.out.block q hq (fun f => f)))
      (fun q hq => (F14.out.block q (by have := N612.out.size; omega) (by have := N612.out.size; show ¬ (w12.heap.size ≤ q); omega)).trans (N612.out.block q hq (fun f => f)))
  have NW12 : Hid (Nw w w12) := N2.out.tr (N8.out.tr N12.out)
  have NW14 : Hid (Nw w w14) := NW12.out.trans F14.out (fun k hk h => by have h' : w12.heap.size ≤ k := h; have := NW12.out.size; omega)
  have s45 : w.heap.size ≤ w4.heap.size ∧ w.heap.size ≤ w5.heap.size := ⟨S45.out.1, S45.out.2⟩
  have RB : Hid (∀ k, HB.Rb [(.slice a5 r c5, HB.nilS, 1), (.slice a6 r c6, HB.nilS, 2)] k → w.heap.size ≤ k) := by
    rintro k ⟨i, h, hi, hk⟩
    rcases i with _ | _ | i
    · simp at hi; subst hi
      have := (O5.out.lt k hk).1; omega
    · simp at hi; subst hi
      have := (O6.out.lt k hk).1; omega
    · simp at hi
  clear s45
  go_wp2_with fail
  refine (HB.apart_any w12.heap.size 2 v14 _ (fun _ => R) _ HB14.out hrw.out (by simp) (fun _ => by rw [← HRR.out]; omega) (HB.num2D _ _)).mono ?_
  rintro _ w15 ⟨rfl, f15⟩
  have N15 : Hid (Nw w w15) := NW14.out.trans f15 (fun k hk h => by
    rcases h with h | h
    · have := RB.out k h; omega
    · have := V14.out k h; have := NW12.out.size; omega)
  clear f15
  go_wp2_with fail
  refine (QV.out _ N15.out).mono ?_
  rintro _ w16 ⟨rfl, n16⟩
  have N16 : Hid (Nw w w16) := N15.out.tr n16
  clear n16
  go_wp2
  go_ret
  exact ⟨rfl, N16.out⟩
end Go.Proofs.YtgobdjdaehlgdaaGreatDoor
