/- plan: PlanTiles. -/
import Derived.Test.YtlaiomgebkeldaaGreatDoorZag
import Derived.Test.YtlaiomgebkeldaaGreatDoorZdg
import Derived.Test.YtlaiomgebkeldaaGreatDoorYk
import Derived.Test.YtlaiomgebkeldaaGreatDoorQtg
namespace Go.Proofs.YtlaiomgebkeldaaGreatDoor
open Go.RowKit
set_option linter.unusedVariables false
set_option linter.unusedSimpArgs false
abbrev fltP (c p : Int) : Value := .agg #[.int .i64 c, .int .i64 p]
/-- The program's Tiles and the document's answer alike. -/
theorem both_tiles (S : Nat) (hS : S < 18446744073709551616) (ls : List (List (Nat × Nat))) (hb : ∀ c ∈ ls.flatten, c.1 ≤ 255 ∧ c.2 < 18446744073709551616) (hp : psz ls ≤ 1048576) (w : World) {B : Nat} {a : Nat → Addr} (hE : Sent B w a) :
    ∃ (l : List Ti) (ev : Value) (fc fp : Int), l.length ≤ 1048576 ∧ (∀ (V : World) (u : Value), Nw w V → Prt V u ls → Calls Tryz.prog 24 #[u, .int .u64 (S : Int)] V fun e w' => ∃ va vc, e = .returned (.tuple #[.slice va l.length vc, ev]) ∧ w'.ownsRow V.heap.size 104 3 (.slice va l.length vc) l.length (tic l) ∧ Nw V w') ∧
      (∀ (V : World) (u : Value), Prt V u ls → Calls Tryz.prog 23 #[u, .int .u64 (S : Int)] V fun e w' => ∃ va vc, e = .returned (.tuple #[.slice va l.length vc, fltP fc fp]) ∧ w'.ownsRow V.heap.size 104 3 (.slice va l.length vc) l.length (tic l) ∧ Nw V w') ∧
      (∀ V, Nw w V → Calls Tryz.prog 7 #[ev, fltP fc fp] V fun e w' => e = .returned (.bool true) ∧ Nw V w') := by
  have SS : ∀ V, Nw w V → Sent B V a := fun V nV => hE.fr nV (fun _ _ f => f)
  obtain ⟨k1, k2, k3⟩ := psz_len ls
  have k3' : ∀ l ∈ ls, l.length ≤ 1099511627776 := fun l hl => by have := k3 l hl; omega
  have s4 : ∀ V, Nw w V → Calls Tryz.prog 7 #[sen (a 4), fltP 5 (-1)] V fun e w' => e = .returned (.bool true) ∧ Nw V w' := fun V nV => by
    have := same_any (SS V nV) (show EV V a (sen (a 4)) 5 none from .inr (.inl ⟨4, by decide, rfl, rfl, rfl⟩)) 5 (-1)
    rw [show sameB 5 none 5 (-1) = true by simp [sameB]] at this
    exact this
  by_cases h : S ≤ 9223372036854775808
  · by_cases hg : gdA S ls.flatten
    · refine ⟨tls S ls.flatten, .nilIface, 0, 0, by have := tls_len S ls.flatten; omega, fun V u nV hu => (ptiles_any u ls S V hu hb h (by omega) (by omega) k3' (SS V nV)).mono fun e w' ⟨q, _⟩ => ?_, fun V u hu => (dtiles_any u ls S V hu hb h (by omega) (by omega) k3').mono fun e w' ⟨q, _⟩ => ?_, fun V nV => ?_⟩
      · obtain ⟨v, rfl, o, n⟩ := q hg
        obtain ⟨va, vc, rfl⟩ := ownsRow_form o
        exact ⟨va, vc, rfl, o, n⟩
      · obtain ⟨v, rfl, o, n⟩ := q hg
        obtain ⟨va, vc, rfl⟩ := ownsRow_form o
        exact ⟨va, vc, rfl, ownsRow_base o (by omega), n⟩
      · have := same_any (SS V nV) (show EV V a .nilIface 0 none from .inl ⟨rfl, rfl, rfl⟩) 0 0
        rw [show sameB 0 none 0 0 = true by simp [sameB]] at this
        exact this
    · refine ⟨[], sen (a 4), 5, -1, by simp, fun V u nV hu => (ptiles_any u ls S V hu hb h (by omega) (by omega) k3' (SS V nV)).mono fun e w' ⟨_, q⟩ => ?_, fun V u hu => (dtiles_any u ls S V hu hb h (by omega) (by omega) k3').mono fun e w' ⟨_, q⟩ => ?_, fun V nV => s4 V nV⟩
      · obtain ⟨rfl, n⟩ := q hg
        exact ⟨none, 0, rfl, World.ownsRow_nil _ _ _ _, n⟩
      · obtain ⟨rfl, n⟩ := q hg
        exact ⟨none, 0, rfl, World.ownsRow_nil _ _ _ _, n⟩
  · exact ⟨[], sen (a 4), 5, -1, by simp, fun V u nV hu => (ptiles_big u S V (by omega) hS (SS V nV)).mono fun e w' ⟨q, n⟩ => ⟨none, 0, q, World.ownsRow_nil _ _ _ _, n⟩, fun V u hu => (dtiles_big u S V (by omega) hS).mono fun e w' ⟨q, n⟩ => ⟨none, 0, q, World.ownsRow_nil _ _ _ _, n⟩, fun V nV => s4 V nV⟩
namespace QB
/-- Tiles as the Book's cells. -/
def qt (l : List Ti) : List (Nat × Nat × Int) := l.map fun t => (t.L, t.I, (t.W : Int))
theorem qt_len (l : List Ti) : (qt l).length = l.length := by simp [qt]
theorem qt_cells : ∀ l : List Ti, qs (qt l) = tic l
  | [] => rfl
  | t :: r => by
    have e : tic (t :: r) = t.c ++ tic r := by simp [tic]
    rw [e, ← qt_cells r]
    rfl
theorem two_rows {w1 w2 wk : World} {B0 B1 bk : Nat} {v1 v2 : Value} {l : List Ti}
    (o1 : w1.ownsRow B0 104 3 v1 l.length (tic l)) (o2 : w2.ownsRow B1 104 3 v2 l.length (tic l)) (h1 : w1.heap.size ≤ B1) (h0 : B0 ≤ w1.heap.size) (h2 : w2.heap.size ≤ bk) (h3 : w1.heap.size ≤ w2.heap.size)
    (k1 : ∀ q, q < w1.heap.size → wk.heap[q]? = w1.heap[q]?) (k2 : ∀ q, q < w2.heap.size → wk.heap[q]? = w2.heap[q]?) :
    Rws wk B0 bk [(v1, nilS, 1), (v2, nilS, 2)] (fun _ => qt l) := by
  refine ⟨?_, ?_, ?_, ?_⟩
  · intro i h hi
    rw [qt_len, qt_cells]
    rcases i with _ | _ | i
    · simp at hi; subst hi
      exact ownsRow_keep o1 (fun g hg => k1 g (o1.lt g hg).2)
    · simp at hi; subst hi
      exact ownsRow_keep (ownsRow_base o2 (by omega)) (fun g hg => k2 g (o2.lt g hg).2)
    · simp at hi
  · intro i h hi g hg
    rcases i with _ | _ | i
    · simp at hi; subst hi
      have := (o1.lt g hg).2; omega
    · simp at hi; subst hi
      have := (o2.lt g hg).2; omega
    · simp at hi
  · intro i j h h' g hij hi hj hg hg'
    rcases i with _ | _ | i
    · simp at hi; subst hi
      have := o1.lt g hg
      rcases j with _ | _ | j
      · exact hij rfl
      · simp at hj; subst hj; have := o2.lt g hg'; omega
      · simp at hj
    · simp at hi; subst hi
      have := o2.lt g hg
      rcases j with _ | _ | j
      · simp at hj; subst hj; have := o1.lt g hg'; omega
      · exact hij rfl
      · simp at hj
    · simp at hi
  · intro i h hi
    rcases i with _ | _ | i
    · simp at hi; subst hi; exact ⟨_, _, _, rfl⟩
    · simp at hi; subst hi; exact ⟨_, _, _, rfl⟩
    · simp at hi
theorem num2 (v1 v2 : Value) (i : Nat) : num [(v1, nilS, 1), (v2, nilS, 2)] i ≤ 100 := by
  rcases i with _ | _ | i <;> simp [num]
theorem tiles_any (bk N : Nat) (v : Value) (H : List Held) (ad : Option Addr) (n cap : Nat) (w : World) (hB : Bk w bk N v H) (hN : N ≤ 100) (hH : H.length ≤ 100) :
    Calls Tryz.prog 27 #[.pointer (some ⟨bk, 0, none⟩), .slice ad n cap] w fun e w' => e = .returned (.tuple #[]) ∧ (∃ v', Bk w' bk (N + 1) v' (H ++ [(.slice ad n cap, nilS, N + 1)])) ∧ Fr (fun k => bk ≤ k) w w' := by
  have q := keep_any bk N v H ad n cap w hB hN hH
  go_enter Tryz.func27, Tryz.ntmps27
  go_wp2_with fail
  refine q.mono ?_
  rintro e w1 ⟨rfl, h⟩
  go_wp2
  go_end0
  exact ⟨rfl, h⟩
end QB
theorem one_intP2 (w : World) (n : Nat) : Ints (w.alloc (.cells #[.int .i64 (n : Int)] 3)) (some ⟨w.heap.size, 0, none⟩) [n] := fun j hj => by
  match j, hj with
  | 0, _ => exact ⟨_, _, rfl, cell_of (heap_new w _) 0⟩
theorem getD_allV2 {p : Nat → Prop} {l : List Nat} (h : ∀ k ∈ l, p k) (h0 : p 0) : ∀ j, p (l.getD j 0) := fun j => by
  rw [List.getD_eq_getElem?_getD]
  cases e : l[j]? with
  | none => exact h0
  | some x => exact h x (List.mem_of_getElem? e)
set_option maxRecDepth 100000 in
set_option maxHeartbeats 4000000 in
theorem plantiles_any (v : Value) (ls : List (List (Nat × Nat))) (S : Nat) (hS : S < 18446744073709551616) (w : World) (hv : Prt w v ls) (hb : ∀ c ∈ ls.flatten, c.1 ≤ 255 ∧ c.2 < 18446744073709551616) (hl : ls.length < 4611686018427387904) (hl3 : ∀ l ∈ ls, l.length < 4611686018427387904) (hT : TabAt w) (hLd : Laid w) {B : Nat} {a : Nat → Addr} (hSe : Sent B w a) :
    Calls Tryz.prog 4 #[v, .int .u64 (S : Int)] w fun e w' => e = .returned (.bool true) ∧ Nw w w' := by
  have QA : Hid (∀ V, Nw w V → Calls Tryz.prog 19 #[] V fun x w' => x = .returned (.bool true) ∧ Nw V w') := fun V nV => alive15_any V (hT.nw nV) (hLd.nw nV) (hSe.fr nV (fun _ _ f => f)) (hLd.nw nV).lt
  have QP : Hid (Calls Tryz.prog 21 #[v] w fun e w' => (∃ N : Nat, e = .returned (.int .i64 (N : Int)) ∧ N < 4611686018428487904 ∧ (N ≤ 1048576 → N = psz ls) ∧ (psz ls ≤ 1048576 → N = psz ls)) ∧ Nw w w') := psize_any v ls w hv hl hl3
  have QB0 : Hid (psz ls ≤ 1048576 → ∃ (l : List Ti) (ev : Value) (fc fp : Int), _) := fun hp => both_tiles S hS ls hb hp w hSe
  have QW0 : Hid (psz ls ≤ 1048576 → ∀ V, Nw w V → Calls Tryz.prog 22 #[v] V fun e w' => e = .returned (.slice (some ⟨V.heap.size, 0, none⟩) ls.length (ls.length + 1)) ∧ Tpa w' V.heap.size ls ∧ Nw V w') := fun hp V nV => by
    obtain ⟨k1, k2, k3⟩ := psz_len ls
    exact twinp_any v ls V (hv.nw nV) (by omega) (fun l hl => by have := k3 l hl; omega)
  have QL0 : Hid (psz ls ≤ 1048576 → ∀ V g, Nw w V → Tpa V g ls → Calls Tryz.prog 26 #[.slice (some ⟨g, 0, none⟩) ls.length (ls.length + 1), v] V fun e w' => e = .returned (.bool true) ∧ Nw V w') := fun hp V g nV ht => by
    obtain ⟨k1, k2, k3⟩ := psz_len ls
    exact leftp_any g v ls V ht (hv.nw nV) (by omega) (fun l hl => by have := k3 l hl; omega)
  have HV : Hid (∀ V, Nw w V → Prt V v ls) := fun V nV => hv.nw nV
  obtain ⟨ad, c, rfl, _⟩ := hv
  have hSi : (S : Int) < 18446744073709551616 := by omega
  clear hb hl hl3 hT hLd hSe
  go_enter Tryz.func4, Tryz.ntmps4
  go_wp2_with fail
  refine QP.out.mono ?_
  rintro _ w1 ⟨⟨N, rfl, hN, hN1, hN2⟩, n1⟩
  have N1 : Hid (Nw w w1) := n1
  have HN1 : Hid (N ≤ 1048576 → N = psz ls) := hN1
  clear n1 hN1 hN2
  have q2 := beyond_more (some ⟨w1.heap.size, 0, none⟩) 1 [N] _ (one_intP2 w1 N) (getD_allV2 (p := fun k => k < 4611686018428487904) (by intro k hk; simp only [List.mem_cons, List.not_mem_nil, or_false] at hk; subst hk; exact hN) (by omega)) (by simp)
  rw [show [N].length = 1 from rfl] at q2
  go_wp2_with fail
  refine q2.mono ?_
  rintro _ w2 ⟨rfl, h2⟩
  have N2 : Hid (Nw w w2) := by rw [h2]; exact N1.out.alloc _
  clear h2 q2
  by_cases hbig : 1048576 < [N].sum
  · rw [decide_eq_true hbig]
    go_wp2
    go_ret
    exact ⟨rfl, N2.out⟩
  rw [decide_eq_false hbig]
  have hpz : psz ls ≤ 1048576 := by
    have h1 : N ≤ 1048576 := by simpa using hbig
    rw [← HN1.out h1]; exact h1
  obtain ⟨l, ev, fc, fp, hl, d1, d2, d3⟩ := QB0.out hpz
  have QTW := show Hid _ from QW0.out hpz
  have QLE := show Hid _ from QL0.out hpz
  have QT : Hid (∀ (V : World) (u : Value), Nw w V → Prt V u ls → Calls Tryz.prog 24 #[u, .int .u64 (S : Int)] V fun e w' => ∃ va vc, e = .returned (.tuple #[.slice va l.length vc, ev]) ∧ w'.ownsRow V.heap.size 104 3 (.slice va l.length vc) l.length (tic l) ∧ Nw V w') := d1
  have QR : Hid (∀ (V : World) (u : Value), Prt V u ls → Calls Tryz.prog 23 #[u, .int .u64 (S : Int)] V fun e w' => ∃ va vc, e = .returned (.tuple #[.slice va l.length vc, fltP fc fp]) ∧ w'.ownsRow V.heap.size 104 3 (.slice va l.length vc) l.length (tic l) ∧ Nw V w') := d2
  have QS : Hid (∀ V, Nw w V → Calls Tryz.prog 7 #[ev, fltP fc fp] V fun e w' => e = .returned (.bool true) ∧ Nw V w') := d3
  have QM : Hid (∀ (V : World) (ad bd : Option Addr) (ca cb b1 b2 : Nat), V.ownsRow b1 104 3 (.slice ad l.length ca) l.length (tic l) → V.ownsRow b2 104 3 (.slice bd l.length cb) l.length (tic l) → Calls Tryz.prog 25 #[.slice ad l.length ca, .slice bd l.length cb] V fun e w' => e = .returned (.bool true) ∧ Nw V w') := fun V ad bd ca cb b1 b2 h1 h2 => samet_yesP l ad bd ca cb b1 b2 V h1 h2 (by omega)
  obtain ⟨r, hrr⟩ : ∃ r, r = l.length := ⟨_, rfl⟩
  have HRR : Hid (r = l.length) := hrr
  rw [← hrr] at QT QR QM hl
  have HV2 : Hid (Prt w2 (.slice ad ls.length c) ls) := HV.out w2 N2.out
  have HPP : Hid (∀ V g, Tpa V g ls → Prt V (.slice (some ⟨g, 0, none⟩) ls.length (ls.length + 1)) ls) := fun V g h => h.prt
  obtain ⟨m, hm⟩ : ∃ m, m = ls.length := ⟨_, rfl⟩
  rw [← hm] at QTW QLE HV2 HPP ⊢
  clear d1 d2 d3 hrr hm hbig hpz QB0 QW0 QL0 QP HV
  go_wp2_with fail
  refine (QTW.out w2 N2.out).mono ?_
  rintro _ w3 ⟨rfl, t3, n3⟩
  obtain ⟨g, hg⟩ : ∃ q, q = w2.heap.size := ⟨_, rfl⟩
  rw [← hg] at t3 ⊢
  have T3 : Hid (Tpa w3 g ls) := t3
  have N3 : Hid (Nw w w3) := N2.out.tr n3
  have HV3 : Hid (Prt w3 (.slice ad m c) ls) := HV2.out.nw n3
  clear t3 n3 hg
  go_wp2_with fail
  refine (QR.out w3 _ HV3.out).mono ?_
  rintro _ w4 ⟨a7, c7, rfl, o7, n4⟩
  have O7 : Hid (w4.ownsRow w3.heap.size 104 3 (.slice a7 r c7) r (tic l)) := o7
  have N34 : Hid (Nw w3 w4) := n4
  clear o7 n4
  go_upto_region 5 with fail
  refine gen_wq (fun V => Nw w4 V ∧ V.heap[w4.heap.size]? = some (.cells #[.int .i64 fc, .int .i64 fp] 33)) ⟨nwa w4 _, heap_new _ _⟩ ?_
  rintro w0 ⟨n0, b0⟩
  obtain ⟨fb, hfb⟩ : ∃ q, q = w4.heap.size := ⟨_, rfl⟩
  rw [← hfb] at b0 ⊢
  have B0 : Hid (w0.heap[fb]? = some (.cells #[.int .i64 fc, .int .i64 fp] 33)) := b0
  have N40 : Hid (Nw w4 w0) := n0
  have NW0 : Hid (Nw w w0) := N3.out.tr (N34.out.tr n0)
  have T0 : Hid (Tpa w0 g ls) := T3.out.nw (N34.out.tr n0)
  clear b0 n0 hfb
  go_wp2_with fail
  refine (QT.out w0 _ NW0.out (HPP.out _ _ T0.out)).mono ?_
  rintro _ w5 ⟨a5, c5, rfl, o5, n5⟩
  have O5 : Hid (w5.ownsRow w0.heap.size 104 3 (.slice a5 r c5) r (tic l)) := o5
  have N5 : Hid (Nw w0 w5) := n5
  clear o5 n5
  go_wp2_with fail
  refine (QT.out w5 _ (NW0.out.tr N5.out) (HPP.out _ _ (T0.out.nw N5.out))).mono ?_
  rintro _ w6 ⟨a6, c6, rfl, o6, n6⟩
  have O6 : Hid (w6.ownsRow w5.heap.size 104 3 (.slice a6 r c6) r (tic l)) := o6
  have N56 : Hid (Nw w5 w6) := n6
  have N06 : Hid (Nw w0 w6) := N5.out.tr n6
  clear o6 n6
  have K5 : Hid (∀ V, Nw w6 V → V.ownsRow w0.heap.size 104 3 (.slice a5 r c5) r (tic l)) := fun V nV => ownsRow_keep O5.out (fun g hg => (N56.out.tr nV).block g (O5.out.lt g hg).2 (fun f => f))
  have K6 : Hid (∀ V, Nw w6 V → V.ownsRow w5.heap.size 104 3 (.slice a6 r c6) r (tic l)) := fun V nV => ownsRow_keep O6.out (fun g hg => nV.block g (O6.out.lt g hg).2 (fun f => f))
  have K7 : Hid (∀ V, Nw w6 V → V.ownsRow w3.heap.size 104 3 (.slice a7 r c7) r (tic l)) := fun V nV => ownsRow_keep O7.out (fun g hg => (N40.out.tr (N06.out.tr nV)).block g (O7.out.lt g hg).2 (fun f => f))
  have KB : Hid (∀ V, Nw w6 V → V.cell? ⟨fb, 0, none⟩ = some (.int .i64 fc) ∧ V.cell? ⟨fb, 1, none⟩ = some (.int .i64 fp)) := fun V nV => by
    have h := ((N06.out.tr nV).block _ (heap_lt B0.out) (fun f => f)).trans B0.out
    exact ⟨(cell_of h 0).trans rfl, (cell_of h 1).trans rfl⟩
  have NW6 : Hid (Nw w w6) := NW0.out.tr N06.out
  obtain ⟨y0, y1⟩ := KB.out w6 (nwr w6)
  go_wp2_with fail
  refine (QS.out w6 NW6.out).mono ?_
  rintro _ w7 ⟨rfl, n7⟩
  have N7 : Hid (Nw w6 w7) := n7
  clear n7 y0 y1
  obtain ⟨y0, y1⟩ := KB.out w7 N7.out
  go_wp2_with fail
  refine (QS.out w7 (NW6.out.tr N7.out)).mono ?_
  rintro _ w8 ⟨rfl, n8⟩
  have N8 : Hid (Nw w6 w8) := N7.out.tr n8
  clear n8 y0 y1
  go_wp2_with fail
  refine (QM.out _ _ _ _ _ _ _ (K5.out _ N8.out) (K7.out _ N8.out)).mono ?_
  rintro _ w9 ⟨rfl, n9⟩
  have N9 : Hid (Nw w6 w9) := N8.out.tr n9
  clear n9
  go_wp2_with fail
  refine (QM.out _ _ _ _ _ _ _ (K6.out _ N9.out) (K7.out _ N9.out)).mono ?_
  rintro _ w10 ⟨rfl, n10⟩
  have N10 : Hid (Nw w6 w10) := N9.out.tr n10
  clear n10
  go_wp2_with fail
  refine (QLE.out w10 g (NW6.out.tr N10.out) (T0.out.nw (N06.out.tr N10.out))).mono ?_
  rintro _ w12 ⟨rfl, n12⟩
  have N12 : Hid (Nw w6 w12) := N10.out.tr n12
  clear n12
  go_wp2_with fail
  have hbB : QB.Bk (w12.alloc (.cells (QB.bkc 0 QB.nilS) 63)) w12.heap.size 0 QB.nilS [] := ⟨heap_new _ _, World.ownsRow_nil _ _ _ _⟩
  refine (QB.tiles_any w12.heap.size 0 QB.nilS [] a5 r c5 _ hbB (by omega) (by simp)).mono ?_
  rintro _ w13 ⟨rfl, ⟨v13, hb13⟩, f13⟩
  have HB13 : Hid (QB.Bk w13 w12.heap.size 1 v13 [(.slice a5 r c5, QB.nilS, 1)]) := hb13
  have F13 : Hid (Fr (fun k => w12.heap.size ≤ k) w12 w13) := ((nwa w12 _).mono (S' := fun k => w12.heap.size ≤ k) (fun _ _ f => f.elim)).trans f13 (fun k hk h => h)
  clear hbB hb13 f13
  go_wp2_with fail
  refine (QB.tiles_any w12.heap.size 1 v13 _ a6 r c6 _ HB13.out (by omega) (by simp)).mono ?_
  rintro _ w14 ⟨rfl, ⟨v14, hb14⟩, f14⟩
  have HB14 : Hid (QB.Bk w14 w12.heap.size 2 v14 [(.slice a5 r c5, QB.nilS, 1), (.slice a6 r c6, QB.nilS, 2)]) := hb14
  have F14 : Hid (Fr (fun k => w12.heap.size ≤ k) w12 w14) := F13.out.trans f14 (fun k hk h => h)
  clear hb14 f14
  obtain ⟨gl, cap, hv9, hgl, _⟩ := HB14.out.cells 0 _ rfl
  subst hv9
  have N512 : Hid (Nw w5 w12) := N56.out.tr N12.out
  have N012 : Hid (Nw w0 w12) := N06.out.tr N12.out
  have hrw : Hid (QB.Rws w14 w0.heap.size w12.heap.size [(.slice a5 r c5, QB.nilS, 1), (.slice a6 r c6, QB.nilS, 2)] (fun _ => QB.qt l)) :=
    QB.two_rows (show w5.ownsRow w0.heap.size 104 3 (.slice a5 r c5) l.length (tic l) by rw [← HRR.out]; exact O5.out) (show w6.ownsRow w5.heap.size 104 3 (.slice a6 r c6) l.length (tic l) by rw [← HRR.out]; exact O6.out) (Nat.le_refl _) N5.out.size N12.out.size N56.out.size
      (fun q hq => (F14.out.block q (by have := N512.out.size; omega) (by have := N512.out.size; show ¬ (w12.heap.size ≤ q); omega)).trans (N512.out.block q hq (fun f => f)))
      (fun q hq => (F14.out.block q (by have := N12.out.size; omega) (by have := N12.out.size; show ¬ (w12.heap.size ≤ q); omega)).trans (N12.out.block q hq (fun f => f)))
  have NW14 : Hid (Nw w0 w14) := N012.out.trans F14.out (fun k hk h => by have h' : w12.heap.size ≤ k := h; have := N012.out.size; omega)
  have HGL : Hid (w12.heap.size < gl) := hgl
  have HX3 : Hid (∀ i : Nat, (QB.qt l).length ≤ 1100000) := fun _ => by rw [QB.qt_len, ← HRR.out]; omega
  have hb4 : w0.heap.size ≤ w12.heap.size := N012.out.size
  clear hgl
  go_wp2_with fail
  refine (QB.apart_any w0.heap.size w12.heap.size 2 gl cap _ (fun _ => QB.qt l) _ HB14.out HGL.out hrw.out hb4 (by simp) HX3.out (QB.num2 _ _)).mono ?_
  rintro _ w15 ⟨rfl, f15⟩
  have N15 : Hid (Nw w0 w15) := NW14.out.trans f15 (fun k hk h => by have h' : w0.heap.size ≤ k := h; omega)
  clear f15
  go_wp2_with fail
  refine (QLE.out w15 g (NW0.out.tr N15.out) (T0.out.nw N15.out)).mono ?_
  rintro _ w16 ⟨rfl, n16⟩
  have N16 : Hid (Nw w w16) := (NW0.out.tr N15.out).tr n16
  clear n16
  go_wp2_with fail
  refine (QA.out _ N16.out).mono ?_
  rintro _ w17 ⟨rfl, n17⟩
  have N17 : Hid (Nw w w17) := N16.out.tr n17
  clear n17
  go_wp2
  go_ret
  exact ⟨rfl, N17.out⟩
end Go.Proofs.YtlaiomgebkeldaaGreatDoor
