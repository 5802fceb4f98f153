/- TileAlls. -/
import Derived.Test.YtgobdjdaehlgdaaGreatDoorDl
import Derived.Test.YtgobdjdaehlgdaaGreatDoorQtg
namespace Go.Proofs.YtgobdjdaehlgdaaGreatDoor
open Go.RowKit
set_option linter.unusedVariables false
set_option linter.unusedSimpArgs false
theorem same_e4 {w : World} {B : Nat} {a : Nat → Addr} (hS : Sent B w a) : Calls Tryz.prog 9 #[sen (a 4), flt 5 (-1)] w fun e w' => e = .returned (.bool true) ∧ Nw w w' := by
  have := same_any hS (show EV w a (sen (a 4)) 5 none from .inr (.inl ⟨4, by decide, rfl, rfl, rfl⟩)) 5 (-1)
  exact this
theorem both_all (S : Nat) (hS : S < 18446744073709551616) (w : World) {B : Nat} {a : Nat → Addr} (hE : Sent B w a) :
    ∃ (l : List Ti) (ev : Value) (fc fp : Int), l.length ≤ 40000 ∧ (∀ (V : World), Nw w V → Calls Tryz.prog 6 #[.int .u64 (S : Int)] V fun e w' => ∃ va vc, e = .returned (.tuple #[.slice va l.length vc, ev]) ∧ w'.ownsRow V.heap.size 56 3 (.slice va l.length vc) l.length (tic l) ∧ Nw V w') ∧
      (∀ (V : World), Calls Tryz.prog 7 #[.int .u64 (S : Int)] V fun e w' => ∃ va vc, e = .returned (.tuple #[.slice va l.length vc, flt fc fp]) ∧ w'.ownsRow V.heap.size 56 3 (.slice va l.length vc) l.length (tic l) ∧ Nw V w') ∧
      (∀ V, Nw w V → Calls Tryz.prog 9 #[ev, flt fc fp] V fun e w' => e = .returned (.bool true) ∧ Nw V w') := by
  have SS : ∀ V, Nw w V → Sent B V a := fun V nV => hE.fr nV (fun _ _ f => f)
  by_cases h : S ≤ 1048576
  · have := allT_le S h 8
    exact ⟨allT S 8, .nilIface, 0, 0, by omega, fun V nV => all_yes S h V, fun V => rall_yes S h V, fun V nV => same_no (SS V nV)⟩
  · exact ⟨[], sen (a 4), 5, -1, by simp, fun V nV => (all_no S hS (by omega) V (SS V nV)).mono fun e w' ⟨q, n⟩ => ⟨none, 0, q, World.ownsRow_nil _ _ _ _, n⟩, fun V => (rall_no S (by omega) V).mono fun e w' ⟨q, n⟩ => ⟨none, 0, q, World.ownsRow_nil _ _ _ _, n⟩, fun V nV => same_e4 (SS V nV)⟩
namespace QB
/-- Tiles as the Book's cells. -/
def qt (l : List Ti) : List (Nat × Nat × Int) := l.map fun t => (t.L, t.I, (t.W : Int))
theorem qt_len (l : List Ti) : (qt l).length = l.length := by simp [qt]
theorem qt_cells : ∀ l : List Ti, qs (qt l) = tic l
  | [] => rfl
  | t :: r => by
    have e : tic (t :: r) = t.c ++ tic r := by simp [tic]
    rw [e, ← qt_cells r]
    rfl
theorem two_rows {w1 w2 wk : World} {B0 B1 bk : Nat} {v1 v2 : Value} {l : List Ti}
    (o1 : w1.ownsRow B0 56 3 v1 l.length (tic l)) (o2 : w2.ownsRow B1 56 3 v2 l.length (tic l)) (h1 : w1.heap.size ≤ B1) (h0 : B0 ≤ w1.heap.size) (h2 : w2.heap.size ≤ bk) (h3 : w1.heap.size ≤ w2.heap.size)
    (k1 : ∀ q, q < w1.heap.size → wk.heap[q]? = w1.heap[q]?) (k2 : ∀ q, q < w2.heap.size → wk.heap[q]? = w2.heap[q]?) :
    Rws wk B0 bk [(v1, nilS, 1), (v2, nilS, 2)] (fun _ => qt l) := by
  refine ⟨?_, ?_, ?_, ?_⟩
  · intro i h hi
    rw [qt_len, qt_cells]
    rcases i with _ | _ | i
    · simp at hi; subst hi
      exact ownsRow_keep o1 (fun g hg => k1 g (o1.lt g hg).2)
    · simp at hi; subst hi
      exact ownsRow_keep (ownsRow_base o2 (by omega)) (fun g hg => k2 g (o2.lt g hg).2)
    · simp at hi
  · intro i h hi g hg
    rcases i with _ | _ | i
    · simp at hi; subst hi
      have := (o1.lt g hg).2; omega
    · simp at hi; subst hi
      have := (o2.lt g hg).2; omega
    · simp at hi
  · intro i j h h' g hij hi hj hg hg'
    rcases i with _ | _ | i
    · simp at hi; subst hi
      have := o1.lt g hg
      rcases j with _ | _ | j
      · exact hij rfl
      · simp at hj; subst hj; have := o2.lt g hg'; omega
      · simp at hj
    · simp at hi; subst hi
      have := o2.lt g hg
      rcases j with _ | _ | j
      · simp at hj; subst hj; have := o1.lt g hg'; omega
      · exact hij rfl
      · simp at hj
    · simp at hi
  · intro i h hi
    rcases i with _ | _ | i
    · simp at hi; subst hi; exact ⟨_, _, _, rfl⟩
    · simp at hi; subst hi; exact ⟨_, _, _, rfl⟩
    · simp at hi
theorem num2 (v1 v2 : Value) (i : Nat) : num [(v1, nilS, 1), (v2, nilS, 2)] i ≤ 100 := by
  rcases i with _ | _ | i <;> simp [num]
theorem tiles_any (bk N : Nat) (v : Value) (H : List Held) (ad : Option Addr) (n cap : Nat) (w : World) (hB : Bk w bk N v H) (hN : N ≤ 100) (hH : H.length ≤ 100) :
    Calls Tryz.prog 10 #[.pointer (some ⟨bk, 0, none⟩), .slice ad n cap] w fun e w' => e = .returned (.tuple #[]) ∧ (∃ v', Bk w' bk (N + 1) v' (H ++ [(.slice ad n cap, nilS, N + 1)])) ∧ Fr (fun k => bk ≤ k) w w' := by
  have q := keep_any bk N v H ad n cap w hB hN hH
  go_enter Tryz.func10, Tryz.ntmps10
  go_wp2_with fail
  refine q.mono ?_
  rintro e w1 ⟨rfl, h⟩
  go_wp2
  go_end0
  exact ⟨rfl, h⟩
end QB
set_option maxRecDepth 100000 in
set_option maxHeartbeats 4000000 in
theorem alls_any (S : Nat) (hS : S < 18446744073709551616) (w : World) (hP : TX.Pow w) (hM : MaxL w) {B : Nat} {a : Nat → Addr} (hSe : Sent B w a) :
    Calls Tryz.prog 3 #[.int .u64 (S : Int)] w fun e w' => e = .returned (.bool true) ∧ Nw w w' := by
  obtain ⟨l, ev, fc, fp, hl, d1, d2, d3⟩ := both_all S hS w hSe
  have QA : Hid (∀ (V : World), Nw w V → Calls Tryz.prog 6 #[.int .u64 (S : Int)] V fun e w' => ∃ va vc, e = .returned (.tuple #[.slice va l.length vc, ev]) ∧ w'.ownsRow V.heap.size 56 3 (.slice va l.length vc) l.length (tic l) ∧ Nw V w') := d1
  have QR : Hid (∀ (V : World), Calls Tryz.prog 7 #[.int .u64 (S : Int)] V fun e w' => ∃ va vc, e = .returned (.tuple #[.slice va l.length vc, flt fc fp]) ∧ w'.ownsRow V.heap.size 56 3 (.slice va l.length vc) l.length (tic l) ∧ Nw V w') := d2
  have QT : Hid (∀ V, Nw w V → Calls Tryz.prog 9 #[ev, flt fc fp] V fun e w' => e = .returned (.bool true) ∧ Nw V w') := d3
  have QV : Hid (∀ V, Nw w V → Calls Tryz.prog 12 #[] V fun e w' => e = .returned (.bool true) ∧ Nw V w') := fun V nV => lives_any V (hP.fr nV) (hM.nw nV) (hSe.fr nV (fun _ _ f => f))
  have QM : Hid (∀ (V : World) (ad bd : Option Addr) (ca cb b1 b2 : Nat), V.ownsRow b1 56 3 (.slice ad l.length ca) l.length (tic l) → V.ownsRow b2 56 3 (.slice bd l.length cb) l.length (tic l) → Calls Tryz.prog 8 #[.slice ad l.length ca, .slice bd l.length cb] V fun e w' => e = .returned (.bool true) ∧ Nw V w') := fun V ad bd ca cb b1 b2 h1 h2 => samet_yes l ad bd ca cb b1 b2 V h1 h2 (by omega)
  clear d1 d2 d3 hP hM hSe
  obtain ⟨r, hrr⟩ : ∃ r, r = l.length := ⟨_, rfl⟩
  have HRR : Hid (r = l.length) := hrr
  rw [← hrr] at QA QR QM hl
  clear hrr
  have hri : (r : Int) ≤ 40000 := by omega
  go_enter Tryz.func3, Tryz.ntmps3
  go_wp2_with fail
  refine (QA.out _ (Fr.refl _ _)).mono ?_
  rintro _ w5 ⟨a5, c5, rfl, o5, n5⟩
  have O5 : Hid (w5.ownsRow w.heap.size 56 3 (.slice a5 r c5) r (tic l)) := o5
  have N5 : Hid (Nw w w5) := n5
  clear o5 n5
  go_wp2_with fail
  refine (QA.out _ N5.out).mono ?_
  rintro _ w6 ⟨a6, c6, rfl, o6, n6⟩
  have O6 : Hid (w6.ownsRow w5.heap.size 56 3 (.slice a6 r c6) r (tic l)) := o6
  have N56 : Hid (Nw w5 w6) := n6
  have N6 : Hid (Nw w w6) := N5.out.tr n6
  clear o6 n6
  go_wp2_with fail
  refine (QR.out _).mono ?_
  rintro _ w7 ⟨a7, c7, rfl, o7, n7⟩
  have O7 : Hid (w7.ownsRow w6.heap.size 56 3 (.slice a7 r c7) r (tic l)) := o7
  have N67 : Hid (Nw w6 w7) := n7
  clear o7 n7
  go_wp2_with fail
  have K5 : Hid (∀ V, Nw w7 V → V.ownsRow w.heap.size 56 3 (.slice a5 r c5) r (tic l)) := fun V nV => ownsRow_keep O5.out (fun g hg => (N56.out.tr (N67.out.tr nV)).block g (O5.out.lt g hg).2 (fun f => f))
  have K6 : Hid (∀ V, Nw w7 V → V.ownsRow w5.heap.size 56 3 (.slice a6 r c6) r (tic l)) := fun V nV => ownsRow_keep O6.out (fun g hg => (N67.out.tr nV).block g (O6.out.lt g hg).2 (fun f => f))
  have K7 : Hid (∀ V, Nw w7 V → V.ownsRow w6.heap.size 56 3 (.slice a7 r c7) r (tic l)) := fun V nV => ownsRow_keep O7.out (fun g hg => nV.block g (O7.out.lt g hg).2 (fun f => f))
  refine (QM.out _ _ _ _ _ _ _ (K5.out _ (nwa w7 _)) (K7.out _ (nwa w7 _))).mono ?_
  rintro _ w8 ⟨rfl, n8⟩
  have N8 : Hid (Nw w7 w8) := (nwa w7 _).tr n8
  have B8 : Hid (w8.heap[w7.heap.size]? = some (.cells #[.int .i64 fc, .int .i64 fp] 29)) := (n8.block _ (by simp) (fun f => f)).trans (heap_new _ _)
  clear n8
  go_wp2_with fail
  refine (QM.out _ _ _ _ _ _ _ (K6.out _ N8.out) (K7.out _ N8.out)).mono ?_
  rintro _ w9 ⟨rfl, n9⟩
  have N9 : Hid (Nw w7 w9) := N8.out.tr n9
  have b9 := (n9.block _ (heap_lt B8.out) (fun f => f)).trans B8.out
  obtain ⟨y0, y1⟩ : w9.cell? ⟨w7.heap.size, 0, none⟩ = some (.int .i64 fc) ∧ w9.cell? ⟨w7.heap.size, 1, none⟩ = some (.int .i64 fp) := ⟨(cell_of b9 0).trans rfl, (cell_of b9 1).trans rfl⟩
  clear n9 b9
  go_wp2_with fail
  refine (QT.out _ (N6.out.tr (N67.out.tr N9.out))).mono ?_
  rintro _ w12 ⟨rfl, n12⟩
  have N12 : Hid (Nw w7 w12) := N9.out.tr n12
  clear n12 y0 y1
  go_wp2_with fail
  have hbB : QB.Bk (w12.alloc (.cells (QB.bkc 0 QB.nilS) 51)) w12.heap.size 0 QB.nilS [] := ⟨heap_new _ _, World.ownsRow_nil _ _ _ _⟩
  refine (QB.tiles_any w12.heap.size 0 QB.nilS [] a5 r c5 _ hbB (by omega) (by simp)).mono ?_
  rintro _ w13 ⟨rfl, ⟨v13, hb13⟩, f13⟩
  have HB13 : Hid (QB.Bk w13 w12.heap.size 1 v13 [(.slice a5 r c5, QB.nilS, 1)]) := hb13
  have F13 : Hid (Fr (fun k => w12.heap.size ≤ k) w12 w13) := ((nwa w12 _).mono (S' := fun k => w12.heap.size ≤ k) (fun _ _ f => f.elim)).trans f13 (fun k hk h => h)
  clear hbB hb13 f13
  go_wp2_with fail
  refine (QB.tiles_any w12.heap.size 1 v13 _ a6 r c6 _ HB13.out (by omega) (by simp)).mono ?_
  rintro _ w14 ⟨rfl, ⟨v14, hb14⟩, f14⟩
  have HB14 : Hid (QB.Bk w14 w12.heap.size 2 v14 [(.slice a5 r c5, QB.nilS, 1), (.slice a6 r c6, QB.nilS, 2)]) := hb14
  have F14 : Hid (Fr (fun k => w12.heap.size ≤ k) w12 w14) := F13.out.trans f14 (fun k hk h => h)
  clear hb14 f14
  obtain ⟨gl, cap, hv, hgl, _⟩ := HB14.out.cells 0 _ rfl
  subst hv
  have N612 : Hid (Nw w6 w12) := N67.out.tr N12.out
  have N512 : Hid (Nw w5 w12) := N56.out.tr N612.out
  have NW12 : Hid (Nw w w12) := N6.out.tr N612.out
  have hrw : Hid (QB.Rws w14 w.heap.size w12.heap.size [(.slice a5 r c5, QB.nilS, 1), (.slice a6 r c6, QB.nilS, 2)] (fun _ => QB.qt l)) :=
    QB.two_rows (show w5.ownsRow w.heap.size 56 3 (.slice a5 r c5) l.length (tic l) by rw [← HRR.out]; exact O5.out) (show w6.ownsRow w5.heap.size 56 3 (.slice a6 r c6) l.length (tic l) by rw [← HRR.out]; exact O6.out) (Nat.le_refl _) N5.out.size N612.out.size N56.out.size
      (fun q hq => (F14.out.block q (by have := N512.out.size; omega) (by have := N512.out.size; show ¬ (w12.heap.size ≤ q); omega)).trans (N512.out.block q hq (fun f => f)))
      (fun q hq => (F14.out.block q (by have := N612.out.size; omega) (by have := N612.out.size; show ¬ (w12.heap.size ≤ q); omega)).trans (N612.out.block q hq (fun f => f)))
  have NW14 : Hid (Nw w w14) := NW12.out.trans F14.out (fun k hk h => by have h' : w12.heap.size ≤ k := h; have := NW12.out.size; omega)
  have HGL : Hid (w12.heap.size < gl) := hgl
  have HX3 : Hid (∀ i : Nat, (QB.qt l).length ≤ 50000) := fun _ => by rw [QB.qt_len, ← HRR.out]; omega
  have hb4 : w.heap.size ≤ w12.heap.size := NW12.out.size
  clear hgl
  go_wp2_with fail
  refine (QB.apart_any w.heap.size w12.heap.size 2 gl cap _ (fun _ => QB.qt l) _ HB14.out HGL.out hrw.out hb4 (by simp) HX3.out (QB.num2 _ _)).mono ?_
  rintro _ w15 ⟨rfl, f15⟩
  have N15 : Hid (Nw w w15) := NW14.out.trans f15 (fun k hk h => by have h' : w.heap.size ≤ k := h; omega)
  clear f15
  go_wp2_with fail
  refine (QV.out _ N15.out).mono ?_
  rintro _ w16 ⟨rfl, n16⟩
  have N16 : Hid (Nw w w16) := N15.out.tr n16
  clear n16
  go_wp2
  go_ret
  exact ⟨rfl, N16.out⟩
end Go.Proofs.YtgobdjdaehlgdaaGreatDoor
