/- ShapePeaks: the walk. -/
import Derived.Test.YtigbjpphmbmbiaaGreatDoorB7
import Derived.Test.YtigbjpphmbmbiaaGreatDoorR5
import Derived.Test.YtigbjpphmbmbiaaGreatDoorS6
namespace Go.Proofs.YtigbjpphmbmbiaaGreatDoor
open Go.RowKit
set_option linter.unusedVariables false
set_option linter.unusedSimpArgs false

set_option maxHeartbeats 1000000 in
theorem coordsB_any (bk N : Nat) (v : Value) (H : List Held) (ad : Option Addr) (n cap : Nat) (w : World) (hB : Bk w bk N v H) (hN : N ≤ 100) (hH : H.length ≤ 100) :
    Calls Tryz.prog 20 #[.pointer (some ⟨bk, 0, none⟩), .slice ad n cap] w fun e w' => e = .returned (.tuple #[]) ∧ (∃ v', Bk w' bk (N + 1) v' (H ++ [(.slice ad n cap, nilS, N + 1)])) ∧ Fr (fun k => bk ≤ k) w w' := by
  have q := keep_any bk N v H ad n cap w hB hN hH
  clear hB
  go_enter Tryz.func20, Tryz.ntmps20
  go_wp2_with fail
  refine q.mono ?_
  rintro e1 w1 ⟨rfl, hb, hf⟩
  go_wp2
  go_end0
  exact ⟨rfl, hb, hf⟩
/-- Two rows in blocks of their own. -/
theorem two_rwc {wk : World} {B0 bk : Nat} {v1 v2 : Value} {l : List (Nat × Nat)} (o1 : wk.ownsRow B0 69 2 v1 l.length (fl l)) (o2 : wk.ownsRow B0 69 2 v2 l.length (fl l))
    (hd : ∀ g, v1.ownBlock = some g → v2.ownBlock ≠ some g) (h1 : ∀ g, v1.ownBlock = some g → g < bk) (h2 : ∀ g, v2.ownBlock = some g → g < bk) :
    Rws wk B0 bk [(v1, nilS, 1), (v2, nilS, 2)] (fun _ => l) := by
  refine ⟨?_, ?_, ?_, ?_⟩
  · intro i h hi
    rcases i with _ | _ | i
    · simp at hi; subst hi; exact o1
    · simp at hi; subst hi; exact o2
    · simp at hi
  · intro i h hi g hg
    rcases i with _ | _ | i
    · simp at hi; subst hi; exact h1 g hg
    · simp at hi; subst hi; exact h2 g hg
    · simp at hi
  · intro i j h h' g hij hi hj hg hg'
    rcases i with _ | _ | i
    · simp at hi; subst hi
      rcases j with _ | _ | j
      · exact hij rfl
      · simp at hj; subst hj; exact hd g hg hg'
      · simp at hj
    · simp at hi; subst hi
      rcases j with _ | _ | j
      · simp at hj; subst hj; exact hd g hg' hg
      · exact hij rfl
      · simp at hj
    · simp at hi
  · intro i h hi
    rcases i with _ | _ | i
    · simp at hi; subst hi; exact ⟨_, _, _, rfl⟩
    · simp at hi; subst hi; exact ⟨_, _, _, rfl⟩
    · simp at hi
theorem num2c (v1 v2 : Value) (i : Nat) : num [(v1, nilS, 1), (v2, nilS, 2)] i ≤ 100 := by
  rcases i with _ | _ | i <;> simp [num]


set_option maxHeartbeats 1000000 in
theorem rPeaks_no (n : Nat) (h : ¬ n ≤ 9223372036854775808) (w : World) :
    Calls Tryz.prog 17 #[.int .u64 (n : Int)] w fun x w' => x = .returned (.tuple #[.slice none 0 0, .agg #[.int .i64 5, .int .i64 (-1)]]) ∧ Nw w w' := by
  have hn : (9223372036854775808 : Int) < (n : Int) := by omega
  clear h
  go_enter Tryz.func17, Tryz.ntmps17
  go_wp2_with fail
  refine (rfault_t _).mono ?_
  rintro x w1 ⟨rfl, n1⟩
  have b1 : w1.heap[w.heap.size]? = some (cF 0 0) := (n1.block _ (by simp) (fun f => f)).trans (heap_new w _)
  have n2 : Nw w w1 := Nw.tr (nwa w _) n1
  have c0 := cell2a b1
  have c1 := cell2b b1
  have z0 := frozen_of b1 0
  have z1 := frozen_of b1 1
  have B1 := show Hid _ from b1
  clear n1 b1
  go_wp2
  refine bodyPost_ret (results_slot_cell (V := #[.int .i64 5, .int .i64 (-1)]) (ty := 31) (f := (0, 0)) Tryz.results17 Tryz.isAgg31 Tryz.sizeOf31 rfl _ rfl ?_ rfl) rfl ⟨rfl, (by repeat first | with_reducible exact n2 | with_reducible refine Fr.alloc ?_ _ | with_reducible refine Fr.drew ?_ | (with_reducible refine Fr.setCell ?_ _ _ (fun h => ?_); rotate_left; focus (simp only at h; omega)))⟩
  (repeat first | with_reducible exact B1.out | with_reducible exact heap_new _ _ | with_reducible exact heap_next _ _ _ | with_reducible exact heap_third _ _ _ _ | with_reducible refine hp_dr ?_ | (with_reducible refine hp_ne ?_ ?_; focus omega) | (with_reducible refine hp_al ?_ ?_; focus (first | omega | (simp <;> omega))) | with_reducible apply hp_set) <;> rfl

set_option maxRecDepth 100000 in
set_option maxHeartbeats 4000000 in
theorem peaksL_core (n : Nat) (l : List (Nat × Nat)) (c p : Int) (er : Value) (w : World) (hl : l.length ≤ 200)
    (QP : ∀ W, Nw w W → Calls Tryz.prog 16 #[.int .u64 (n : Int)] W fun x w' => ∃ v, x = .returned (.tuple #[v, er]) ∧ w'.ownsRow W.heap.size 69 2 v l.length (fl l) ∧ Nw W w')
    (QR : ∀ W, Nw w W → Calls Tryz.prog 17 #[.int .u64 (n : Int)] W fun x w' => ∃ v, x = .returned (.tuple #[v, .agg #[.int .i64 c, .int .i64 p]]) ∧ w'.ownsRow W.heap.size 69 2 v l.length (fl l) ∧ Nw W w')
    (QS : ∀ W, Nw w W → Calls Tryz.prog 19 #[er, .agg #[.int .i64 c, .int .i64 p]] W fun x w' => x = .returned (.bool true) ∧ Nw W w') :
    Calls Tryz.prog 6 #[.int .u64 (n : Int)] w fun x w' => x = .returned (.bool true) ∧ Nw w w' := by
  have HP := show Hid _ from QP
  have HR := show Hid _ from QR
  have HSS := show Hid _ from QS
  clear QP QR QS
  go_enter Tryz.func6, Tryz.ntmps6
  go_wp2_with fail
  refine (HP.out _ (nwr w)).mono ?_
  rintro x1 wa ⟨v1, rfl, o1, n1⟩
  obtain ⟨aa, ac, rfl⟩ := ownsRow_form o1
  have O1 : Hid (wa.ownsRow w.heap.size 69 2 (.slice aa l.length ac) l.length (fl l)) := o1
  have NA : Hid (Nw w wa) := n1
  clear o1 n1
  go_wp2_with fail
  refine (HP.out _ NA.out).mono ?_
  rintro x2 wb ⟨v2, rfl, o2, n2⟩
  obtain ⟨ba, bc, rfl⟩ := ownsRow_form o2
  have O2 : Hid (wb.ownsRow wa.heap.size 69 2 (.slice ba l.length bc) l.length (fl l)) := o2
  have NAB : Hid (Nw wa wb) := n2
  clear o2 n2
  go_wp2_with fail
  refine (HR.out _ (NA.out.tr NAB.out)).mono ?_
  rintro x3 wc ⟨v3, rfl, o3, n3⟩
  obtain ⟨ca, cc, rfl⟩ := ownsRow_form o3
  have O3 : Hid (wc.ownsRow wb.heap.size 69 2 (.slice ca l.length cc) l.length (fl l)) := o3
  have NBC : Hid (Nw wb wc) := n3
  clear o3 n3
  go_wp2_with fail
  have NC : Hid (Nw w wc) := (NA.out.tr NAB.out).tr NBC.out
  have OA : Hid (wc.ownsRow w.heap.size 69 2 (.slice aa l.length ac) l.length (fl l)) := ownsRow_keep O1.out (fun g hg => (NAB.out.tr NBC.out).block g (O1.out.lt g hg).2 (fun f => f))
  have OB : Hid (wc.ownsRow w.heap.size 69 2 (.slice ba l.length bc) l.length (fl l)) := ownsRow_keep (ownsRow_base O2.out NA.out.size) (fun g hg => NBC.out.block g (O2.out.lt g hg).2 (fun f => f))
  have HD : Hid (∀ g, (Value.slice aa l.length ac).ownBlock = some g → (Value.slice ba l.length bc).ownBlock ≠ some g) := fun g hg hg2 => by have := (O1.out.lt g hg).2; have := (O2.out.lt g hg2).1; omega
  have HW : Hid (Crd wc (.slice ca l.length cc) l) := Crd.of O3.out
  have N0 : Hid (Nw wc (wc.alloc (cF c p))) := nwa wc _
  refine (same_yes _ _ l _ ((Crd.of OA.out).nw N0.out) (HW.out.nw N0.out) (by omega)).mono ?_
  rintro x1 w1 ⟨rfl, n1⟩
  have b1 := (n1.block _ (by simp) (fun f => f)).trans (heap_new wc _)
  have B1 : Hid (w1.heap[wc.heap.size]? = some (cF c p)) := b1
  have N1 : Hid (Nw wc w1) := N0.out.tr n1
  clear n1 b1
  go_wp2_with fail
  refine (same_yes _ _ l _ ((Crd.of OB.out).nw N1.out) (HW.out.nw N1.out) (by omega)).mono ?_
  rintro x2 w2 ⟨rfl, n2⟩
  have b2 := (n2.block _ (heap_lt B1.out) (fun f => f)).trans B1.out
  have B2 : Hid (w2.heap[wc.heap.size]? = some (cF c p)) := b2
  have N2 : Hid (Nw wc w2) := N1.out.tr n2
  have e0 := cell2a b2
  have e1 := cell2b b2
  clear n2 b2
  go_wp2_with fail
  refine (HSS.out _ (NC.out.tr N2.out)).mono ?_
  rintro x3 w3 ⟨rfl, n3⟩
  have b3 := (n3.block _ (heap_lt B2.out) (fun f => f)).trans B2.out
  have N3 : Hid (Nw wc w3) := N2.out.tr n3
  clear e0 e1 n3
  have e0 := cell2a b3
  have e1 := cell2b b3
  clear b3
  go_wp2_with fail
  refine (HSS.out _ (NC.out.tr N3.out)).mono ?_
  rintro x4 w4 ⟨rfl, n4⟩
  have N4 : Hid (Nw wc w4) := N3.out.tr n4
  have hB0 := NC.out.size
  clear e0 e1 n4
  go_wp2_with fail
  have hbB : Bk (w4.alloc (.cells (bkc 0 nilS) 64)) w4.heap.size 0 nilS [] := ⟨heap_new _ _, World.ownsRow_nil _ _ _ _⟩
  refine (coordsB_any w4.heap.size 0 nilS [] aa l.length ac _ hbB (by omega) (by simp)).mono ?_
  rintro x5 w5 ⟨rfl, ⟨v5, hb5⟩, f5⟩
  have HB5 : Hid (Bk w5 w4.heap.size 1 v5 [(.slice aa l.length ac, nilS, 1)]) := hb5
  have F5 : Hid (Fr (fun k => w4.heap.size ≤ k) w4 w5) := ((nwa w4 _).mono (S' := fun k => w4.heap.size ≤ k) (fun _ _ f => f.elim)).trans f5 (fun _ _ h => h)
  clear hbB hb5 f5
  go_wp2_with fail
  refine (coordsB_any _ 1 v5 _ ba l.length bc _ HB5.out (by omega) (by simp)).mono ?_
  rintro x6 w6 ⟨rfl, ⟨v6, hb6⟩, f6⟩
  have HB6 : Hid (Bk w6 w4.heap.size 2 v6 [(.slice aa l.length ac, nilS, 1), (.slice ba l.length bc, nilS, 2)]) := hb6
  have F6 : Hid (Fr (fun k => w4.heap.size ≤ k) w4 w6) := F5.out.trans f6 (fun _ _ h => h)
  clear hb6 f6
  obtain ⟨gl, cap, hv, hgl, _⟩ := HB6.out.cells 0 _ rfl
  subst hv
  have s4 := N4.out.size
  have hk : ∀ q, q < wc.heap.size → w6.heap[q]? = wc.heap[q]? := fun q hq => (F6.out.block q (by omega) (by show ¬ (w4.heap.size ≤ q); omega)).trans (N4.out.block q hq (fun f => f))
  have hrw : Hid (Rws w6 w.heap.size w4.heap.size [(.slice aa l.length ac, nilS, 1), (.slice ba l.length bc, nilS, 2)] (fun _ => l)) :=
    two_rwc (ownsRow_keep OA.out (fun g hg => hk g (OA.out.lt g hg).2)) (ownsRow_keep OB.out (fun g hg => hk g (OB.out.lt g hg).2)) HD.out (fun g hg => by have := (OA.out.lt g hg).2; omega) (fun g hg => by have := (OB.out.lt g hg).2; omega)
  have FF : Hid (Fr (fun k => w.heap.size ≤ k) wc w6) := (N4.out.mono (S' := fun k => w.heap.size ≤ k) (fun _ _ f => f.elim)).trans F6.out (fun j hj h => by have h' : w4.heap.size ≤ j := h; omega)
  have HGL : Hid (w4.heap.size < gl) := hgl
  have HX3 : Hid (∀ i : Nat, l.length ≤ 1000) := fun _ => by omega
  have hb4 : w.heap.size ≤ w4.heap.size := by omega
  clear hk hgl s4
  go_wp2_with fail
  refine (apart_any w.heap.size w4.heap.size 2 gl cap _ (fun _ => l) _ HB6.out HGL.out hrw.out hb4 (by simp) HX3.out (num2c _ _)).mono ?_
  rintro x7 w7 ⟨rfl, f7⟩
  have F7 : Hid (Fr (fun k => w.heap.size ≤ k) wc w7) := FF.out.trans f7 (fun _ _ h => h)
  clear f7
  go_wp2_with fail
  go_ret
  exact ⟨rfl, NC.out.trans F7.out (fun j hj h => by have h' : w.heap.size ≤ j := h; omega)⟩

theorem peaksL_any (n : Nat) (hn : n < 18446744073709551616) (w : World) (hT : TabAt w) {B : Nat} {a : Nat → Addr} (hS : Sent B w a) :
    Calls Tryz.prog 6 #[.int .u64 (n : Int)] w fun z w' => z = .returned (.bool true) ∧ Nw w w' := by
  by_cases h : n ≤ 9223372036854775808
  · refine peaksL_core n (cov 0 n) 0 0 .nilIface w (by have := cov_len 0 n (by rw [p63]; exact h); omega) (fun W nn => peaks_yes n h W (hT.nw nn)) (fun W _ => rPeaks_yes n h W) (fun W n => ?_)
    have q := same_any (hS.fr n (fun _ _ f => f)) (v := .nilIface) (code := 0) (pl := none) (.inl ⟨rfl, rfl, rfl⟩) 0 0
    rw [show sameB 0 none 0 0 = true by decide] at q
    exact q
  · refine peaksL_core n [] 5 (-1) (sen (a 4)) w (by simp) (fun W nn => (peaks_no n h hn W (hS.fr nn (fun _ _ f => f))).mono ?_) (fun W _ => (rPeaks_no n h W).mono ?_) (fun W n => ?_)
    · rintro x w' ⟨rfl, n⟩
      exact ⟨_, rfl, World.ownsRow_nil _ _ _ _, n⟩
    · rintro x w' ⟨rfl, n⟩
      exact ⟨_, rfl, World.ownsRow_nil _ _ _ _, n⟩
    · have q := same_any (hS.fr n (fun _ _ f => f)) (v := sen (a 4)) (code := 5) (pl := none) (.inr (.inl ⟨4, by decide, rfl, rfl, rfl⟩)) 5 (-1)
      rw [show sameB 5 none 5 (-1) = true by decide] at q
      exact q
end Go.Proofs.YtigbjpphmbmbiaaGreatDoor
