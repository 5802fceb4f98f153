/- What a statement asks of two answers that are rows of stretches: that they are the document's, and memory of their own. -/
import Derived.Test.YtigbjpphmbmbiaaGreatDoorSp7
import Derived.Test.YtigbjpphmbmbiaaGreatDoorR4
import Derived.Test.YtigbjpphmbmbiaaGreatDoorS6
namespace Go.Proofs.YtigbjpphmbmbiaaGreatDoor
open Go.RowKit
set_option linter.unusedVariables false
set_option linter.unusedSimpArgs false

set_option maxHeartbeats 1000000 in
theorem spansB_any (bk N : Nat) (v : Value) (H : List SB.Held) (ad : Option Addr) (n cap : Nat) (w : World) (hB : SB.Bk w bk N v H) (hN : N ≤ 100) (hH : H.length ≤ 100) :
    Calls Tryz.prog 29 #[.pointer (some ⟨bk, 0, none⟩), .slice ad n cap] w fun e w' => e = .returned (.tuple #[]) ∧ (∃ v', SB.Bk w' bk (N + 1) v' (H ++ [(.slice ad n cap, SB.nilS, N + 1)])) ∧ Fr (fun k => bk ≤ k) w w' := by
  have q := SB.keep_any bk N v H ad n cap w hB hN hH
  clear hB
  go_enter Tryz.func29, Tryz.ntmps29
  go_wp2_with fail
  refine q.mono ?_
  rintro e1 w1 ⟨rfl, hb, hf⟩
  go_wp2
  go_end0
  exact ⟨rfl, hb, hf⟩
/-- Two rows in blocks of their own. -/
theorem two_rws {wk : World} {B0 bk : Nat} {v1 v2 : Value} {l : List (Nat × Nat)} (o1 : wk.ownsRow B0 74 2 v1 l.length (fs l)) (o2 : wk.ownsRow B0 74 2 v2 l.length (fs l))
    (hd : ∀ g, v1.ownBlock = some g → v2.ownBlock ≠ some g) (h1 : ∀ g, v1.ownBlock = some g → g < bk) (h2 : ∀ g, v2.ownBlock = some g → g < bk) :
    SB.Rws wk B0 bk [(v1, SB.nilS, 1), (v2, SB.nilS, 2)] (fun _ => l) := by
  refine ⟨?_, ?_, ?_, ?_⟩
  · intro i h hi
    rcases i with _ | _ | i
    · simp at hi; subst hi; exact o1
    · simp at hi; subst hi; exact o2
    · simp at hi
  · intro i h hi g hg
    rcases i with _ | _ | i
    · simp at hi; subst hi; exact h1 g hg
    · simp at hi; subst hi; exact h2 g hg
    · simp at hi
  · intro i j h h' g hij hi hj hg hg'
    rcases i with _ | _ | i
    · simp at hi; subst hi
      rcases j with _ | _ | j
      · exact hij rfl
      · simp at hj; subst hj; exact hd g hg hg'
      · simp at hj
    · simp at hi; subst hi
      rcases j with _ | _ | j
      · simp at hj; subst hj; exact hd g hg' hg
      · exact hij rfl
      · simp at hj
    · simp at hi
  · intro i h hi
    rcases i with _ | _ | i
    · simp at hi; subst hi; exact ⟨_, _, _, rfl⟩
    · simp at hi; subst hi; exact ⟨_, _, _, rfl⟩
    · simp at hi
theorem num2 (v1 v2 : Value) (i : Nat) : SB.num [(v1, SB.nilS, 1), (v2, SB.nilS, 2)] i ≤ 100 := by
  rcases i with _ | _ | i <;> simp [SB.num]

set_option maxRecDepth 100000 in
set_option maxHeartbeats 4000000 in
theorem spans_any (B0 : Nat) (l : List (Nat × Nat)) (c p : Int) (er va vb vw : Value) (w : World) (hl : l.length ≤ 200) (hB0 : B0 ≤ w.heap.size)
    (oa : w.ownsRow B0 74 2 va l.length (fs l)) (ob : w.ownsRow B0 74 2 vb l.length (fs l)) (hd : ∀ g, va.ownBlock = some g → vb.ownBlock ≠ some g) (hw : Spn w vw l)
    (QS : ∀ W, Nw w W → Calls Tryz.prog 19 #[er, .agg #[.int .i64 c, .int .i64 p]] W fun x w' => x = .returned (.bool true) ∧ Nw W w') :
    Calls Tryz.prog 11 #[va, vb, er, er, vw, .agg #[.int .i64 c, .int .i64 p]] w fun x w' => x = .returned (.bool true) ∧ Fr (fun k => B0 ≤ k) w w' := by
  have HS := show Hid _ from QS
  have HD := show Hid _ from hd
  have HW : Hid (Spn w vw l) := hw
  obtain ⟨aa, ac, rfl⟩ := ownsRow_form oa
  obtain ⟨ba, bc, rfl⟩ := ownsRow_form ob
  have OA : Hid (w.ownsRow B0 74 2 (.slice aa l.length ac) l.length (fs l)) := oa
  have OB : Hid (w.ownsRow B0 74 2 (.slice ba l.length bc) l.length (fs l)) := ob
  clear QS oa ob hd hw
  go_enter Tryz.func11, Tryz.ntmps11
  go_wp2_with fail
  have N0 : Hid (Nw w (w.alloc (cF c p))) := nwa w _
  refine (sames_yes _ _ l _ ((Spn.of OA.out).nw N0.out) (HW.out.nw N0.out) (by omega)).mono ?_
  rintro x1 w1 ⟨rfl, n1⟩
  have b1 := (n1.block _ (by simp) (fun f => f)).trans (heap_new w _)
  have B1 : Hid (w1.heap[w.heap.size]? = some (cF c p)) := b1
  have N1 : Hid (Nw w w1) := N0.out.tr n1
  clear n1 b1
  go_wp2_with fail
  refine (sames_yes _ _ l _ ((Spn.of OB.out).nw N1.out) (HW.out.nw N1.out) (by omega)).mono ?_
  rintro x2 w2 ⟨rfl, n2⟩
  have b2 := (n2.block _ (heap_lt B1.out) (fun f => f)).trans B1.out
  have B2 : Hid (w2.heap[w.heap.size]? = some (cF c p)) := b2
  have N2 : Hid (Nw w w2) := N1.out.tr n2
  have e0 := cell2a b2
  have e1 := cell2b b2
  clear n2 b2
  go_wp2_with fail
  refine (HS.out _ N2.out).mono ?_
  rintro x3 w3 ⟨rfl, n3⟩
  have b3 := (n3.block _ (heap_lt B2.out) (fun f => f)).trans B2.out
  have N3 : Hid (Nw w w3) := N2.out.tr n3
  clear e0 e1 n3
  have e0 := cell2a b3
  have e1 := cell2b b3
  clear b3
  go_wp2_with fail
  refine (HS.out _ N3.out).mono ?_
  rintro x4 w4 ⟨rfl, n4⟩
  have N4 : Hid (Nw w w4) := N3.out.tr n4
  clear e0 e1 n4
  go_wp2_with fail
  have hbB : SB.Bk (w4.alloc (.cells (SB.bkc 0 SB.nilS) 64)) w4.heap.size 0 SB.nilS [] := ⟨heap_new _ _, World.ownsRow_nil _ _ _ _⟩
  refine (spansB_any w4.heap.size 0 SB.nilS [] aa l.length ac _ hbB (by omega) (by simp)).mono ?_
  rintro x5 w5 ⟨rfl, ⟨v5, hb5⟩, f5⟩
  have HB5 : Hid (SB.Bk w5 w4.heap.size 1 v5 [(.slice aa l.length ac, SB.nilS, 1)]) := hb5
  have F5 : Hid (Fr (fun k => w4.heap.size ≤ k) w4 w5) := ((nwa w4 _).mono (S' := fun k => w4.heap.size ≤ k) (fun _ _ f => f.elim)).trans f5 (fun _ _ h => h)
  clear hbB hb5 f5
  go_wp2_with fail
  refine (spansB_any _ 1 v5 _ ba l.length bc _ HB5.out (by omega) (by simp)).mono ?_
  rintro x6 w6 ⟨rfl, ⟨v6, hb6⟩, f6⟩
  have HB6 : Hid (SB.Bk w6 w4.heap.size 2 v6 [(.slice aa l.length ac, SB.nilS, 1), (.slice ba l.length bc, SB.nilS, 2)]) := hb6
  have F6 : Hid (Fr (fun k => w4.heap.size ≤ k) w4 w6) := F5.out.trans f6 (fun _ _ h => h)
  clear hb6 f6
  obtain ⟨gl, cap, hv, hgl, _⟩ := HB6.out.cells 0 _ rfl
  subst hv
  have s4 := N4.out.size
  have hk : ∀ q, q < w.heap.size → w6.heap[q]? = w.heap[q]? := fun q hq => (F6.out.block q (by omega) (by show ¬ (w4.heap.size ≤ q); omega)).trans (N4.out.block q hq (fun f => f))
  have hrw : Hid (SB.Rws w6 B0 w4.heap.size [(.slice aa l.length ac, SB.nilS, 1), (.slice ba l.length bc, SB.nilS, 2)] (fun _ => l)) :=
    two_rws (ownsRow_keep OA.out (fun g hg => hk g (OA.out.lt g hg).2)) (ownsRow_keep OB.out (fun g hg => hk g (OB.out.lt g hg).2)) HD.out (fun g hg => by have := (OA.out.lt g hg).2; omega) (fun g hg => by have := (OB.out.lt g hg).2; omega)
  have FF : Hid (Fr (fun k => B0 ≤ k) w w6) := (N4.out.mono (S' := fun k => B0 ≤ k) (fun _ _ f => f.elim)).trans F6.out (fun j hj h => by have h' : w4.heap.size ≤ j := h; omega)
  have HGL : Hid (w4.heap.size < gl) := hgl
  have HX3 : Hid (∀ i : Nat, l.length ≤ 1000) := fun _ => by omega
  have hb4 : B0 ≤ w4.heap.size := by omega
  clear hk hgl s4
  go_wp2_with fail
  refine (SB.apart_any B0 w4.heap.size 2 gl cap _ (fun _ => l) _ HB6.out HGL.out hrw.out hb4 (by simp) HX3.out (num2 _ _)).mono ?_
  rintro x7 w7 ⟨rfl, f7⟩
  have F7 : Hid (Fr (fun k => B0 ≤ k) w w7) := FF.out.trans f7 (fun _ _ h => h)
  clear f7
  go_wp2_with fail
  go_ret
  exact ⟨rfl, F7.out⟩
end Go.Proofs.YtigbjpphmbmbiaaGreatDoor
