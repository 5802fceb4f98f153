/- CoordCovers: the walk. -/
import Derived.Test.YtibkmcmgolbhhaaGreatDoorD7
import Derived.Test.YtibkmcmgolbhhaaGreatDoorB7
import Derived.Test.YtibkmcmgolbhhaaGreatDoorT4a
namespace Go.Proofs.YtibkmcmgolbhhaaGreatDoor
open Go.RowKit
set_option linter.unusedVariables false
set_option linter.unusedSimpArgs false

set_option maxHeartbeats 1000000 in
theorem coords_any (bk N : Nat) (v : Value) (H : List Held) (ad : Option Addr) (n cap : Nat) (w : World) (hB : Bk w bk N v H) (hN : N ≤ 100) (hH : H.length ≤ 100) :
    Calls Tryz.prog 8 #[.pointer (some ⟨bk, 0, none⟩), .slice ad n cap] w fun e w' => e = .returned (.tuple #[]) ∧ (∃ v', Bk w' bk (N + 1) v' (H ++ [(.slice ad n cap, nilS, N + 1)])) ∧ Fr (fun k => bk ≤ k) w w' := by
  have q := keep_any bk N v H ad n cap w hB hN hH
  clear hB
  go_enter Tryz.func8, Tryz.ntmps8
  go_wp2_with fail
  refine q.mono ?_
  rintro e1 w1 ⟨rfl, hb, hf⟩
  go_wp2
  go_end0
  exact ⟨rfl, hb, hf⟩
theorem cov17 : (cov 1 7).length = 4 := by
  have a : IsW 1 7 0 := ⟨⟨by decide, by decide⟩, fun h => by have := h.1; simp at this⟩
  have b : IsW 2 7 1 := ⟨⟨by decide, by decide⟩, fun h => by have := h.1; simp at this⟩
  have c : IsW 4 7 1 := ⟨⟨by decide, by decide⟩, fun h => by have := h.2; simp at this⟩
  have d : IsW 6 7 0 := ⟨⟨by decide, by decide⟩, fun h => by have := h.2; simp at this⟩
  rw [cov_step a]
  show (_ :: cov 2 7).length = _
  rw [cov_step b]
  show (_ :: _ :: cov 4 7).length = _
  rw [cov_step c]
  show (_ :: _ :: _ :: cov 6 7).length = _
  rw [cov_step d]
  show (_ :: _ :: _ :: _ :: cov 7 7).length = _
  rw [cov_nil (by omega)]
  rfl
/-- Three rows that were made one behind the other, kept by a Book that was made behind them. -/
theorem three {w w1 w2 w3 wk : World} {B0 bk : Nat} {v1 v2 v3 : Value} {l m : List (Nat × Nat)} {a b c : World}
    (o1 : w1.ownsRow a.heap.size 59 2 v1 l.length (fl l)) (o2 : w2.ownsRow b.heap.size 59 2 v2 m.length (fl m)) (o3 : w3.ownsRow c.heap.size 59 2 v3 l.length (fl l))
    (h0 : B0 ≤ a.heap.size) (h1 : a.heap.size ≤ w1.heap.size) (hb : w1.heap.size ≤ b.heap.size) (h2 : b.heap.size ≤ w2.heap.size) (hc : w2.heap.size ≤ c.heap.size) (h3 : c.heap.size ≤ w3.heap.size) (h4 : w3.heap.size ≤ bk)
    (k1 : ∀ q, q < w1.heap.size → wk.heap[q]? = w1.heap[q]?) (k2 : ∀ q, q < w2.heap.size → wk.heap[q]? = w2.heap[q]?) (k3 : ∀ q, q < w3.heap.size → wk.heap[q]? = w3.heap[q]?) :
    Rws wk B0 bk [(v1, nilS, 1), (v2, nilS, 2), (v3, nilS, 3)] (fun i => if i = 1 then m else l) := by
  refine ⟨?_, ?_, ?_, ?_⟩
  · intro i h hi
    rcases i with _ | _ | _ | i
    · simp at hi; subst hi
      exact ownsRow_keep (ownsRow_base o1 (by omega)) (fun g hg => k1 g (o1.lt g hg).2)
    · simp at hi; subst hi
      exact ownsRow_keep (ownsRow_base o2 (by omega)) (fun g hg => k2 g (o2.lt g hg).2)
    · simp at hi; subst hi
      exact ownsRow_keep (ownsRow_base o3 (by omega)) (fun g hg => k3 g (o3.lt g hg).2)
    · simp at hi
  · intro i h hi g hg
    rcases i with _ | _ | _ | i
    · simp at hi; subst hi
      have := (o1.lt g hg).2; omega
    · simp at hi; subst hi
      have := (o2.lt g hg).2; omega
    · simp at hi; subst hi
      have := (o3.lt g hg).2; omega
    · simp at hi
  · intro i j h h' g hij hi hj hg hg'
    rcases i with _ | _ | _ | i
    · simp at hi; subst hi
      have := o1.lt g hg
      rcases j with _ | _ | _ | j
      · exact hij rfl
      · simp at hj; subst hj; have := o2.lt g hg'; omega
      · simp at hj; subst hj; have := o3.lt g hg'; omega
      · simp at hj
    · simp at hi; subst hi
      have := o2.lt g hg
      rcases j with _ | _ | _ | j
      · simp at hj; subst hj; have := o1.lt g hg'; omega
      · exact hij rfl
      · simp at hj; subst hj; have := o3.lt g hg'; omega
      · simp at hj
    · simp at hi; subst hi
      have := o3.lt g hg
      rcases j with _ | _ | _ | j
      · simp at hj; subst hj; have := o1.lt g hg'; omega
      · simp at hj; subst hj; have := o2.lt g hg'; omega
      · exact hij rfl
      · simp at hj
    · simp at hi
  · intro i h hi
    rcases i with _ | _ | _ | i
    · simp at hi; subst hi; exact ⟨_, _, _, rfl⟩
    · simp at hi; subst hi; exact ⟨_, _, _, rfl⟩
    · simp at hi; subst hi; exact ⟨_, _, _, rfl⟩
    · simp at hi
theorem num3 (v1 v2 v3 : Value) (i : Nat) : num [(v1, nilS, 1), (v2, nilS, 2), (v3, nilS, 3)] i ≤ 100 := by
  rcases i with _ | _ | _ | i <;> simp [num]

set_option maxRecDepth 100000 in
set_option maxHeartbeats 4000000 in
theorem covers_core (b e : Nat) (l : List (Nat × Nat)) (c p : Int) (er : Value) (w : World) (hT : TabAt w) (hl : l.length ≤ 128)
    (QR : ∀ W, Nw w W → Calls Tryz.prog 4 #[sp b e] W fun x w' => ∃ v, x = .returned (.tuple #[v, .agg #[.int .i64 c, .int .i64 p]]) ∧ w'.ownsRow W.heap.size 59 2 v l.length (fl l) ∧ Nw W w')
    (QC : ∀ W, Nw w W → Calls Tryz.prog 5 #[sp b e] W fun x w' => ∃ v, x = .returned (.tuple #[v, er]) ∧ w'.ownsRow W.heap.size 59 2 v l.length (fl l) ∧ Nw W w')
    (QS : ∀ W, Nw w W → Calls Tryz.prog 6 #[er, .agg #[.int .i64 c, .int .i64 p]] W fun x w' => x = .returned (.bool true) ∧ Nw W w') :
    Calls Tryz.prog 3 #[sp b e] w fun x w' => x = .returned (.bool true) ∧ Nw w w' := by
  have HT : Hid (TabAt w) := hT
  have HR := show Hid _ from QR
  have HC := show Hid _ from QC
  have HS := show Hid _ from QS
  clear QR QC QS hT
  go_enter Tryz.func3, Tryz.ntmps3
  go_wp2_with fail
  refine (HR.out _ (nwa w _)).mono ?_
  rintro x1 w1 ⟨v0, rfl, o0, n1⟩
  obtain ⟨l0, b0, n1⟩ := one_made n1
  obtain ⟨a0, c0, rfl⟩ := ownsRow_form o0
  have s0 := cell2a b0
  have s1 := cell2b b0
  have B0 := show Hid _ from b0
  have O0 : Hid (w1.ownsRow _ 59 2 (.slice a0 l.length c0) l.length (fl l)) := o0
  have N1 : Hid (Nw w w1) := n1
  clear b0 o0 n1
  go_wp2_with fail
  refine (HC.out _ (N1.out.alloc _)).mono ?_
  rintro x2 w3 ⟨v1, rfl, o1, n3⟩
  obtain ⟨a1, c1, rfl⟩ := ownsRow_form o1
  have O1 : Hid (w3.ownsRow (w1.alloc (cF c p)).heap.size 59 2 (.slice a1 l.length c1) l.length (fl l)) := o1
  have D3 : Hid (w3.heap[w1.heap.size]? = some (cF c p)) := (n3.block _ (by simp) (fun f => f)).trans (heap_new _ _)
  have N13 : Hid (Nw w1 w3) := Nw.tr (nwa w1 _) n3
  have N3 : Hid (Nw w w3) := N1.out.tr N13.out
  have B3 : Hid (w3.heap[w.heap.size]? = some (.cells #[.int .u64 (b : Int), .int .u64 (e : Int)] 24)) := (N13.out.block _ l0 (fun f => f)).trans B0.out
  have L3 : Hid ((w1.alloc (cF c p)).heap.size ≤ w3.heap.size) := n3.size
  clear s0 s1 o1 n3
  go_wp2_with fail
  refine (cover_yes 1 7 (by omega) (by omega) _ (HT.out.nw N3.out)).mono ?_
  rintro x3 w4 ⟨v2, rfl, o2, n4⟩
  rw [cov17] at o2
  obtain ⟨a2, c2, rfl⟩ := ownsRow_form o2
  have O2 : Hid (w4.ownsRow w3.heap.size 59 2 (.slice a2 4 c2) 4 (fl (cov 1 7))) := o2
  have N34 : Hid (Nw w3 w4) := n4
  have N4 : Hid (Nw w w4) := N3.out.tr n4
  have b4 := (n4.block _ (heap_lt B3.out) (fun f => f)).trans B3.out
  have s0 := cell2a b4
  have s1 := cell2b b4
  clear o2 n4 b4
  go_wp2_with fail
  refine (HC.out _ N4.out).mono ?_
  rintro x4 w5 ⟨v3, rfl, o3, n5⟩
  obtain ⟨a3, c3, rfl⟩ := ownsRow_form o3
  have O3 : Hid (w5.ownsRow w4.heap.size 59 2 (.slice a3 l.length c3) l.length (fl l)) := o3
  have N45 : Hid (Nw w4 w5) := n5
  have N5 : Hid (Nw w w5) := N4.out.tr n5
  have N35 : Hid (Nw w3 w5) := N34.out.tr n5
  have d5 := (N35.out.block _ (heap_lt D3.out) (fun f => f)).trans D3.out
  have e0 := cell2a d5
  have e1 := cell2b d5
  have D5 : Hid (w5.heap[w1.heap.size]? = some (cF c p)) := d5
  clear o3 n5 d5 s0 s1
  go_wp2_with fail
  refine (HS.out _ N5.out).mono ?_
  rintro x5 w6 ⟨rfl, n6⟩
  have d6 := (n6.block _ (heap_lt D5.out) (fun f => f)).trans D5.out
  have N56 : Hid (Nw w5 w6) := n6
  clear e0 e1 n6
  have e0 := cell2a d6
  have e1 := cell2b d6
  clear d6
  go_wp2_with fail
  refine (HS.out _ (N5.out.tr N56.out)).mono ?_
  rintro x6 w7 ⟨rfl, n7⟩
  have N57 : Hid (Nw w5 w7) := N56.out.tr n7
  clear e0 e1 n7
  have q0 : Hid (Crd w7 (.slice a0 l.length c0) l) := (Crd.of O0.out).nw (N13.out.tr (N35.out.tr N57.out))
  have q1 : Hid (Crd w7 (.slice a1 l.length c1) l) := (Crd.of O1.out).nw (N35.out.tr N57.out)
  have q3 : Hid (Crd w7 (.slice a3 l.length c3) l) := (Crd.of O3.out).nw N57.out
  go_wp2_with fail
  refine (same_yes _ _ l _ q1.out q0.out (by omega)).mono ?_
  rintro x7 w8 ⟨rfl, n8⟩
  have N78 : Hid (Nw w7 w8) := n8
  clear n8
  go_wp2_with fail
  refine (same_yes _ _ l _ (q3.out.nw N78.out) (q0.out.nw N78.out) (by omega)).mono ?_
  rintro x8 w9 ⟨rfl, n9⟩
  have N59 : Hid (Nw w5 w9) := (N57.out.tr N78.out).tr n9
  clear n9
  go_wp2_with fail
  have hbB : Bk (w9.alloc (.cells (bkc 0 nilS) 53)) w9.heap.size 0 nilS [] := ⟨heap_new _ _, World.ownsRow_nil _ _ _ _⟩
  refine (coords_any w9.heap.size 0 nilS [] a1 l.length c1 _ hbB (by omega) (by simp)).mono ?_
  rintro x9 wa ⟨rfl, ⟨va, hba⟩, fa⟩
  have HBa : Hid (Bk wa w9.heap.size 1 va [(.slice a1 l.length c1, nilS, 1)]) := hba
  have FA : Hid (Fr (fun k => w9.heap.size ≤ k) w9 wa) := ((nwa w9 _).mono (S' := fun k => w9.heap.size ≤ k) (fun _ _ f => f.elim)).trans fa (fun _ _ h => h)
  clear hbB hba fa
  go_wp2_with fail
  refine (coords_any _ 1 va _ a2 4 c2 _ HBa.out (by omega) (by simp)).mono ?_
  rintro x10 wb ⟨rfl, ⟨vb, hbb⟩, fb⟩
  have HBb : Hid (Bk wb w9.heap.size 2 vb [(.slice a1 l.length c1, nilS, 1), (.slice a2 4 c2, nilS, 2)]) := hbb
  have FB : Hid (Fr (fun k => w9.heap.size ≤ k) w9 wb) := FA.out.trans fb (fun _ _ h => h)
  clear hbb fb
  go_wp2_with fail
  refine (coords_any _ 2 vb _ a3 l.length c3 _ HBb.out (by omega) (by simp)).mono ?_
  rintro x11 wc ⟨rfl, ⟨vd, hbc⟩, fc⟩
  have HBc : Hid (Bk wc w9.heap.size 3 vd [(.slice a1 l.length c1, nilS, 1), (.slice a2 4 c2, nilS, 2), (.slice a3 l.length c3, nilS, 3)]) := hbc
  have FC : Hid (Fr (fun k => w9.heap.size ≤ k) w9 wc) := FB.out.trans fc (fun _ _ h => h)
  clear hbc fc
  obtain ⟨gl, cap, hv, hgl, _⟩ := HBc.out.cells 0 _ rfl
  subst hv
  have z1 := N1.out.size
  have z3 := L3.out
  have z4 := N34.out.size
  have z5 := N45.out.size
  have z9 := N59.out.size
  have za : (w1.alloc (cF c p)).heap.size = w1.heap.size + 1 := by simp
  have hk : ∀ (W : World), Nw W w9 → ∀ q, q < W.heap.size → wc.heap[q]? = W.heap[q]? := fun W nW q hq => (FC.out.block q (Nat.lt_of_lt_of_le hq nW.size) (by have := nW.size; show ¬ (w9.heap.size ≤ q); omega)).trans (nW.block q hq (fun f => f))
  have hrw : Hid (Rws wc w.heap.size w9.heap.size [(.slice a1 l.length c1, nilS, 1), (.slice a2 4 c2, nilS, 2), (.slice a3 l.length c3, nilS, 3)] (fun i => if i = 1 then cov 1 7 else l)) :=
    three (w := w) O1.out (by rw [cov17]; exact O2.out) O3.out (by omega) (by omega) (Nat.le_refl _) z4 (Nat.le_refl _) z5 z9 (hk _ (N35.out.tr N59.out)) (hk _ (N45.out.tr N59.out)) (hk _ N59.out)
  have N9 : Hid (Nw w w9) := N5.out.tr N59.out
  have NC : Hid (Nw w wc) := N9.out.trans FC.out (fun j hj h => by have := N9.out.size; have h' : w9.heap.size ≤ j := h; omega)
  have hz9 := N9.out.size
  have HGL : Hid (w9.heap.size < gl) := hgl
  have HX3 : Hid (∀ i : Nat, (if i = 1 then cov 1 7 else l).length ≤ 1000) := by
    show ∀ i : Nat, _
    intro i
    by_cases hi : i = 1
    · simp only [hi, if_true]
      have := cov17
      omega
    · simp only [hi, if_false]
      omega
  clear z1 z3 z4 z5 z9 za hk hgl
  go_wp2_with fail
  refine (apart_any w.heap.size w9.heap.size 3 gl cap _ (fun i => if i = 1 then cov 1 7 else l) _ HBc.out HGL.out hrw.out hz9 (by simp) HX3.out (num3 _ _ _)).mono ?_
  rintro x12 wd ⟨rfl, fd⟩
  have ND : Hid (Nw w wd) := NC.out.trans fd (fun j hj h => by have h' : w.heap.size ≤ j := h; omega)
  clear fd
  go_wp2_with fail
  refine (alive_any _ (HT.out.nw ND.out)).mono ?_
  rintro x13 we ⟨rfl, ne⟩
  have NE : Hid (Nw w we) := ND.out.tr ne
  clear ne
  go_wp2
  go_ret
  exact ⟨rfl, NE.out⟩
theorem covers_any (b e : Nat) (hb : b < 18446744073709551616) (he : e < 18446744073709551616) (w : World) (hT : TabAt w) {B : Nat} {a : Nat → Addr} (hS : Sent B w a) :
    Calls Tryz.prog 3 #[sp b e] w fun x w' => x = .returned (.bool true) ∧ Nw w w' := by
  by_cases h : b ≤ e ∧ e ≤ 9223372036854775808
  · refine covers_core b e (cov b e) 0 0 .nilIface w hT (cov_len b e (by rw [p63]; exact h.2)) (fun W _ => rcover_yes b e h.1 h.2 W) (fun W n => cover_yes b e h.1 h.2 W (hT.nw n)) (fun W n => ?_)
    have q := same_any (hS.fr n (fun _ _ f => f)) (v := .nilIface) (code := 0) (pl := none) (.inl ⟨rfl, rfl, rfl⟩) 0 0
    rw [show sameB 0 none 0 0 = true by decide] at q
    exact q
  · refine covers_core b e [] 5 (-1) (sen (a 4)) w hT (by simp) (fun W _ => (rcover_no b e h hb he W).mono ?_) (fun W n => (cover_no b e h hb he W (hS.fr n (fun _ _ f => f))).mono ?_) (fun W n => ?_)
    · rintro x w' ⟨rfl, n⟩
      exact ⟨_, rfl, World.ownsRow_nil _ _ _ _, n⟩
    · rintro x w' ⟨rfl, n⟩
      exact ⟨_, rfl, World.ownsRow_nil _ _ _ _, n⟩
    · have q := same_any (hS.fr n (fun _ _ f => f)) (v := sen (a 4)) (code := 5) (pl := none) (.inr (.inl ⟨4, by decide, rfl, rfl, rfl⟩)) 5 (-1)
      rw [show sameB 5 none 5 (-1) = true by decide] at q
      exact q
end Go.Proofs.YtibkmcmgolbhhaaGreatDoor
