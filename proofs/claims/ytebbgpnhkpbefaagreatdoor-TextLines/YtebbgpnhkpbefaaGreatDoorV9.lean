/- TextLines: the walk. -/
import Derived.Test.YtebbgpnhkpbefaaGreatDoorD9
import Derived.Test.YtebbgpnhkpbefaaGreatDoorTx7
import Derived.Test.YtebbgpnhkpbefaaGreatDoorA13
namespace Go.Proofs.YtebbgpnhkpbefaaGreatDoor
namespace TB
open Go.RowKit
set_option linter.unusedVariables false
set_option linter.unusedSimpArgs false

set_option maxHeartbeats 1000000 in
theorem texts_any (bk N : Nat) (v : Value) (H : List Held) (ad : Option Addr) (n cap : Nat) (w : World) (hB : Bk w bk N v H) (hN : N ≤ 100) (hH : H.length ≤ 100) :
    Calls Tryz.prog 9 #[.pointer (some ⟨bk, 0, none⟩), .slice ad n cap] w fun e w' => e = .returned (.tuple #[]) ∧ (∃ v', Bk w' bk (N + 1) v' (H ++ [(.slice ad n cap, nilS, N + 1)])) ∧ Fr (fun k => bk ≤ k) w w' := by
  have q := keep_any bk N v H ad n cap w hB hN hH
  clear hB
  go_enter Tryz.func9, Tryz.ntmps9
  go_wp2_with fail
  refine q.mono ?_
  rintro e1 w1 ⟨rfl, hb, hf⟩
  go_wp2
  go_end0
  exact ⟨rfl, hb, hf⟩
/-- Three rows that were made one behind the other, kept by a Book that was made behind them. -/
theorem three {w w1 w2 w3 wk : World} {B0 bk : Nat} {v1 v2 v3 : Value} {l m : List Value} {a b c : World}
    (o1 : w1.ownsRow a.heap.size 9 1 v1 l.length l) (o2 : w2.ownsRow b.heap.size 9 1 v2 m.length m) (o3 : w3.ownsRow c.heap.size 9 1 v3 l.length l)
    (h0 : B0 ≤ a.heap.size) (h1 : a.heap.size ≤ w1.heap.size) (hb : w1.heap.size ≤ b.heap.size) (h2 : b.heap.size ≤ w2.heap.size) (hc : w2.heap.size ≤ c.heap.size) (h3 : c.heap.size ≤ w3.heap.size) (h4 : w3.heap.size ≤ bk)
    (k1 : ∀ q, q < w1.heap.size → wk.heap[q]? = w1.heap[q]?) (k2 : ∀ q, q < w2.heap.size → wk.heap[q]? = w2.heap[q]?) (k3 : ∀ q, q < w3.heap.size → wk.heap[q]? = w3.heap[q]?) :
    Rws wk B0 bk [(v1, nilS, 1), (v2, nilS, 2), (v3, nilS, 3)] (fun i => if i = 1 then m else l) := by
  refine ⟨?_, ?_, ?_, ?_⟩
  · intro i h hi
    rcases i with _ | _ | _ | i
    · simp at hi; subst hi
      exact ownsRow_keep (ownsRow_base o1 (by omega)) (fun g hg => k1 g (o1.lt g hg).2)
    · simp at hi; subst hi
      exact ownsRow_keep (ownsRow_base o2 (by omega)) (fun g hg => k2 g (o2.lt g hg).2)
    · simp at hi; subst hi
      exact ownsRow_keep (ownsRow_base o3 (by omega)) (fun g hg => k3 g (o3.lt g hg).2)
    · simp at hi
  · intro i h hi g hg
    rcases i with _ | _ | _ | i
    · simp at hi; subst hi
      have := (o1.lt g hg).2; omega
    · simp at hi; subst hi
      have := (o2.lt g hg).2; omega
    · simp at hi; subst hi
      have := (o3.lt g hg).2; omega
    · simp at hi
  · intro i j h h' g hij hi hj hg hg'
    rcases i with _ | _ | _ | i
    · simp at hi; subst hi
      have := o1.lt g hg
      rcases j with _ | _ | _ | j
      · exact hij rfl
      · simp at hj; subst hj; have := o2.lt g hg'; omega
      · simp at hj; subst hj; have := o3.lt g hg'; omega
      · simp at hj
    · simp at hi; subst hi
      have := o2.lt g hg
      rcases j with _ | _ | _ | j
      · simp at hj; subst hj; have := o1.lt g hg'; omega
      · exact hij rfl
      · simp at hj; subst hj; have := o3.lt g hg'; omega
      · simp at hj
    · simp at hi; subst hi
      have := o3.lt g hg
      rcases j with _ | _ | _ | j
      · simp at hj; subst hj; have := o1.lt g hg'; omega
      · simp at hj; subst hj; have := o2.lt g hg'; omega
      · exact hij rfl
      · simp at hj
    · simp at hi
  · intro i h hi
    rcases i with _ | _ | _ | i
    · simp at hi; subst hi; exact ⟨_, _, _, rfl⟩
    · simp at hi; subst hi; exact ⟨_, _, _, rfl⟩
    · simp at hi; subst hi; exact ⟨_, _, _, rfl⟩
    · simp at hi
theorem num3 (v1 v2 v3 : Value) (i : Nat) : num [(v1, nilS, 1), (v2, nilS, 2), (v3, nilS, 3)] i ≤ 100 := by
  rcases i with _ | _ | _ | i <;> simp [num]

theorem Pow.fr {w w' : World} (h : Pow w) (hf : Nw w w') : Pow w' := Lib.tabBelow_of_tabIs h w' hf.bel
abbrev cF (c p : Int) : Obj := .cells #[.int .i64 c, .int .i64 p] 24
theorem cell2a {w : World} {b : Nat} {x y : Value} {t : TypeId} {f : Nat × Nat} (h : w.heap[b]? = some (.cells #[x, y] t f)) : w.cell? ⟨b, 0, none⟩ = some x := (cell_of h 0).trans rfl
theorem cell2b {w : World} {b : Nat} {x y : Value} {t : TypeId} {f : Nat × Nat} (h : w.heap[b]? = some (.cells #[x, y] t f)) : w.cell? ⟨b, 1, none⟩ = some y := (cell_of h 1).trans rfl
theorem xy : rd [] (⟨#[120, 10, 121, 10]⟩ : ByteArray) (unls (⟨#[120, 10, 121, 10]⟩ : ByteArray).data.toList) = ([[120], [121]], 0, none) := by kernel_rfl
theorem sl_two (w : World) (x y : ByteArray) (t : TypeId) : Sl (w.alloc (.cells #[.string x, .string y] t)) (.slice (some ⟨w.heap.size, 0, none⟩) 2 2) [x.data.toList, y.data.toList] := by
  refine ⟨_, 2, rfl, fun j hj => ⟨w.heap.size, 0, rfl, ?_⟩⟩
  rw [Nat.zero_add, cell_of (heap_alloc_new w _)]
  match j, hj with
  | 0, _ => rfl
  | 1, _ => rfl
theorem same_l (va vb : Value) (l : List (List UInt8)) (w : World) (ha : Sl w va l) (hb : Sl w vb l) (hl : l.length ≤ 1048576) :
    Calls Tryz.prog 7 #[va, vb] w fun e w' => e = .returned (.bool true) ∧ Nw w w' := by
  have q := sameTexts_any va vb l l w ha hb (by omega) (by omega)
  rw [decide_eq_true rfl] at q
  exact q
theorem beyond_one (g n : Nat) (w : World) (h : w.cell? ⟨g, 0, none⟩ = some (.int .i64 (n : Int))) (hn : n ≤ 1048576) :
    Calls Tryz.prog 8 #[.slice (some ⟨g, 0, none⟩) 1 1] w fun e w' => e = .returned (.bool false) ∧ w' = w := by
  have hz : ¬ (1048576 : Int) < (n : Int) := by omega
  go_enter Tryz.func8, Tryz.ntmps8
  go_wp2
  go_loop [3, 4] (fun s i => (s = .int .i64 0 ∧ i = .int .i64 0) ∨ (s = .int .i64 (n : Int) ∧ i = .int .i64 1)) (fun _ i => 1 - (intOf i).toNat)
  case atStart => exact .inl ⟨rfl, rfl⟩
  case round =>
    rcases hrel with ⟨rfl, rfl⟩ | ⟨rfl, rfl⟩
    · go_wp2
      exact ⟨.inr ⟨rfl, rfl⟩, by simp [intOf]⟩
    · go_wp2
      go_ret
      exact ⟨rfl, rfl⟩

set_option maxRecDepth 100000 in
set_option maxHeartbeats 4000000 in
theorem lines_core (s : ByteArray) (l : List (List UInt8)) (c p : Int) (code : Nat) (pl : Option Int) {B : Nat} {a : Nat → Addr} (w : World) (hS : Sent B w a) (hT : Tabs w) (hP : Pow w) (hl : l.length ≤ 1048576)
    (QR : ∀ W, Nw w W → Calls Tryz.prog 4 #[.string s] W fun x w' => ∃ v, x = .returned (.tuple #[v, .agg #[.int .i64 c, .int .i64 p]]) ∧ OwnS W.heap.size w' v l ∧ Nw W w')
    (QC : ∀ W, Nw w W → Calls Tryz.prog 5 #[.string s] W fun x w' => ∃ v er, x = .returned (.tuple #[v, er]) ∧ OwnS W.heap.size w' v l ∧ EV w' a er code pl ∧ Nw W w')
    (QS : ∀ W er, Nw w W → EV W a er code pl → Calls Tryz.prog 6 #[er, .agg #[.int .i64 c, .int .i64 p]] W fun x w' => x = .returned (.bool true) ∧ Nw W w') :
    Calls Tryz.prog 3 #[.string s] w fun x w' => x = .returned (.bool true) ∧ Nw w w' := by
  have HSe : Hid (Sent B w a) := hS
  have HT : Hid (Tabs w) := hT
  have HP : Hid (Pow w) := hP
  have HR := show Hid _ from QR
  have HC := show Hid _ from QC
  have HS := show Hid _ from QS
  clear QR QC QS hT hS hP
  go_enter Tryz.func3, Tryz.ntmps3
  go_wp2_with fail
  refine (HR.out _ (nwr w)).mono ?_
  rintro x1 w1 ⟨v0, rfl, o0, n1⟩
  obtain ⟨a0, c0, rfl⟩ := ownsRow_form o0
  have O0 : Hid (OwnS w.heap.size w1 (.slice a0 l.length c0) l) := o0
  have N1 : Hid (Nw w w1) := n1
  clear o0 n1
  go_wp2_with fail
  refine (HC.out _ (N1.out.alloc _)).mono ?_
  rintro x2 w3 ⟨v1, er1, rfl, o1, ev1, n3⟩
  obtain ⟨a1, c1, rfl⟩ := ownsRow_form o1
  have O1 : Hid (OwnS (w1.alloc (cF c p)).heap.size w3 (.slice a1 l.length c1) l) := o1
  have E1 : Hid (EV w3 a er1 code pl) := ev1
  have D3 : Hid (w3.heap[w1.heap.size]? = some (cF c p)) := (n3.block _ (by simp) (fun f => f)).trans (heap_new _ _)
  have N13 : Hid (Nw w1 w3) := Nw.tr (nwa w1 _) n3
  have N3 : Hid (Nw w w3) := N1.out.tr N13.out
  have L3 : Hid ((w1.alloc (cF c p)).heap.size ≤ w3.heap.size) := n3.size
  clear o1 ev1 n3
  go_wp2_with fail
  have q3 := lines_any (HSe.out.fr N3.out (fun _ _ f => f)) ⟨#[120, 10, 121, 10]⟩ (by decide)
  rw [xy] at q3
  refine q3.mono ?_
  rintro x3 w4 ⟨v2, er2, rfl, o2, ev2, n4⟩
  clear q3 ev2
  obtain ⟨a2, c2, rfl⟩ := ownsRow_form o2
  have O2 : Hid (OwnS w3.heap.size w4 (.slice a2 2 c2) [[120], [121]]) := o2
  have N34 : Hid (Nw w3 w4) := n4
  have N4 : Hid (Nw w w4) := N3.out.tr n4
  clear o2 n4
  go_wp2_with fail
  refine (HC.out _ N4.out).mono ?_
  rintro x4 w5 ⟨v3, er3, rfl, o3, ev3, n5⟩
  obtain ⟨a3, c3, rfl⟩ := ownsRow_form o3
  have O3 : Hid (OwnS w4.heap.size w5 (.slice a3 l.length c3) l) := o3
  have E3 : Hid (EV w5 a er3 code pl) := ev3
  have N45 : Hid (Nw w4 w5) := n5
  have N5 : Hid (Nw w w5) := N4.out.tr n5
  have N35 : Hid (Nw w3 w5) := N34.out.tr n5
  have d5 := (N35.out.block _ (heap_lt D3.out) (fun f => f)).trans D3.out
  have e0 := cell2a d5
  have e1 := cell2b d5
  have D5 : Hid (w5.heap[w1.heap.size]? = some (cF c p)) := d5
  clear o3 n5 d5 ev3
  go_wp2_with fail
  refine (HS.out _ _ N5.out (E1.out.fr N35.out)).mono ?_
  rintro x5 w6 ⟨rfl, n6⟩
  have d6 := (n6.block _ (heap_lt D5.out) (fun f => f)).trans D5.out
  have N56 : Hid (Nw w5 w6) := n6
  clear e0 e1 n6
  have e0 := cell2a d6
  have e1 := cell2b d6
  clear d6
  go_wp2_with fail
  refine (HS.out _ _ (N5.out.tr N56.out) (E3.out.fr N56.out)).mono ?_
  rintro x6 w7 ⟨rfl, n7⟩
  have N57 : Hid (Nw w5 w7) := N56.out.tr n7
  clear e0 e1 n7
  have q0 : Hid (Sl w7 (.slice a0 l.length c0) l) := O0.out.sl.fr (N13.out.tr (N35.out.tr N57.out))
  have q1 : Hid (Sl w7 (.slice a1 l.length c1) l) := O1.out.sl.fr (N35.out.tr N57.out)
  have q3 : Hid (Sl w7 (.slice a3 l.length c3) l) := O3.out.sl.fr N57.out
  have q2 : Hid (Sl w7 (.slice a2 2 c2) [[120], [121]]) := O2.out.sl.fr (N45.out.tr N57.out)
  go_wp2_with fail
  refine (same_l _ _ l _ q1.out q0.out hl).mono ?_
  rintro x7 w8 ⟨rfl, n8⟩
  have N78 : Hid (Nw w7 w8) := n8
  clear n8
  go_wp2_with fail
  refine (same_l _ _ l _ (q3.out.fr N78.out) (q0.out.fr N78.out) hl).mono ?_
  rintro x8 w9 ⟨rfl, n9⟩
  have N79 : Hid (Nw w7 w9) := N78.out.tr n9
  clear n9
  go_wp2_with fail
  refine (same_l _ _ [[120], [121]] _ (q2.out.fr (N79.out.alloc _)) (sl_two w9 ⟨#[120]⟩ ⟨#[121]⟩ _) (by decide)).mono ?_
  rintro x9 w10 ⟨rfl, n10⟩
  have N5x : Hid (Nw w5 w10) := (N57.out.tr (N79.out.alloc _)).tr n10
  clear n10
  go_wp2_with fail
  refine (beyond_one w10.heap.size l.length _ ((cell_of (heap_new _ _) 0).trans rfl) hl).mono ?_
  rintro x10 w11 ⟨rfl, hw11⟩
  have N59 : Hid (Nw w5 w11) := by unfold Hid; rw [hw11]; exact N5x.out.alloc _
  clear hw11
  go_wp2_with fail
  have hbB : Bk (w11.alloc (.cells (bkc 0 nilS) 51)) w11.heap.size 0 nilS [] := ⟨heap_new _ _, World.ownsRow_nil _ _ _ _⟩
  refine (texts_any w11.heap.size 0 nilS [] a1 l.length c1 _ hbB (by omega) (by simp)).mono ?_
  rintro x11 wa ⟨rfl, ⟨va, hba⟩, fa⟩
  have HBa : Hid (Bk wa w11.heap.size 1 va [(.slice a1 l.length c1, nilS, 1)]) := hba
  have FA : Hid (Fr (fun k => w11.heap.size ≤ k) w11 wa) := ((nwa w11 _).mono (S' := fun k => w11.heap.size ≤ k) (fun _ _ f => f.elim)).trans fa (fun _ _ h => h)
  clear hbB hba fa
  go_wp2_with fail
  refine (texts_any _ 1 va _ a2 2 c2 _ HBa.out (by omega) (by simp)).mono ?_
  rintro x12 wb ⟨rfl, ⟨vb, hbb⟩, fb⟩
  have HBb : Hid (Bk wb w11.heap.size 2 vb [(.slice a1 l.length c1, nilS, 1), (.slice a2 2 c2, nilS, 2)]) := hbb
  have FB : Hid (Fr (fun k => w11.heap.size ≤ k) w11 wb) := FA.out.trans fb (fun _ _ h => h)
  clear hbb fb
  go_wp2_with fail
  refine (texts_any _ 2 vb _ a3 l.length c3 _ HBb.out (by omega) (by simp)).mono ?_
  rintro x13 wc ⟨rfl, ⟨vd, hbc⟩, fc⟩
  have HBc : Hid (Bk wc w11.heap.size 3 vd [(.slice a1 l.length c1, nilS, 1), (.slice a2 2 c2, nilS, 2), (.slice a3 l.length c3, nilS, 3)]) := hbc
  have FC : Hid (Fr (fun k => w11.heap.size ≤ k) w11 wc) := FB.out.trans fc (fun _ _ h => h)
  clear hbc fc
  obtain ⟨gl, cap, hv, hgl, _⟩ := HBc.out.cells 0 _ rfl
  subst hv
  have z1 := N1.out.size
  have z3 := L3.out
  have z4 := N34.out.size
  have z5 := N45.out.size
  have z9 := N59.out.size
  have za : (w1.alloc (cF c p)).heap.size = w1.heap.size + 1 := by simp
  have hk : ∀ (W : World), Nw W w11 → ∀ q, q < W.heap.size → wc.heap[q]? = W.heap[q]? := fun W nW q hq => (FC.out.block q (Nat.lt_of_lt_of_le hq nW.size) (by have := nW.size; show ¬ (w11.heap.size ≤ q); omega)).trans (nW.block q hq (fun f => f))
  have hm : (l.map sv).length = l.length := List.length_map _
  have hrw : Hid (Rws wc w.heap.size w11.heap.size [(.slice a1 l.length c1, nilS, 1), (.slice a2 2 c2, nilS, 2), (.slice a3 l.length c3, nilS, 3)] (fun i => if i = 1 then [[120], [121]].map sv else l.map sv)) :=
    three (w := w) (by rw [hm]; exact O1.out) O2.out (by rw [hm]; exact O3.out) (by omega) (by omega) (Nat.le_refl _) z4 (Nat.le_refl _) z5 z9 (hk _ (N35.out.tr N59.out)) (hk _ (N45.out.tr N59.out)) (hk _ N59.out)
  have N9 : Hid (Nw w w11) := N5.out.tr N59.out
  have NC : Hid (Nw w wc) := N9.out.trans FC.out (fun j hj h => by have := N9.out.size; have h' : w11.heap.size ≤ j := h; omega)
  have hz9 := N9.out.size
  have HGL : Hid (w11.heap.size < gl) := hgl
  have HX3 : Hid (∀ i : Nat, (if i = 1 then [[120], [121]].map sv else l.map sv).length ≤ 2000000) := by
    show ∀ i : Nat, _
    intro i
    by_cases hi : i = 1
    · simp only [hi, if_true]
      simp
    · simp only [hi, if_false]
      omega
  have HPW : Hid (∀ W, Fr (fun k => w.heap.size ≤ k) wc W → Pow W) := fun W f => Pow.fr HP.out (NC.out.trans f (fun j hj h => by have h' : w.heap.size ≤ j := h; omega))
  clear z1 z3 z4 z5 z9 za hk hgl hm
  go_wp2_with fail
  refine (apart_any w.heap.size w11.heap.size 3 gl cap _ (fun i => if i = 1 then [[120], [121]].map sv else l.map sv) _ HBc.out HGL.out hrw.out hz9 (by simp) HX3.out (num3 _ _ _) HPW.out).mono ?_
  rintro x14 wd ⟨rfl, fd⟩
  have ND : Hid (Nw w wd) := NC.out.trans fd (fun j hj h => by have h' : w.heap.size ≤ j := h; omega)
  clear fd
  go_wp2_with fail
  refine (alive_any (HSe.out.fr ND.out (fun _ _ f => f)) (HT.out.fr ND.out)).mono ?_
  rintro x15 we ⟨rfl, ne⟩
  have NE : Hid (Nw w we) := ND.out.tr ne
  clear ne
  go_wp2
  go_ret
  exact ⟨rfl, NE.out⟩
theorem rd_len (s : ByteArray) : (rd [] s (unls s.data.toList)).1.length ≤ 1048576 := by
  by_cases hb : 1048576 < s.size
  · rw [rd_long _ _ _ hb]; simp
  · by_cases hf : Lf s.data.toList
    · rw [rd_ok _ _ _ hb (lns [] s.data.toList) (by unfold unls; rw [if_pos hf])]
      have h1 := lns_short s.data.toList []
      have h2 : s.data.toList.length = s.size := by rw [Array.length_toList]; rfl
      show (lns [] s.data.toList).length ≤ _
      omega
    · rw [rd_err _ _ _ hb s.data.toList.length (by unfold unls; rw [if_neg hf])]; simp
theorem same_rd (s : ByteArray) : sameB (rd [] s (unls s.data.toList)).2.1 (rd [] s (unls s.data.toList)).2.2 ((rd [] s (unls s.data.toList)).2.1 : Int) (fp (rd [] s (unls s.data.toList)).2.1 (rd [] s (unls s.data.toList)).2.2) = true := by
  by_cases hb : 1048576 < s.size
  · rw [rd_long _ _ _ hb]; rfl
  · by_cases hf : Lf s.data.toList
    · rw [rd_ok _ _ _ hb (lns [] s.data.toList) (by unfold unls; rw [if_pos hf])]; rfl
    · rw [rd_err _ _ _ hb s.data.toList.length (by unfold unls; rw [if_neg hf])]
      generalize s.data.toList.length = n
      have h : ((n : Int) = -1) = False := by simp
      simp [sameB, fp, h]
theorem textlines_any (s : ByteArray) (hs : s.size ≤ 9223372036854775807) {B : Nat} {a : Nat → Addr} (w : World) (hS : Sent B w a) (hT : Tabs w) (hP : Pow w) :
    Calls Tryz.prog 3 #[.string s] w fun x w' => x = .returned (.bool true) ∧ Nw w w' := by
  refine lines_core s (rd [] s (unls s.data.toList)).1 _ _ (rd [] s (unls s.data.toList)).2.1 (rd [] s (unls s.data.toList)).2.2 w hS hT hP (rd_len s) (fun W _ => reflines_any s W hs) (fun W n => lines_any (hS.fr n (fun _ _ f => f)) s hs) (fun W er n ev => ?_)
  have q := same_any (hS.fr n (fun _ _ f => f)) ev ((rd [] s (unls s.data.toList)).2.1 : Int) (fp (rd [] s (unls s.data.toList)).2.1 (rd [] s (unls s.data.toList)).2.2)
  rw [same_rd] at q
  exact q
end TB
end Go.Proofs.YtebbgpnhkpbefaaGreatDoor
