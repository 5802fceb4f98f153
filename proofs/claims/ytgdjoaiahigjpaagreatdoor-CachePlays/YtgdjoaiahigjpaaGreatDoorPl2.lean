/- CachePlays: two caches of the program and two of the document; looks. -/
import Derived.Test.YtgdjoaiahigjpaaGreatDoorPl1
namespace Go.Proofs.YtgdjoaiahigjpaaGreatDoor
namespace RC
open Go.RowKit
open IB (Bk Held Rws nilS bkc num keep_any apart_any)
open CI (Cx)
set_option linter.unusedVariables false
set_option linter.unusedSimpArgs false
abbrev ptr (b : Nat) : Value := .pointer (some ⟨b, 0, none⟩)
abbrev wcs (b r : Nat → Nat) : Obj := .cells #[ptr (b 0), ptr (b 1), ptr (r 0), ptr (r 1)] 29
/-- What lies in memory: each block has a tag: 0 and 1 the program's caches, 2 and 3 the document's, 4 the World, 9 all else. -/
structure Pw (w W : World) (wb N : Nat) (b r c : Nat → Nat) (LS LR : Nat → LT) (tg : Nat → Nat) : Prop where
  nw : Nw w W
  old : ∀ q, q < w.heap.size → tg q = 9
  blk : W.heap[wb]? = some (wcs b r)
  twb : tg wb = 4
  cs : ∀ k, k < 2 → Cx W (fun q => tg q = k) (b k) N (c k) (LS k)
  ds : ∀ k, k < 2 → Dc W (fun q => tg q = 2 + k) (r k) (c k) (LR k)
theorem Pw.go {w W V : World} {wb N : Nat} {b r c : Nat → Nat} {LS LR : Nat → LT} {tg : Nat → Nat} (h : Pw w W wb N b r c LS LR tg) (n : Nw W V) : Pw w V wb N b r c LS LR tg :=
  ⟨h.nw.tr n, h.old, (n.block _ (heap_lt h.blk) (fun e => e)).trans h.blk, h.twb, fun k hk => (h.cs k hk).nw n, fun k hk => (h.ds k hk).nw n⟩
/-- New blocks have the tag t. -/
def tgn (tg : Nat → Nat) (m t : Nat) : Nat → Nat := fun q => if q < m then tg q else t
theorem tgn_lt {tg : Nat → Nat} {m t q : Nat} (h : q < m) : tgn tg m t q = tg q := by simp [tgn, h]
theorem tgn_ge {tg : Nat → Nat} {m t q : Nat} (h : m ≤ q) : tgn tg m t q = t := by simp [tgn]; omega
theorem Pw.setS {w W V : World} {wb N N' : Nat} {b r c : Nat → Nat} {LS LR : Nat → LT} {tg : Nat → Nat} (h : Pw w W wb N b r c LS LR tg) {k : Nat} (hk : k < 2) {L' : LT} (hN : N ≤ N') (hx : Cx V (fun q => tg q = k ∨ W.heap.size ≤ q) (b k) N' (c k) L') (f : Fr (fun q => tg q = k) W V) :
    Pw w V wb N' b r c (up LS k L') LR (tgn tg W.heap.size k) := by
  have hww := h.nw.size
  have hwb := heap_lt h.blk
  refine ⟨h.nw.trans f (fun q hq e => by have := h.old q hq; omega), fun q hq => by rw [tgn_lt (by omega)]; exact h.old q hq, (f.block _ hwb (fun e => by have := h.twb; omega)).trans h.blk, by rw [tgn_lt hwb]; exact h.twb, fun j hj => ?_, fun j hj => ?_⟩
  · by_cases e : j = k
    · subst e
      rw [up_same]
      refine hx.mono (fun q hq e => ?_) (Nat.le_refl _)
      show tgn tg W.heap.size j q = j
      by_cases hq2 : q < W.heap.size
      · rw [tgn_lt hq2]; rcases e with e | e
        · exact e
        · omega
      · exact tgn_ge (by omega)
    · rw [up_ne _ _ e]
      have h1 : Cx W (fun q => tgn tg W.heap.size k q = j) (b j) N' (c j) (LS j) := (h.cs j hj).mono (fun q hq e => by show tgn tg W.heap.size k q = j; rw [tgn_lt hq]; exact e) hN
      exact h1.fr f (fun q hq e1 e2 => by rw [tgn_lt hq] at e1; omega)
  · have h1 : Dc W (fun q => tgn tg W.heap.size k q = 2 + j) (r j) (c j) (LR j) := (h.ds j hj).mono (fun q hq e => by show tgn tg W.heap.size k q = 2 + j; rw [tgn_lt hq]; exact e)
    exact h1.fr f (fun q hq e1 e2 => by rw [tgn_lt hq] at e1; omega)
theorem Pw.setR {w W V : World} {wb N : Nat} {b r c : Nat → Nat} {LS LR : Nat → LT} {tg : Nat → Nat} (h : Pw w W wb N b r c LS LR tg) {k : Nat} (hk : k < 2) {L' : LT} (hx : Dc V (fun q => tg q = 2 + k ∨ W.heap.size ≤ q) (r k) (c k) L') (f : Fr (fun q => q = r k) W V) :
    Pw w V wb N b r c LS (up LR k L') (tgn tg W.heap.size (2 + k)) := by
  have hww := h.nw.size
  have hwb := heap_lt h.blk
  have hr : tg (r k) = 2 + k := by obtain ⟨_, _, _, _, h4⟩ := h.ds k hk; exact h4
  refine ⟨h.nw.trans f (fun q hq e => by have := h.old q hq; rw [e] at this; omega), fun q hq => by rw [tgn_lt (by omega)]; exact h.old q hq, (f.block _ hwb (fun e => by have := h.twb; rw [e] at this; omega)).trans h.blk, by rw [tgn_lt hwb]; exact h.twb, fun j hj => ?_, fun j hj => ?_⟩
  · have h1 : Cx W (fun q => tgn tg W.heap.size (2 + k) q = j) (b j) N (c j) (LS j) := (h.cs j hj).mono (fun q hq e => by show tgn tg W.heap.size (2 + k) q = j; rw [tgn_lt hq]; exact e) (Nat.le_refl _)
    exact h1.fr f (fun q hq e1 e2 => by rw [tgn_lt hq, e2] at e1; omega)
  · by_cases e : j = k
    · subst e
      rw [up_same]
      refine hx.mono (fun q hq e => ?_)
      show tgn tg W.heap.size (2 + j) q = 2 + j
      by_cases hq2 : q < W.heap.size
      · rw [tgn_lt hq2]; rcases e with e | e
        · exact e
        · omega
      · exact tgn_ge (by omega)
    · rw [up_ne _ _ e]
      have h1 : Dc W (fun q => tgn tg W.heap.size (2 + k) q = 2 + j) (r j) (c j) (LR j) := (h.ds j hj).mono (fun q hq e => by show tgn tg W.heap.size (2 + k) q = 2 + j; rw [tgn_lt hq]; exact e)
      exact h1.fr f (fun q hq e1 e2 => by rw [tgn_lt hq, e2] at e1; omega)
theorem Pw.cell {w W : World} {wb N : Nat} {b r c : Nat → Nat} {LS LR : Nat → LT} {tg : Nat → Nat} (h : Pw w W wb N b r c LS LR tg) {k : Nat} (hk : k < 2) : W.cell? ⟨wb, k, none⟩ = some (ptr (b k)) ∧ W.cell? ⟨wb, 2 + k, none⟩ = some (ptr (r k)) := by
  have hk2 : k = 0 ∨ k = 1 := by omega
  rcases hk2 with rfl | rfl
  · exact ⟨(cell_of h.blk 0).trans rfl, (cell_of h.blk 2).trans rfl⟩
  · exact ⟨(cell_of h.blk 1).trans rfl, (cell_of h.blk 3).trans rfl⟩
set_option maxRecDepth 100000 in
set_option maxHeartbeats 2000000 in
theorem looks_any {w W : World} {wb N : Nat} {b r c : Nat → Nat} {L : Nat → LT} {tg : Nat → Nat} (h : Pw w W wb N b r c L L tg) {k : Nat} (hk : k < 2) :
    Calls Tryz.prog 7 #[ptr wb, .int .i64 (k : Int)] W fun e W' => e = .returned (.bool true) ∧ Nw W W' := by
  have HCL : Hid (∀ V, Nw W V → V.cell? ⟨wb, k, none⟩ = some (ptr (b k)) ∧ V.cell? ⟨wb, 2 + k, none⟩ = some (ptr (r k)) ∧ wb < V.heap.size) := fun V nV => ⟨((h.go nV).cell hk).1, ((h.go nV).cell hk).2, heap_lt (h.go nV).blk⟩
  have HCX : Hid (∀ V, Nw W V → Cx V (fun q => tg q = k) (b k) N (c k) (L k)) := fun V nV => (h.go nV).cs k hk
  have HDC : Hid (∀ V, Nw W V → Dc V (fun q => tg q = 2 + k) (r k) (c k) (L k)) := fun V nV => (h.go nV).ds k hk
  obtain ⟨hl1, hl2⟩ := (h.cs k hk).len
  obtain ⟨n, hn⟩ : ∃ n, n = (L k).length := ⟨_, rfl⟩
  obtain ⟨ks, hks⟩ : ∃ ks, ks = (L k).map Prod.fst := ⟨_, rfl⟩
  have Hn : Hid (n = (L k).length) := hn
  have Hks : Hid (ks = (L k).map Prod.fst) := hks
  have hn1 : n ≤ 1024 := by omega
  have HKL : Hid (ks.length = n) := by show _ = _; rw [hks, hn]; simp
  have hki : (k : Int) < 2 := by omega
  have hk0 : (0 : Int) ≤ (k : Int) := by omega
  have QS : Hid (∀ V, Nw W V → Calls Tryz.prog 16 #[ptr (b k)] V fun e w' => ∃ p c, e = .returned (.slice p n c) ∧ w'.ownsRow V.heap.size 3 1 (.slice p n c) n (kis ks) ∧ Is w' p ks ∧ Nw V w') := fun V nV => by
    refine (CI.keys_any (HCX.out V nV)).mono ?_
    rintro e w' ⟨v, rfl, ho, nn⟩
    have ho2 : w'.ownsRow V.heap.size 3 1 v n (kis ks) := by rw [Hn.out, Hks.out]; exact ho
    obtain ⟨p, c, rfl, his, _⟩ := is_row ho2
    exact ⟨p, c, rfl, ho2, his, nn⟩
  have QR : Hid (∀ V, Nw W V → Calls Tryz.prog 17 #[ptr (r k)] V fun e w' => ∃ p c, e = .returned (.slice p n c) ∧ Is w' p ks ∧ Nw V w') := fun V nV => by
    refine (dkeys_any (HDC.out V nV) (by omega)).mono ?_
    rintro e w' ⟨v, rfl, ho, nn⟩
    have ho2 : w'.ownsRow V.heap.size 3 1 v n (kis ks) := by rw [Hn.out, Hks.out]; exact ho
    obtain ⟨p, c, rfl, his, _⟩ := is_row ho2
    exact ⟨p, c, rfl, his, nn⟩
  have QL : Hid (∀ V, Nw W V → Calls Tryz.prog 18 #[ptr (b k)] V fun e w' => e = .returned (.int .i64 (n : Int)) ∧ w' = V) := fun V nV => by rw [Hn.out]; exact CI.len_any (HCX.out V nV)
  clear h hn hks hl1 hl2
  obtain ⟨c0, c2, lw⟩ := HCL.out W (Fr.refl _ _)
  go_enter Tryz.func7, Tryz.ntmps7
  go_wp2_with fail
  refine (QS.out W (Fr.refl _ _)).mono ?_
  rintro e w1 ⟨p1, x1, rfl, o1, i1, n1⟩
  have O1 : Hid (w1.ownsRow W.heap.size 3 1 (.slice p1 n x1) n (kis ks)) := o1
  have I1 : Hid (Is w1 p1 ks) := i1
  have N1 : Hid (Nw W w1) := n1
  clear o1 i1 n1 c0 c2 lw
  obtain ⟨c0, c2, lw⟩ := HCL.out w1 N1.out
  go_wp2_with fail
  refine (QS.out w1 N1.out).mono ?_
  rintro e w2 ⟨p2, x2, rfl, o2, i2, n2⟩
  have O2 : Hid (w2.ownsRow w1.heap.size 3 1 (.slice p2 n x2) n (kis ks)) := o2
  have I2 : Hid (Is w2 p2 ks) := i2
  have N12 : Hid (Nw w1 w2) := n2
  have N2 : Hid (Nw W w2) := N1.out.tr n2
  clear o2 i2 n2 c0 c2 lw
  obtain ⟨c0, c2, lw⟩ := HCL.out w2 N2.out
  go_wp2_with fail
  refine (QR.out w2 N2.out).mono ?_
  rintro e w3 ⟨p3, x3, rfl, i3, n3⟩
  have I3 : Hid (Is w3 p3 ks) := i3
  have N23 : Hid (Nw w2 w3) := n3
  have N3 : Hid (Nw W w3) := N2.out.tr n3
  clear i3 n3 c0 c2 lw
  obtain ⟨c0, c2, lw⟩ := HCL.out w3 N3.out
  go_wp2_with fail
  refine (QL.out w3 N3.out).mono ?_
  rintro e w4 ⟨rfl, rfl⟩
  clear c0 c2 lw
  have hnn : ((n : Int) != (n : Int)) = false := by simp
  go_wp2_with fail
  refine (samei_any p1 p3 x1 x3 ks n w4 ((I1.out.nw N12.out).nw N23.out) I3.out HKL.out (by omega)).mono ?_
  rintro e w5 ⟨rfl, n5⟩
  have N45 : Hid (Nw w4 w5) := n5
  clear n5
  go_wp2_with fail
  refine (samei_any p2 p3 x2 x3 ks n w5 ((I2.out.nw N23.out).nw N45.out) (I3.out.nw N45.out) HKL.out (by omega)).mono ?_
  rintro e w6 ⟨rfl, n6⟩
  have N46 : Hid (Nw w4 w6) := N45.out.tr n6
  clear n6
  go_wp2_with fail
  have hbB : Bk (w6.alloc (.cells (bkc 0 nilS) 77)) w6.heap.size 0 nilS [] := ⟨heap_new _ _, World.ownsRow_nil _ _ _ _⟩
  refine (ints_any w6.heap.size 0 nilS [] p1 n x1 _ hbB (by omega) (by simp)).mono ?_
  rintro e wa ⟨rfl, ⟨va, hba⟩, fa⟩
  have HBa : Hid (Bk wa w6.heap.size 1 va [(.slice p1 n x1, nilS, 1)]) := hba
  have FA : Hid (Fr (fun k => w6.heap.size ≤ k) w6 wa) := ((nwa w6 _).mono (S' := fun k => w6.heap.size ≤ k) (fun _ _ f => f.elim)).trans fa (fun _ _ h => h)
  clear hbB hba fa
  go_wp2_with fail
  refine (ints_any _ 1 va _ p2 n x2 _ HBa.out (by omega) (by simp)).mono ?_
  rintro e wc ⟨rfl, ⟨vb, hbb⟩, fb⟩
  have HBb : Hid (Bk wc w6.heap.size 2 vb [(.slice p1 n x1, nilS, 1), (.slice p2 n x2, nilS, 2)]) := hbb
  have FB : Hid (Fr (fun k => w6.heap.size ≤ k) w6 wc) := FA.out.trans fb (fun _ _ h => h)
  clear hbb fb
  obtain ⟨gl, cap, hv, hgl, _⟩ := HBb.out.cells 0 _ rfl
  subst hv
  have z1 := N1.out.size
  have z2 := N12.out.size
  have z3 := N23.out.size
  have z6 := N46.out.size
  have hkk : ∀ (V : World), Nw V w6 → ∀ q, q < V.heap.size → wc.heap[q]? = V.heap[q]? := fun V nV q hq => (FB.out.block q (Nat.lt_of_lt_of_le hq nV.size) (by have := nV.size; show ¬ (w6.heap.size ≤ q); omega)).trans (nV.block q hq (fun f => f))
  have hkl : (kis ks).length = n := by rw [kis, List.length_map]; exact HKL.out
  have hrw : Hid (Rws wc W.heap.size w6.heap.size [(.slice p1 n x1, nilS, 1), (.slice p2 n x2, nilS, 2)] (fun _ => kis ks)) :=
    two_rows (by rw [hkl]; exact O1.out) (by rw [hkl]; exact O2.out) (Nat.le_refl _) z1 (by omega) z2 (hkk _ ((N12.out.tr N23.out).tr N46.out)) (hkk _ (N23.out.tr N46.out))
  have N6 : Hid (Nw W w6) := N3.out.tr N46.out
  have NC : Hid (Nw W wc) := N6.out.trans FB.out (fun j hj h => by have := N6.out.size; have h' : w6.heap.size ≤ j := h; omega)
  have hz6 := N6.out.size
  have HGL : Hid (w6.heap.size < gl) := hgl
  have HX2 : Hid (∀ i : Nat, (kis ks).length ≤ 2000000) := fun _ => by rw [hkl]; omega
  clear z1 z2 z3 z6 hkk hgl hkl
  go_wp2_with fail
  refine (apart_any W.heap.size w6.heap.size 2 gl cap _ (fun _ => kis ks) _ HBb.out HGL.out hrw.out hz6 (by simp) HX2.out (num2 _ _) (fun _ _ => trivial)).mono ?_
  rintro e wd ⟨rfl, fd⟩
  have ND : Hid (Nw W wd) := NC.out.trans fd (fun j hj h => by have h' : W.heap.size ≤ j := h; omega)
  clear fd
  go_wp2
  go_ret
  exact ⟨rfl, ND.out⟩
end RC
end Go.Proofs.YtgdjoaiahigjpaaGreatDoor
