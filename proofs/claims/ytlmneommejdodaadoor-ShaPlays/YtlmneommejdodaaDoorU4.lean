/- Three digests and their bytes in memory; one call of the script. -/
import Derived.Test.YtlmneommejdodaaDoorU2
import Derived.Test.YtlmneommejdodaaDoorU3
import Derived.Test.YtlmneommejdodaaDoorT1
import Derived.Deep.RegionHeld3
namespace Go.Proofs.YtlmneommejdodaaDoor
open Go.RowKit
set_option linter.unusedVariables false
set_option linter.unusedSimpArgs false

abbrev ptr (d : Nat) : Value := .pointer (some ⟨d, 0, none⟩)
def wcs3 (D : Nat → Nat) (R : Nat → ByteArray) : Array Value := #[ptr (D 0), ptr (D 1), ptr (D 2), .string (R 0), .string (R 1), .string (R 2)]
theorem wcs3_d (D : Nat → Nat) (R : Nat → ByteArray) (k : Nat) (h : k < 3) : (wcs3 D R)[k]? = some (ptr (D k)) := by
  match k, h with
  | 0, _ => rfl
  | 1, _ => rfl
  | 2, _ => rfl
theorem wcs3_r (D : Nat → Nat) (R : Nat → ByteArray) (k : Nat) (h : k < 3) : (wcs3 D R)[3 + k]? = some (.string (R k)) := by
  match k, h with
  | 0, _ => rfl
  | 1, _ => rfl
  | 2, _ => rfl
def updN (D : Nat → Nat) (k d : Nat) : Nat → Nat := fun i => if i = k then d else D i
def updS (R : Nat → ByteArray) (k : Nat) (x : ByteArray) : Nat → ByteArray := fun i => if i = k then x else R i
theorem wcs3_setd (D : Nat → Nat) (R : Nat → ByteArray) (k d : Nat) (h : k < 3) : (wcs3 D R).setIfInBounds k (ptr d) = wcs3 (updN D k d) R := by
  match k, h with
  | 0, _ => rfl
  | 1, _ => rfl
  | 2, _ => rfl
theorem wcs3_setr (D : Nat → Nat) (R : Nat → ByteArray) (k : Nat) (x : ByteArray) (h : k < 3) : (wcs3 D R).setIfInBounds (3 + k) (.string x) = wcs3 D (updS R k x) := by
  match k, h with
  | 0, _ => rfl
  | 1, _ => rfl
  | 2, _ => rfl
/-- Three digests, from block B on, and the bytes of each. -/
structure Wst (B : Nat) (w : World) (b : Nat) (D : Nat → Nat) (R : Nat → ByteArray) : Prop where
  blk : w.heap[b]? = some (.cells (wcs3 D R) 37 (0, 0))
  low : B ≤ b
  dig : ∀ i, i < 3 → Dig w (D i) (R i).data.toList
  dlow : ∀ i, i < 3 → B ≤ D i ∧ D i ≠ b
  apart : ∀ i j, i < 3 → j < 3 → i ≠ j → D i ≠ D j
theorem Wst.nw {B : Nat} {w w' : World} {b : Nat} {D : Nat → Nat} {R : Nat → ByteArray} (h : Wst B w b D R) (n : Nw w w') : Wst B w' b D R :=
  ⟨(n.block _ (heap_lt h.blk) (fun f => f)).trans h.blk, h.low, fun i hi => (h.dig i hi).keep n (fun f => f), h.dlow, h.apart⟩
theorem Wst.cd {B : Nat} {w : World} {b : Nat} {D : Nat → Nat} {R : Nat → ByteArray} (h : Wst B w b D R) (k : Nat) (hk : k < 3) : w.cell? ⟨b, k, none⟩ = some (ptr (D k)) := by rw [cell_of h.blk, wcs3_d D R k hk]
theorem Wst.cr {B : Nat} {w : World} {b : Nat} {D : Nat → Nat} {R : Nat → ByteArray} (h : Wst B w b D R) (k : Nat) (hk : k < 3) : w.cell? ⟨b, 3 + k, none⟩ = some (.string (R k)) := by rw [cell_of h.blk, wcs3_r D R k hk]
theorem looks_w {B : Nat} {w : World} {b : Nat} {D : Nat → Nat} {R : Nat → ByteArray} (h : Wst B w b D R) (hL : Laid w) (k : Nat) (hk : k < 3) (hR : (R k).size ≤ 4194304) :
    Calls Tryd.prog 18 #[.pointer (some ⟨b, 0, none⟩), .int .i64 (k : Int)] w fun e w' => e = .returned (.bool true) ∧ Nw w w' :=
  looks_any b (D k) k hk (R k) w (h.cd k hk) (h.cr k hk) (h.dig k hk) hL hR
theorem updN_same (D : Nat → Nat) (k d : Nat) : updN D k d k = d := by simp [updN]
theorem updN_ne (D : Nat → Nat) (k d i : Nat) (h : i ≠ k) : updN D k d i = D i := by simp [updN, h]
theorem updS_same (R : Nat → ByteArray) (k : Nat) (x : ByteArray) : updS R k x k = x := by simp [updS]
theorem updS_ne (R : Nat → ByteArray) (k : Nat) (x : ByteArray) (i : Nat) (h : i ≠ k) : updS R k x i = R i := by simp [updS, h]
theorem Wst.upd {B : Nat} {w w' : World} {b : Nat} {D : Nat → Nat} {R : Nat → ByteArray} (h : Wst B w b D R) (k d : Nat) (x : ByteArray) (hblk : w'.heap[b]? = some (.cells (wcs3 (updN D k d) (updS R k x)) 37 (0, 0)))
    (hd : Dig w' d x.data.toList) (ho : ∀ i, i < 3 → i ≠ k → Dig w' (D i) (R i).data.toList) (h1 : B ≤ d) (h2 : d ≠ b) (h3 : ∀ i, i < 3 → i ≠ k → D i ≠ d) : Wst B w' b (updN D k d) (updS R k x) := by
  refine ⟨hblk, h.low, fun i hi => ?_, fun i hi => ?_, fun i j hi hj hij => ?_⟩
  · by_cases e : i = k
    · subst e; rw [updN_same, updS_same]; exact hd
    · rw [updN_ne _ _ _ _ e, updS_ne _ _ _ _ e]; exact ho i hi e
  · by_cases e : i = k
    · subst e; rw [updN_same]; exact ⟨h1, h2⟩
    · rw [updN_ne _ _ _ _ e]; exact h.dlow i hi
  · by_cases e : i = k
    · subst e
      rw [updN_same, updN_ne _ _ _ _ (fun q => hij q.symm)]
      exact fun q => h3 j hj (fun q => hij q.symm) q.symm
    · rw [updN_ne _ _ _ _ e]
      by_cases e2 : j = k
      · subst e2; rw [updN_same]; exact h3 i hi e
      · rw [updN_ne _ _ _ _ e2]; exact h.apart i j hi hj hij
theorem updN_self (D : Nat → Nat) (k : Nat) : updN D k (D k) = D := by
  funext i
  by_cases h : i = k
  · subst h; exact updN_same ..
  · exact updN_ne _ _ _ _ h
theorem upd_le (R : Nat → ByteArray) (k : Nat) (x : ByteArray) (m l : Nat) (h : ∀ i, i < 3 → (R i).size ≤ m) (hx : x.size ≤ m + l) : ∀ i, i < 3 → (updS R k x i).size ≤ m + l := fun i hi => by
  by_cases e : i = k
  · subst e; rw [updS_same]; exact hx
  · rw [updS_ne _ _ _ _ e]; have := h i hi; omega
theorem cell_aside {w : World} {b i j : Nat} {x v : Value} (h : w.cell? ⟨b, j, none⟩ = some x) (hne : i ≠ j) : (w.setCell ⟨b, i, none⟩ v).cell? ⟨b, j, none⟩ = some x := by
  have e : (⟨b, i, none⟩ : Addr) ≠ ⟨b, j, none⟩ := fun q => hne (by injection q)
  first | exact (World.cell?_setCell_other _ _ _ e).trans h | exact (World.cell?_setCell_other _ _ e).trans h | exact (World.cell?_setCell_other _ _ _ _ e).trans h
theorem on_k (O : Int) : ∃ k : Nat, k < 3 ∧ (IntKind.u64.wrap O).tmod 3 = (k : Int) ∧ 0 ≤ IntKind.u64.wrap O := by
  have h : 0 ≤ IntKind.u64.wrap O := by rw [IntKind.wrap_u64]; omega
  refine ⟨((IntKind.u64.wrap O) % 3).toNat, by omega, ?_, h⟩
  rw [Int.tmod_eq_emod_of_nonneg h]
  omega
set_option maxRecDepth 100000 in
set_option maxHeartbeats 4000000 in
theorem does_any (B b : Nat) (D : Nat → Nat) (R : Nat → ByteArray) (o : OpD) (m : Nat) (w : World) (hS : Wst B w b D R) (hL : Laid w) (ho : o.ok w) (hq : ∀ w', Below B w w' → Bys w' o.q o.L) (hB : 2 ≤ B) (hm : ∀ i, i < 3 → (R i).size ≤ m) (hml : m + o.L.length ≤ 1048576) :
    Calls Tryd.prog 17 #[.pointer (some ⟨b, 0, none⟩), .agg o.cells.toArray] w fun e w' => e = .returned (.bool true) ∧ (∃ D' R', Wst B w' b D' R' ∧ ∀ i, i < 3 → (R' i).size ≤ m + o.L.length) ∧ Below B w w' := by
  obtain ⟨k, hk, hkw, hu0⟩ := on_k o.O
  obtain ⟨nx, hnx, hnk⟩ : ∃ nx : Nat, nx < 3 ∧ ((k : Int) + 1).tmod 3 = (nx : Int) := ⟨(k + 1) % 3, by omega, by rw [Int.tmod_eq_emod_of_nonneg (by omega)]; omega⟩
  have hne : nx ≠ k := by rw [Int.tmod_eq_emod_of_nonneg (by omega)] at hnk; omega
  obtain ⟨K, O, q, L, c⟩ := o
  have HS : Hid (Wst B w b D R) := hS
  have HL : Hid (Laid w) := hL
  have HO : Hid ((⟨K, O, q, L, c⟩ : OpD).ok w) := ho
  have HQ : Hid (∀ w', Below B w w' → Bys w' q L) := hq
  have HM : Hid (∀ i, i < 3 → (R i).size ≤ m) := hm
  have HNE : Hid (nx ≠ k) := hne
  have hml2 : m + L.length ≤ 1048576 := hml
  have hbw : b < w.heap.size := heap_lt hS.blk
  have hBb : B ≤ b := hS.low
  show Calls Tryd.prog 17 #[.pointer (some ⟨b, 0, none⟩), .agg #[.int .i64 K, .int .i64 O, .slice q L.length c]] w _
  clear hS hL ho hq hm hml hne
  simp only at hkw hu0
  generalize hU : IntKind.u64.wrap O = U at hkw hu0
  have hiw : IntKind.i64.wrap (k : Int) = (k : Int) := by rw [IntKind.wrap_i64]; omega
  have hk0 : (0 : Int) ≤ (k : Int) := by omega
  have hk3 : (k : Int) < 3 := by omega
  have hn0 : (0 : Int) ≤ (nx : Int) := by omega
  have hn3 : (nx : Int) < 3 := by omega
  obtain ⟨w1, hw1⟩ : ∃ w1, w1 = w.alloc (.cells #[.int .i64 K, .int .i64 O, .slice q L.length c] 41) := ⟨_, rfl⟩
  have n1 : Nw w w1 := by rw [hw1]; exact (Fr.refl _ _).alloc _
  have j1 : w1.heap[w.heap.size]? = some (.cells #[.int .i64 K, .int .i64 O, .slice q L.length c] 41 (0, 0)) := by rw [hw1]; exact heap_new w _
  obtain ⟨ob, hob⟩ : ∃ ob, ob = w.heap.size := ⟨_, rfl⟩
  have c0 : w1.cell? ⟨ob, 0, none⟩ = some (.int .i64 K) := by rw [hob, cell_of j1]; rfl
  have c1 : w1.cell? ⟨ob, 1, none⟩ = some (.int .i64 O) := by rw [hob, cell_of j1]; rfl
  have c2 : w1.cell? ⟨ob, 2, none⟩ = some (.slice q L.length c) := by rw [hob, cell_of j1]; rfl
  have HW1 : Hid (w.alloc (.cells #[.int .i64 K, .int .i64 O, .slice q L.length c] 41) = w1) := hw1.symm
  have HOB : Hid (w.heap.size = ob) := hob.symm
  have S1 : Wst B w1 b D R := HS.out.nw n1
  have hcd := S1.cd k hk
  have hcr := S1.cr k hk
  have hcn := S1.cd nx hnx
  have HS1 : Hid (Wst B w1 b D R) := S1
  clear hw1 hob j1 S1
  have eS : ∀ wf (D' : Nat → Nat) (R' : Nat → ByteArray), Wst B wf b D' R' → (∀ i, i < 3 → (R' i).size ≤ m + L.length) → Below B w wf → (∃ D' R', Wst B wf b D' R' ∧ ∀ i, i < 3 → (R' i).size ≤ m + L.length) ∧ Below B w wf := fun wf D' R' h1 h2 h3 => ⟨⟨D', R', h1, h2⟩, h3⟩
  have ES : Hid (∀ wf (D' : Nat → Nat) (R' : Nat → ByteArray), Wst B wf b D' R' → (∀ i, i < 3 → (R' i).size ≤ m + L.length) → Below B w wf → (∃ D' R', Wst B wf b D' R' ∧ ∀ i, i < 3 → (R' i).size ≤ m + L.length) ∧ Below B w wf) := eS
  have hBw : Hid (B ≤ w.heap.size) := by unfold Hid; omega
  have C0 : Hid (w1.cell? ⟨ob, 0, none⟩ = some (.int .i64 K)) := c0
  have hobb : ob ≠ b := by have := HOB.out; omega
  have b1 : Hid (Below B w w1) := n1.bel.mono hBw.out
  clear eS
  go_enter Tryd.func17, Tryd.ntmps17
  by_cases hK1 : K = 1
  · subst hK1
    rw [HW1.out.symm] at c0 c1 c2
    rw [← HOB.out] at c0 c1 c2
    have C2 : Hid (w1.cell? ⟨ob, 2, none⟩ = some (.slice q L.length c)) := by unfold Hid; rw [← HW1.out, ← HOB.out]; exact c2
    have q2 := twin_any q c L w1 (HQ.out w1 b1.out) (by omega)
    go_wp2_with fail
    rw [HW1.out, HOB.out]
    refine q2.mono ?_
    rintro e2 w2 ⟨rfl, j2, n2⟩
    clear c0 c1 c2 q2 hcd hcr hcn
    obtain ⟨tb, htb⟩ : ∃ t, t = w1.heap.size := ⟨_, rfl⟩
    rw [← htb] at j2 ⊢
    have htB : B ≤ tb := by have := n1.size; have := hBw.out; omega
    have S2 := HS1.out.nw n2
    have hcd2 := S2.cd k hk
    have hdkB := HS1.out.dlow k hk
    have htD : ∀ i, i < 3 → D i ≠ tb := fun i hi => by have := (HS1.out.dig i hi).lt; omega
    have htb2 : tb ≠ b := by have := n1.size; omega
    have hrl : (R k).data.toList.length = (R k).size := by rw [Array.length_toList]; rfl
    have q3 := write_dig (D k) (R k).data.toList _ ⟨L.toArray⟩ w2 (S2.dig k hk) ((HL.out.nw n1).nw n2) (by omega) (conv_bys (twin_bys j2) (L.length + 1)) (by rw [hrl]; have := HM.out k hk; show _ + L.toArray.size < _; simp; omega)
    obtain ⟨dk, hdk⟩ : ∃ d, d = D k := ⟨_, rfl⟩
    rw [← hdk] at q3 hcd2 hdkB
    have HDK : Hid (dk = D k) := hdk
    have HJ2 : Hid (w2.heap[tb]? = some (.cells (rcs (L ++ [128]) (L.length + 1)) 5 (0, 0))) := j2
    have HS2 : Hid (Wst B w2 b D R) := S2
    have HTD : Hid (∀ i, i < 3 → D i ≠ tb) := htD
    have HTB : Hid (tb = w1.heap.size) := htb
    clear hdk j2 S2 htD hrl htb
    go_wp2_with fail
    refine q3.mono ?_
    rintro e3 w3 ⟨rfl, D3, f3⟩
    clear q3
    have HD3 : Hid (Dig w3 dk ((R k).data.toList ++ L)) := D3
    have HF3 : Hid (Fr (fun j => j = dk) w2 w3) := f3
    have hbd : b ≠ dk := fun e => hdkB.2 e.symm
    have k3 : w3.heap[b]? = some (.cells (wcs3 D R) 37 (0, 0)) := (f3.block _ (heap_lt HS2.out.blk) hbd).trans HS2.out.blk
    have hodk : ob ≠ dk := by have := HOB.out; have h1 := (HS.out.dig k hk).lt; rw [← HDK.out] at h1; omega
    have c23 : w3.cell? ⟨ob, 2, none⟩ = some (.slice q L.length c) := (f3.cell (World.block_lt_of_cell? w2 _ (n2.cellOf C2.out)) hodk).trans (n2.cellOf C2.out)
    have hcr3 : w3.cell? ⟨b, 3 + k, none⟩ = some (.string (R k)) := by rw [cell_of k3, wcs3_r _ _ k hk]
    have hf3 : w3.frozen? ⟨b, 3 + k, none⟩ = false := frozen_of k3 _
    have b3 : Below B w w3 := (b1.out.trans (n2.bel.mono (Nat.le_trans hBw.out n1.size))).trans (f3.below (Nat.le_trans hBw.out (Nat.le_trans n1.size n2.size)) (fun j hj e => by omega))
    obtain ⟨X, hX⟩ : ∃ X : ByteArray, X = ⟨L.toArray⟩ := ⟨_, rfl⟩
    have HX : Hid (X = ⟨L.toArray⟩) := hX
    have hXs : X.size = L.length := by rw [hX]; show L.toArray.size = _; simp
    have HCV : Hid (∀ W, Below B w W → (convert 39 9 (.slice q L.length c)).run Tryd.prog W = .ok (.string X) W) := fun W hW => by rw [HX.out]; exact conv_bys (HQ.out W hW) c
    obtain ⟨x, hx⟩ : ∃ x, x = R k := ⟨_, rfl⟩
    have hxm : x.size ≤ m := by rw [hx]; exact HM.out k hk
    rw [← hx] at hcr3 HD3
    have hadd := add_any x X (by omega)
    have HB3 : Hid (Below B w w3) := b3
    have HXk : Hid (x = R k) := hx
    have K3 : Hid (w3.heap[b]? = some (.cells (wcs3 D R) 37 (0, 0))) := k3
    have hx3 : ¬ b = ob := fun e => hobb e.symm
    have hcv3 := HCV.out w3 b3
    have hcv3d : (convert 39 9 (.slice q L.length c)).run Tryd.prog w3.drew = .ok (.string X) w3.drew := HCV.out _ b3.drew
    clear hX hx k3 b3 f3 D3 hcd2
    go_wp2_with fail
    go_region
    obtain ⟨w4, hw4⟩ : ∃ W, W = (w3.setCell ⟨b, 3 + k, none⟩ (.string (x ++ X))).drew := ⟨_, rfl⟩
    rw [← hw4]
    have f4 : Fr (fun j => j = b) w3 w4 := by rw [hw4]; exact ((Fr.refl (fun j => j = b) w3).setCell ⟨b, 3 + k, none⟩ _ (fun _ => rfl)).drew
    have k4 : w4.heap[b]? = some (.cells (wcs3 (updN D k dk) (updS R k (x ++ X))) 37 (0, 0)) := by
      rw [hw4, HDK.out, updN_self, ← wcs3_setr _ _ _ _ hk]; exact heap_set K3.out _
    have j3 : w3.heap[tb]? = some (.cells (rcs (L ++ [128]) (L.length + 1)) 5 (0, 0)) := (HF3.out.block _ (heap_lt HJ2.out) (by rw [HDK.out]; exact fun e => HTD.out k hk e.symm)).trans HJ2.out
    have j4 : w4.heap[tb]? = some (.cells (rcs (L ++ [128]) (L.length + 1)) 5 (0, 0)) := (f4.block _ (heap_lt j3) htb2).trans j3
    have c24 : w4.cell? ⟨ob, 2, none⟩ = some (.slice q L.length c) := (f4.cell (World.block_lt_of_cell? w3 _ c23) hobb).trans c23
    have hc03 : w3.cell? ⟨ob, 0, none⟩ = some (.int .i64 1) := (HF3.out.cell (World.block_lt_of_cell? w2 _ (n2.cellOf C0.out)) hodk).trans (n2.cellOf C0.out)
    have c04 : w4.cell? ⟨ob, 0, none⟩ = some (.int .i64 1) := (f4.cell (World.block_lt_of_cell? w3 _ hc03) hobb).trans hc03
    have b4 : Below B w w4 := HB3.out.trans (f4.below (Nat.le_trans hBw.out HB3.out.size) (fun j hj e => by omega))
    have q5 := leftb_any tb q c L w4 j4 (HQ.out w4 b4) (by omega)
    have D4 : Dig w4 dk (x.data.toList ++ L) := HD3.out.keep f4 (fun e => hbd e.symm)
    have o4 : ∀ i, i < 3 → i ≠ k → Dig w4 (D i) (R i).data.toList := fun i hi hik => ((HS2.out.dig i hi).keep HF3.out (by rw [HDK.out]; exact HS2.out.apart i k hi hk hik)).keep f4 (HS2.out.dlow i hi).2
    have HK4 : Hid (w4.heap[b]? = some (.cells (wcs3 (updN D k dk) (updS R k (x ++ X))) 37 (0, 0))) := k4
    have HJ4 : Hid (w4.heap[tb]? = some (.cells (rcs (L ++ [128]) (L.length + 1)) 5 (0, 0))) := j4
    have HD4 : Hid (Dig w4 dk (x.data.toList ++ L)) := D4
    have HO4 : Hid (∀ i, i < 3 → i ≠ k → Dig w4 (D i) (R i).data.toList) := o4
    have HB4 : Hid (Below B w w4) := b4
    have htl4 : tb < w4.heap.size := heap_lt j4
    have C04 : Hid (w4.cell? ⟨ob, 0, none⟩ = some (.int .i64 1)) := c04
    have hobt : ob ≠ tb := by have h1 := World.block_lt_of_cell? w1 _ C0.out; have := HTB.out; simp at h1; omega
    clear hw4 f4 k4 j3 j4 hc03 c04 b4 D4 o4 c23 hcr3 hf3 hadd hcv3 hcv3d K3
    go_wp2_with fail
    refine q5.mono ?_
    rintro e5 w5 ⟨rfl, n5⟩
    clear q5 c24
    go_wp2_with fail
    go_loopw [8] (fun i wr => ∃ (j : Nat) (A : Array Value), j ≤ L.length ∧ i = .int .i64 j ∧ Fr (fun y => y = tb) w5 wr ∧ wr.heap[tb]? = some (.cells A 5 (0, 0)) ∧ A.size = L.length + 1) (fun i _ => L.length - (intOf i).toNat)
    case atStart => exact ⟨0, _, by omega, rfl, Fr.refl _ _, (n5.block _ htl4 (fun f => f)).trans HJ4.out, by simp [rcs]⟩
    case round =>
      obtain ⟨j, A, hj, rfl, fr, hA, hAs⟩ := hrel
      by_cases hlt : j < L.length
      · have hc : wr.cell? ⟨tb, j, none⟩ = some (A[j]'(by omega)) := by rw [cell_of hA, Array.getElem?_eq_getElem (by omega)]
        have hfz : wr.frozen? ⟨tb, j, none⟩ = false := frozen_of hA j
        have HA : Hid (wr.heap[tb]? = some (.cells A 5 (0, 0))) := hA
        have hji : (j : Int) < (L.length : Int) := by omega
        clear hA
        go_wp2
        exact ⟨⟨j + 1, _, by omega, by go_num, fr.setCell _ _ (fun _ => rfl), heap_set HA.out _, by simpa using hAs⟩, by simp [intOf]; omega⟩
      · have hge : ¬ (j : Int) < (L.length : Int) := by omega
        have k6 : wr.heap[b]? = some (.cells (wcs3 (updN D k dk) (updS R k (x ++ X))) 37 (0, 0)) := by
          have h5 := (n5.block _ (heap_lt HK4.out) (fun f => f)).trans HK4.out
          exact (fr.block _ (heap_lt h5) (fun e => htb2 e.symm)).trans h5
        have c06 : wr.cell? ⟨ob, 0, none⟩ = some (.int .i64 1) := (fr.cell (World.block_lt_of_cell? w5 _ (n5.cellOf C04.out)) hobt).trans (n5.cellOf C04.out)
        have hcd6 : wr.cell? ⟨b, k, none⟩ = some (.pointer (some ⟨dk, 0, none⟩)) := by rw [cell_of k6, wcs3_d _ _ k hk, updN_same]
        have hcn6 : wr.cell? ⟨b, nx, none⟩ = some (.pointer (some ⟨D nx, 0, none⟩)) := by rw [cell_of k6, wcs3_d _ _ nx hnx, updN_ne _ _ _ _ HNE.out]
        have HK6 : Hid (wr.heap[b]? = some (.cells (wcs3 (updN D k dk) (updS R k (x ++ X))) 37 (0, 0))) := k6
        have exX : (x ++ X).data.toList = x.data.toList ++ L := by rw [HX.out]; simp
        have HEX : Hid ((x ++ X).data.toList = x.data.toList ++ L) := exX
        have hsx : Hid ((x ++ X).size ≤ m + L.length) := by unfold Hid; rw [ByteArray.size_append]; omega
        clear k6 exX hlt hA
        go_wp2_with fail
        go_ret
        refine ⟨rfl, ES.out wr (updN D k dk) (updS R k (x ++ X)) (HS2.out.upd k dk (x ++ X) HK6.out ?_ ?_ hdkB.1 hdkB.2 ?_) (upd_le R k _ m L.length HM.out hsx.out) ?_⟩
        · rw [HEX.out]
          exact ((HD4.out.keep n5 (fun f => f)).keep fr (by rw [HDK.out]; exact HTD.out k hk))
        · exact fun i hi hik => ((HO4.out i hi hik).keep n5 (fun f => f)).keep fr (HTD.out i hi)
        · intro i hi hik
          rw [HDK.out]
          exact HS2.out.apart i k hi hk hik
        · exact (HB4.out.trans (n5.bel.mono (Nat.le_trans hBw.out HB4.out.size))).trans (fr.below (Nat.le_trans hBw.out (Nat.le_trans HB4.out.size n5.size)) (fun y hy e => by omega))
  · by_cases hK3 : K = 3
    · subst hK3
      rw [HW1.out.symm] at c0 c1 c2
      rw [← HOB.out] at c0 c1 c2
      have QC : Hid (∀ W, Nw w1 W → Calls Tryd.prog 24 #[.pointer (some ⟨D k, 0, none⟩)] W fun e w' => e = .returned (.pointer (some ⟨W.heap.size, 0, none⟩)) ∧ Dig w' W.heap.size (R k).data.toList ∧ Nw W w') := fun W hW => copy_dig (D k) _ W ((HS1.out.dig k hk).keep hW (fun f => f))
      have nb : Nw w1 w1.drew := (Fr.refl _ _).drew
      have hnek : nx ≠ k := HNE.out
      obtain ⟨dk, hdk⟩ : ∃ d, d = D k := ⟨_, rfl⟩
      rw [← hdk] at QC hcd
      have HDK : Hid (dk = D k) := hdk
      clear hdk
      go_wp2_with fail
      rw [HW1.out, HOB.out]
      clear c0 c1 c2
      go_region_held3 (fun w' => w'.cell? ⟨b, k, none⟩ = some (.pointer (some ⟨dk, 0, none⟩))) (first | exact hcd | exact nb.cellOf hcd | exact hc2k | exact cell_aside hc2k hnek) ((go_at_call 24; refine (QC.out _ nb).mono ?_; rintro e2 w2 ⟨rfl, D2, n2⟩; have m2 := nb.tr n2; have S2 := HS1.out.nw m2; have hc2 := S2.cd nx hnx; have hc2k := m2.cellOf hcd; have hf2 : w2.frozen? ⟨b, nx, none⟩ = false := frozen_of S2.blk nx))
      obtain ⟨w3, hw3⟩ : ∃ W, W = w2.setCell ⟨b, nx, none⟩ (.pointer (some ⟨w1.heap.size, 0, none⟩)) := ⟨_, rfl⟩
      rw [← hw3]
      obtain ⟨d, hd⟩ : ∃ d, d = w1.heap.size := ⟨_, rfl⟩
      have D2' : Dig w2 d (R k).data.toList := by rw [hd]; exact D2
      have f3 : Fr (fun j => j = b) w2 w3 := by rw [hw3]; exact (Fr.refl _ _).setCell _ _ (fun _ => rfl)
      have k3 : w3.heap[b]? = some (.cells (wcs3 (updN D nx d) R) 37 (0, 0)) := by rw [hw3, ← wcs3_setd _ _ _ _ hnx, hd]; exact heap_set S2.blk _
      have hdb : d ≠ b := by have := n1.size; omega
      have hdB : B ≤ d := by have := n1.size; have := hBw.out; omega
      have hdD : ∀ i, i < 3 → i ≠ nx → D i ≠ d := fun i hi _ => by have := (HS1.out.dig i hi).lt; omega
      have c03 : w3.cell? ⟨ob, 0, none⟩ = some (.int .i64 3) := (f3.cell (World.block_lt_of_cell? w2 _ (m2.cellOf C0.out)) hobb).trans (m2.cellOf C0.out)
      have hcd3 : w3.cell? ⟨b, k, none⟩ = some (.pointer (some ⟨dk, 0, none⟩)) := by rw [cell_of k3, wcs3_d _ _ k hk, updN_ne _ _ _ _ hnek.symm, HDK.out]
      have hcn3 : w3.cell? ⟨b, nx, none⟩ = some (.pointer (some ⟨d, 0, none⟩)) := by rw [cell_of k3, wcs3_d _ _ nx hnx, updN_same]
      have hcr3 : w3.cell? ⟨b, 3 + k, none⟩ = some (.string (R k)) := by rw [cell_of k3, wcs3_r _ _ k hk]
      have hcs3 : w3.cell? ⟨b, 3 + nx, none⟩ = some (.string (R nx)) := by rw [cell_of k3, wcs3_r _ _ nx hnx]
      have hf3 : w3.frozen? ⟨b, 3 + nx, none⟩ = false := frozen_of k3 _
      have K3 : Hid (w3.heap[b]? = some (.cells (wcs3 (updN D nx d) R) 37 (0, 0))) := k3
      have HD2 : Hid (Dig w2 d (R k).data.toList) := D2'
      have HF3 : Hid (Fr (fun j => j = b) w2 w3) := f3
      have HDD : Hid (∀ i, i < 3 → i ≠ nx → D i ≠ d) := hdD
      have HS2 : Hid (Wst B w2 b D R) := S2
      have HRk : Hid (∀ x, x = R k → x.size ≤ m) := fun x hx => by rw [hx]; exact HM.out k hk
      obtain ⟨x, hx⟩ : ∃ x, x = R k := ⟨_, rfl⟩
      rw [← hx] at hcr3 HD2
      have hxm := HRk.out x hx
      have hx1 : ¬ nx = 3 + k := by omega
      have hx2 : ¬ 3 + k = nx := by omega
      have hx3 : ¬ b = ob := fun e => hobb e.symm
      have hx4 : ¬ k = 3 + nx := by omega
      have hx5 : ¬ 3 + nx = k := by omega
      have hx6 : ¬ k = nx := fun e => hnek e.symm
      have hm2 : Hid (Nw w1 w2) := m2
      clear hw3 hd D2 D2' f3 k3 hdD S2 hc2 hf2 n2 m2 hcd hcr hcn hc2k hx
      go_wp2_with fail
      all_goals go_region_held3 (fun w' => w'.cell? ⟨b, 3 + k, none⟩ = some (.string x)) (first | exact hcr3 | exact (show Nw w3 w3.drew from (Fr.refl _ _).drew).cellOf hcr3 | exact cell_aside hcr3 (by omega) | exact cell_aside ((show Nw w3 w3.drew from (Fr.refl _ _).drew).cellOf hcr3) (by omega)) (fail)
      go_wp2_with fail
      go_ret
      refine ⟨rfl, ES.out _ (updN D nx d) (updS R nx x) (HS2.out.upd nx d x ?_ ?_ ?_ hdB hdb HDD.out) (upd_le R nx _ m L.length HM.out (by omega)) ?_⟩
      · rw [← wcs3_setr _ _ _ _ hnx]; exact heap_set K3.out _
      · exact (HD2.out.keep HF3.out hdb).keep ((Fr.refl (fun j => j = b) w3).setCell _ _ (fun _ => rfl)).drew hdb
      · exact fun i hi hik => ((HS2.out.dig i hi).keep HF3.out (HS2.out.dlow i hi).2).keep ((Fr.refl (fun j => j = b) w3).setCell _ _ (fun _ => rfl)).drew (HS2.out.dlow i hi).2
      · exact (b1.out.trans (hm2.out.bel.mono (Nat.le_trans hBw.out n1.size))).trans ((((HF3.out).setCell _ _ (fun _ => rfl)).drew).below (Nat.le_trans hBw.out (Nat.le_trans n1.size hm2.out.size)) (fun j hj e => by omega))
    · by_cases hK4 : K = 4
      · subst hK4
        rw [HW1.out.symm] at c0 c1 c2
        rw [← HOB.out] at c0 c1 c2
        have QN : Hid (∀ W, Nw w1 W → Calls Tryd.prog 15 #[] W fun e w' => e = .returned (.pointer (some ⟨W.heap.size, 0, none⟩)) ∧ Dig w' W.heap.size [] ∧ Nw W w') := fun W hW => new_any W ((HL.out.nw n1).nw hW)
        have nb : Nw w1 w1.drew := (Fr.refl _ _).drew
        go_wp2_with fail
        rw [HW1.out, HOB.out]
        clear c0 c1 c2
        go_region_held3 (fun w' => True) (trivial) ((go_at_call 15; refine (QN.out _ nb).mono ?_; rintro e2 w2 ⟨rfl, D2, n2⟩; have m2 := nb.tr n2; have S2 := HS1.out.nw m2; have hc2 := S2.cd k hk; have hf2 : w2.frozen? ⟨b, k, none⟩ = false := frozen_of S2.blk k))
        obtain ⟨w3, hw3⟩ : ∃ W, W = w2.setCell ⟨b, k, none⟩ (.pointer (some ⟨w1.heap.size, 0, none⟩)) := ⟨_, rfl⟩
        rw [← hw3]
        obtain ⟨d, hd⟩ : ∃ d, d = w1.heap.size := ⟨_, rfl⟩
        have D2' : Dig w2 d [] := by rw [hd]; exact D2
        have f3 : Fr (fun j => j = b) w2 w3 := by rw [hw3]; exact (Fr.refl _ _).setCell _ _ (fun _ => rfl)
        have k3 : w3.heap[b]? = some (.cells (wcs3 (updN D k d) R) 37 (0, 0)) := by rw [hw3, ← wcs3_setd _ _ _ _ hk, hd]; exact heap_set S2.blk _
        have hdb : d ≠ b := by have := n1.size; omega
        have hdB : B ≤ d := by have := n1.size; have := hBw.out; omega
        have hdD : ∀ i, i < 3 → i ≠ k → D i ≠ d := fun i hi _ => by have := (HS1.out.dig i hi).lt; omega
        have c03 : w3.cell? ⟨ob, 0, none⟩ = some (.int .i64 4) := (f3.cell (World.block_lt_of_cell? w2 _ (m2.cellOf C0.out)) hobb).trans (m2.cellOf C0.out)
        have hcd3 : w3.cell? ⟨b, k, none⟩ = some (.pointer (some ⟨d, 0, none⟩)) := by rw [cell_of k3, wcs3_d _ _ k hk, updN_same]
        have hcn3 : w3.cell? ⟨b, nx, none⟩ = some (.pointer (some ⟨D nx, 0, none⟩)) := by rw [cell_of k3, wcs3_d _ _ nx hnx, updN_ne _ _ _ _ HNE.out]
        have hcr3 : w3.cell? ⟨b, 3 + k, none⟩ = some (.string (R k)) := by rw [cell_of k3, wcs3_r _ _ k hk]
        have hf3 : w3.frozen? ⟨b, 3 + k, none⟩ = false := frozen_of k3 _
        have K3 : Hid (w3.heap[b]? = some (.cells (wcs3 (updN D k d) R) 37 (0, 0))) := k3
        have HD2 : Hid (Dig w2 d []) := D2'
        have HF3 : Hid (Fr (fun j => j = b) w2 w3) := f3
        have HDD : Hid (∀ i, i < 3 → i ≠ k → D i ≠ d) := hdD
        have HS2 : Hid (Wst B w2 b D R) := S2
        have hx1 : ¬ nx = 3 + k := by omega
        have hx2 : ¬ 3 + k = nx := by omega
        have hx3 : ¬ b = ob := fun e => hobb e.symm
        have hm2 : Hid (Nw w1 w2) := m2
        clear hw3 hd D2 D2' f3 k3 hdD S2 hc2 hf2 n2 m2 hcd hcr hcn
        go_wp2_with fail
        go_ret
        refine ⟨rfl, ES.out _ (updN D k d) (updS R k ⟨#[]⟩) (HS2.out.upd k d ⟨#[]⟩ ?_ ?_ ?_ hdB hdb HDD.out) (upd_le R k _ m L.length HM.out (by show 0 ≤ _; omega)) ?_⟩
        · rw [← wcs3_setr _ _ _ _ hk]; exact heap_set K3.out _
        · exact (HD2.out.keep HF3.out hdb).keep ((Fr.refl (fun j => j = b) w3).setCell _ _ (fun _ => rfl)) hdb
        · exact fun i hi hik => ((HS2.out.dig i hi).keep HF3.out (HS2.out.dlow i hi).2).keep ((Fr.refl (fun j => j = b) w3).setCell _ _ (fun _ => rfl)) (HS2.out.dlow i hi).2
        · exact (b1.out.trans (hm2.out.bel.mono (Nat.le_trans hBw.out n1.size))).trans ((HF3.out.below (Nat.le_trans hBw.out (Nat.le_trans n1.size hm2.out.size)) (fun j hj e => by omega)).setCell (show B ≤ b from hBb) _)
      · by_cases hK2 : K = 2
        · subst hK2
          rw [HW1.out.symm] at c0 c1 c2 hcd hcr hcn
          rw [← HOB.out] at c0 c1 c2
          have QK : Hid (∀ W, Nw w1 W → Calls Tryd.prog 18 #[.pointer (some ⟨b, 0, none⟩), .int .i64 (k : Int)] W fun e w' => e = .returned (.bool true) ∧ Nw W w') := fun W hW => looks_w (HS1.out.nw hW) ((HL.out.nw n1).nw hW) k hk (by have := HM.out k hk; omega)
          go_wp2_with fail
          rw [HW1.out]
          refine (QK.out _ (Fr.refl _ _)).mono ?_
          rintro e2 w2 ⟨rfl, n2⟩
          go_wp2_with fail
          refine (QK.out _ n2).mono ?_
          rintro e3 w3 ⟨rfl, n3⟩
          go_wp2_with fail
          go_ret
          exact ⟨rfl, ES.out w3 D R (HS1.out.nw (n2.tr n3)) (fun i hi => by have := HM.out i hi; omega) (b1.out.trans ((n2.tr n3).bel.mono (Nat.le_trans hBw.out n1.size)))⟩
        · rw [HW1.out.symm] at c0 c1 c2 hcd hcr hcn
          rw [← HOB.out] at c0 c1 c2
          go_wp2_with fail
          go_ret
          rw [HW1.out]
          exact ⟨rfl, ES.out w1 D R HS1.out (fun i hi => by have := HM.out i hi; omega) b1.out⟩
end Go.Proofs.YtlmneommejdodaaDoor
