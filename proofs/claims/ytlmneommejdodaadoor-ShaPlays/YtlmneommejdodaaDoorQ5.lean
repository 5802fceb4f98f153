/- ShaPlays. -/
import Derived.Test.YtlmneommejdodaaDoorU4
namespace Go.Proofs.YtlmneommejdodaaDoor
open Go.RowKit
set_option linter.unusedVariables false
set_option linter.unusedSimpArgs false

/-- The script in memory stays where what lies below stays. -/
theorem Opl.below {B : Nat} {W w : World} {p : Option Addr} {n : Nat} {A : Nat → OpD} (h : Opl W p n A) (hB : B = W.heap.size) (k : Below B W w) : ∀ i, i < n → ∀ w', Below B w w' → Bys w' (A i).q (A i).L := fun i hi w' k' j hj => by
  obtain ⟨g, o, hp, hc⟩ := (h i hi).1.bys j hj
  refine ⟨g, o, hp, ?_⟩
  exact Nw.cellOf (Fr.ofBelow (by rw [← hB]; exact k.trans k')) hc
theorem Opl.at {B : Nat} {W w : World} {p : Option Addr} {n : Nat} {A : Nat → OpD} (h : Opl W p n A) (hB : B = W.heap.size) (k : Below B W w) (i : Nat) (hi : i < n) : ∃ g o, p = some ⟨g, o, none⟩ ∧ ∀ j, j < 3 → w.cell? ⟨g, o + i * 3 + j, none⟩ = (A i).cells[j]? := by
  obtain ⟨g, o, hp, hc⟩ := (h i hi).2
  refine ⟨g, o, hp, fun j hj => ?_⟩
  have h1 := hc j hj
  obtain ⟨u, hu⟩ : ∃ u, (A i).cells[j]? = some u := ⟨_, List.getElem?_eq_getElem (by simp [OpD.cells]; omega)⟩
  rw [hu] at h1 ⊢
  exact Nw.cellOf (Fr.ofBelow (by rw [← hB]; exact k)) h1
def ps (j : Nat) (D : Nat → Nat) (i : Nat) : Value := .pointer (if i < j then some ⟨D i, 0, none⟩ else none)
def wcsP (j : Nat) (D : Nat → Nat) : Array Value := #[ps j D 0, ps j D 1, ps j D 2, .string ⟨#[]⟩, .string ⟨#[]⟩, .string ⟨#[]⟩]
theorem wcsP_0 (D : Nat → Nat) : wcsP 0 D = #[.pointer none, .pointer none, .pointer none, .string ⟨#[]⟩, .string ⟨#[]⟩, .string ⟨#[]⟩] := rfl
theorem wcsP_3 (D : Nat → Nat) : wcsP 3 D = wcs3 D (fun _ => ⟨#[]⟩) := rfl
theorem wcsP_set (D : Nat → Nat) (j d : Nat) (h : j < 3) : (wcsP j D).setIfInBounds j (.pointer (some ⟨d, 0, none⟩)) = wcsP (j + 1) (updN D j d) := by
  match j, h with
  | 0, _ => rfl
  | 1, _ => rfl
  | 2, _ => rfl
theorem wcsP_at (D : Nat → Nat) (j : Nat) (h : j < 3) : (wcsP j D)[j]? = some (.pointer none) := by
  match j, h with
  | 0, _ => rfl
  | 1, _ => rfl
  | 2, _ => rfl
set_option maxRecDepth 100000 in
set_option maxHeartbeats 4000000 in
theorem plays_any (p : Option Addr) (c n : Nat) (A : Nat → OpD) (w : World) (hA : Opl w p n A) (hl : n ≤ 140737488355328) (hL : Laid w) :
    Calls Tryd.prog 4 #[.slice p n c] w fun e w' => e = .returned (.bool true) ∧ Nw w w' := by
  have HA : Hid (Opl w p n A) := hA
  have HL : Hid (Laid w) := hL
  have hs2 := hL.lt
  clear hA hL
  obtain ⟨b, hb⟩ : ∃ b, b = w.heap.size := ⟨_, rfl⟩
  have Hb : Hid (b = w.heap.size) := hb
  have hn1 : ¬ ((1 : Int) = 0) := by decide
  go_enter Tryd.func4, Tryd.ntmps4
  go_wp2_with fail
  rw [← hb]
  clear hb
  go_loopw [5] (fun i wr => ∃ (j : Nat) (D : Nat → Nat), j ≤ 3 ∧ i = .int .i64 j ∧ Nw w wr ∧ wr.heap[b]? = some (.cells (wcsP j D) 37 (0, 0)) ∧ (∀ i, i < j → Dig wr (D i) [] ∧ b < D i) ∧ ∀ i i', i < j → i' < j → i ≠ i' → D i ≠ D i') (fun i _ => 3 - (intOf i).toNat)
  case atStart => exact ⟨0, fun _ => 0, by omega, rfl, (Fr.refl _ _).alloc _, by rw [wcsP_0, Hb.out]; exact heap_new w _, fun i hi => absurd hi (by omega), fun i i' hi => absurd hi (by omega)⟩
  case round =>
    obtain ⟨j, D, hj, rfl, hnw, hbk, hdg, hap⟩ := hrel
    have HBK : Hid (wr.heap[b]? = some (.cells (wcsP j D) 37 (0, 0))) := hbk
    have HDG : Hid (∀ i, i < j → Dig wr (D i) [] ∧ b < D i) := hdg
    have HAP : Hid (∀ i i', i < j → i' < j → i ≠ i' → D i ≠ D i') := hap
    clear hbk hdg hap
    by_cases hlt : j < 3
    · have hji : (j : Int) < 3 := by omega
      have hj0 : (0 : Int) ≤ (j : Int) := by omega
      have QN : Hid (∀ W, Nw wr W → Calls Tryd.prog 15 #[] W fun e w' => e = .returned (.pointer (some ⟨W.heap.size, 0, none⟩)) ∧ Dig w' W.heap.size [] ∧ Nw W w') := fun W hW => new_any W (HL.out.nw (hnw.tr hW))
      have nb : Nw wr wr.drew := (Fr.refl _ _).drew
      go_wp2_with fail
      go_region_held3 (fun w' => True) (trivial) ((go_at_call 15; refine (QN.out _ nb).mono ?_; rintro e2 w2 ⟨rfl, D2, n2⟩; have m2 := nb.tr n2; have k2 := (m2.block _ (heap_lt HBK.out) (fun f => f)).trans HBK.out; have hc2 : w2.cell? ⟨b, j, none⟩ = some (.pointer none) := (cell_of k2 j).trans (wcsP_at D j hlt); have hf2 : w2.frozen? ⟨b, j, none⟩ = false := frozen_of k2 j))
      obtain ⟨w3, hw3⟩ : ∃ W, W = w2.setCell ⟨b, j, none⟩ (.pointer (some ⟨wr.heap.size, 0, none⟩)) := ⟨_, rfl⟩
      rw [← hw3]
      obtain ⟨d, hd⟩ : ∃ d, d = wr.heap.size := ⟨_, rfl⟩
      have f3 : Fr (fun j => j = b) w2 w3 := by rw [hw3]; exact (Fr.refl _ _).setCell _ _ (fun _ => rfl)
      have k3 : w3.heap[b]? = some (.cells (wcsP (j + 1) (updN D j d)) 37 (0, 0)) := by rw [hw3, ← wcsP_set _ _ _ hlt, hd]; exact heap_set k2 _
      have hbr := heap_lt HBK.out
      have hdb : d ≠ b := by omega
      have hbd : b < d := by omega
      have hc3 : w3.cell? ⟨b, j, none⟩ = some (.pointer (some ⟨d, 0, none⟩)) := by
        rw [hw3, hd]
        first | exact World.cell?_setCell_same _ _ hc2 | exact World.cell?_setCell_same _ _ _ hc2
      have D3 : Dig w3 d [] := by rw [hd]; exact D2.keep f3 (by show ¬ wr.heap.size = b; omega)
      have o3 : ∀ i, i < j → Dig w3 (D i) [] := fun i hi => ((HDG.out i hi).1.keep m2 (fun f => f)).keep f3 (by have := (HDG.out i hi).2; omega)
      have l3 : ∀ i, i < j → D i < d := fun i hi => by rw [hd]; exact (HDG.out i hi).1.lt
      have K3 : Hid (w3.heap[b]? = some (.cells (wcsP (j + 1) (updN D j d)) 37 (0, 0))) := k3
      have HD3 : Hid (Dig w3 d []) := D3
      have HO3 : Hid (∀ i, i < j → Dig w3 (D i) []) := o3
      have HL3 : Hid (∀ i, i < j → D i < d) := l3
      have N3 : Hid (Nw w w3) := (hnw.tr m2).trans f3 (fun k hk q => by have := Hb.out; omega)
      clear hw3 hd f3 k3 D3 o3 l3 D2 n2 m2 k2 hc2 hf2 nb
      go_wp2_with fail
      refine ⟨⟨j + 1, updN D j d, by omega, by go_num, N3.out, K3.out, fun i hi => ?_, fun i i' hi hi' hne => ?_⟩, by simp [intOf]; omega⟩
      · by_cases e : i = j
        · subst e; rw [updN_same]; exact ⟨HD3.out, hbd⟩
        · rw [updN_ne _ _ _ _ e]; exact ⟨HO3.out i (by omega), (HDG.out i (by omega)).2⟩
      · by_cases e : i = j
        · subst e
          rw [updN_same, updN_ne _ _ _ _ (fun q => hne q.symm)]
          have := HL3.out i' (by omega)
          omega
        · rw [updN_ne _ _ _ _ e]
          by_cases e' : i' = j
          · subst e'; rw [updN_same]; have := HL3.out i (by omega); omega
          · rw [updN_ne _ _ _ _ e']; exact HAP.out i i' (by omega) (by omega) hne
    · obtain rfl : j = 3 := by omega
      have S0 : Wst b wr b D (fun _ => ⟨#[]⟩) := ⟨by rw [← wcsP_3]; exact HBK.out, Nat.le_refl _, fun i hi => (HDG.out i hi).1, fun i hi => ⟨Nat.le_of_lt (HDG.out i hi).2, fun e => by have := (HDG.out i hi).2; omega⟩, HAP.out⟩
      have B0 : Below b w wr := by rw [Hb.out]; exact hnw.bel
      have hge : ¬ ((3 : Nat) : Int) < 3 := by decide
      have hb2 : 2 ≤ b := by have := Hb.out; omega
      clear HBK HDG HAP hlt
      go_wp2_with fail
      go_loopw [4, 6] (fun s i wr => ∃ (k m : Nat) (D : Nat → Nat) (R : Nat → ByteArray), k ≤ n ∧ i = .int .i64 k ∧ s = .int .i64 m ∧ m ≤ 1048576 ∧ Below b w wr ∧ Wst b wr b D R ∧ ∀ i, i < 3 → (R i).size ≤ m) (fun _ i _ => n - (intOf i).toNat)
      case atStart => exact ⟨0, 0, D, fun _ => ⟨#[]⟩, by omega, rfl, rfl, by omega, B0, S0, fun i hi => Nat.le_refl _⟩
      case round =>
        clear B0 S0 hnw
        rename_i wr0 _ _ _
        obtain ⟨k, m, D, R, hk, rfl, rfl, hm, hbw, hS, hR⟩ := hrel
        have HS : Hid (Wst b wr b D R) := hS
        have HR : Hid (∀ i, i < 3 → (R i).size ≤ m) := hR
        have LW : Hid (Laid wr) := HL.out.nw (Fr.ofBelow (by rw [← Hb.out]; exact hbw))
        clear hS hR
        by_cases hlt : k < n
        · obtain ⟨g, o, rfl, hc⟩ := HA.out.at Hb.out hbw k hlt
          have hok := (HA.out k hlt).1
          have hqq := HA.out.below Hb.out hbw k hlt
          generalize A k = x at hc hok hqq
          obtain ⟨K, O, q, L, cx⟩ := x
          have c0 : wr.cell? ⟨g, o + k * 3 + 0, none⟩ = some (.int .i64 K) := hc 0 (by omega)
          have c1 : wr.cell? ⟨g, o + k * 3 + 1, none⟩ = some (.int .i64 O) := hc 1 (by omega)
          have c2 : wr.cell? ⟨g, o + k * 3 + 2, none⟩ = some (.slice q L.length cx) := hc 2 (by omega)
          have hll : L.length ≤ 140737488355328 := hok.len
          have HOK : Hid ((⟨K, O, q, L, cx⟩ : OpD).ok w) := hok
          have HQ : Hid (∀ w', Below b wr w' → Bys w' q L) := hqq
          obtain ⟨s, hs⟩ : ∃ s : Nat, s = m + 1 + L.length := ⟨_, rfl⟩
          have hsum : (m : Int) + 1 + (L.length : Int) = (s : Int) := by omega
          have Hs : Hid (s = m + 1 + L.length) := hs
          have hki : (k : Int) < (n : Int) := by omega
          have q2 := beyond_any (some ⟨wr.heap.size, 0, none⟩) 1 [s] _ (one_int wr s) (getD_one s (by omega)) (by simp)
          obtain ⟨w1, hw1⟩ : ∃ W, W = wr.alloc (.cells #[.int .i64 (s : Int)] 3) := ⟨_, rfl⟩
          have n1 : Nw wr w1 := by rw [hw1]; exact (Fr.refl _ _).alloc _
          have hgl : g < wr.heap.size := World.block_lt_of_cell? wr _ c0
          have HW1 : Hid (wr.alloc (.cells #[.int .i64 (s : Int)] 3) = w1) := hw1.symm
          have e0' : w1.cell? ⟨g, o + k * 3 + 0, none⟩ = some (.int .i64 K) := n1.cellOf c0
          have e1' : w1.cell? ⟨g, o + k * 3 + 1, none⟩ = some (.int .i64 O) := n1.cellOf c1
          have e2' : w1.cell? ⟨g, o + k * 3 + 2, none⟩ = some (.slice q L.length cx) := n1.cellOf c2
          have E0 : Hid (w1.cell? ⟨g, o + k * 3, none⟩ = some (.int .i64 K)) := e0'
          have E1 : Hid (w1.cell? ⟨g, o + k * 3 + 1, none⟩ = some (.int .i64 O)) := e1'
          have E2 : Hid (w1.cell? ⟨g, o + k * 3 + 2, none⟩ = some (.slice q L.length cx)) := e2'
          have hbs : Hid (b ≤ wr.heap.size) := Nat.le_of_lt (heap_lt HS.out.blk)
          rw [← hw1] at q2
          clear hs hc hok hqq hw1 e0' e1' e2'
          go_wp2_with fail
          rw [HW1.out]
          clear c0 c1 c2
          refine q2.mono ?_
          rintro e2 w2 ⟨rfl, rfl⟩
          clear q2
          have b1 : Below b w w2 := hbw.trans (n1.bel.mono hbs.out)
          by_cases hbig : 1048576 < s
          · rw [show decide (1048576 < [s].sum) = true from decide_eq_true (by simp only [List.sum_cons, List.sum_nil]; omega)]
            go_wp2_with fail
            go_ret
            refine ⟨rfl, Fr.ofBelow ?_⟩
            rw [← Hb.out]
            exact b1
          · rw [show decide (1048576 < [s].sum) = false from decide_eq_false (by simp only [List.sum_cons, List.sum_nil]; omega)]
            have q3 := does_any b b D R ⟨K, O, q, L, cx⟩ m w2 (HS.out.nw n1) (LW.out.nw n1) ⟨HOK.out.k0, HOK.out.k1, HOK.out.o0, HOK.out.o1, HQ.out w2 (n1.bel.mono hbs.out), HOK.out.len⟩ (fun w' hw' => HQ.out w' ((n1.bel.mono hbs.out).trans hw')) hb2 HR.out (by show m + L.length ≤ _; have := Hs.out; omega)
            have e0' := E0.out
            have e1' := E1.out
            have e2' := E2.out
            have HB1 : Hid (Below b w w2) := b1
            clear b1
            go_wp2_with fail
            refine q3.mono ?_
            rintro e3 w3 ⟨rfl, ⟨D', R', S3, h3⟩, b3⟩
            have HS3 : Hid (Wst b w3 b D' R') := S3
            have H3 : Hid (∀ i, i < 3 → (R' i).size ≤ m + L.length) := h3
            clear q3 S3 h3 e0' e1' e2'
            go_wp2_with fail
            exact ⟨⟨k + 1, s, D', R', by omega, by go_num, rfl, by omega, HB1.out.trans b3, HS3.out, fun i hi => by have := H3.out i hi; have := Hs.out; omega⟩, by simp [intOf]; omega⟩
        · have hge2 : ¬ (k : Int) < (n : Int) := by omega
          have QK : Hid (∀ W, Nw wr W → ∀ i, i < 3 → Calls Tryd.prog 18 #[.pointer (some ⟨b, 0, none⟩), .int .i64 ((i : Nat) : Int)] W fun e w' => e = .returned (.bool true) ∧ Nw W w') := fun W hW i hi => looks_w (HS.out.nw hW) (LW.out.nw hW) i hi (by have := HR.out i hi; omega)
          have hbs : Hid (b ≤ wr.heap.size) := Nat.le_of_lt (heap_lt HS.out.blk)
          go_wp2_with fail
          refine (QK.out _ (Fr.refl _ _) 0 (by omega)).mono ?_
          rintro e1 w1 ⟨rfl, n1⟩
          go_wp2_with fail
          refine (QK.out _ n1 1 (by omega)).mono ?_
          rintro e2 w2 ⟨rfl, n2⟩
          go_wp2_with fail
          refine (QK.out _ (n1.tr n2) 2 (by omega)).mono ?_
          rintro e3 w3 ⟨rfl, n3⟩
          go_wp2_with fail
          go_ret
          refine ⟨rfl, Fr.ofBelow ?_⟩
          rw [← Hb.out]
          exact hbw.trans (((n1.tr n2).tr n3).bel.mono hbs.out)
end Go.Proofs.YtlmneommejdodaaDoor
