/- VerifyPaths, VerifyProofs. -/
import Derived.Test.YtaeocbdphfkflaaDoorAn
import Derived.Test.YtaeocbdphfkflaaDoorAnx
namespace Go.Proofs.YtaeocbdphfkflaaDoor
open Go.RowKit
set_option linter.unusedVariables false
set_option linter.unusedSimpArgs false
/-- Two numbers, two hashes, a row. -/
def pcs (i n : Nat) (A C : List UInt8) (s : Value) : Array Value := #[.int .u64 (i : Int), .int .u64 (n : Int)] ++ hbs A ++ hbs C ++ #[s]
theorem pcs_size (i n : Nat) {A C : List UInt8} (s : Value) (hA : A.length = 32) (hC : C.length = 32) : (pcs i n A C s).size = 67 := by simp [pcs, hbs_size, hA, hC]
theorem pcs_cells {w : World} {b : Nat} {i n : Nat} {A C : List UInt8} {s : Value} {t : TypeId} {f : Nat × Nat} (hA : A.length = 32) (hC : C.length = 32) (h : w.heap[b]? = some (.cells (pcs i n A C s) t f)) :
    w.cell? ⟨b, 0, none⟩ = some (.int .u64 (i : Int)) ∧ w.cell? ⟨b, 1, none⟩ = some (.int .u64 (n : Int)) ∧ (∀ j, j < 32 → w.cell? ⟨b, 2 + j, none⟩ = (hbs A)[j]?) ∧ (∀ j, j < 32 → w.cell? ⟨b, 34 + j, none⟩ = (hbs C)[j]?) ∧ w.cell? ⟨b, 66, none⟩ = some s := by
  have hAs : (hbs A).size = 32 := by rw [hbs_size, hA]
  have hCs : (hbs C).size = 32 := by rw [hbs_size, hC]
  have h2 : (#[.int .u64 (i : Int), .int .u64 (n : Int)] ++ hbs A : Array Value).size = 34 := by simp [hAs]
  have h3 : (#[.int .u64 (i : Int), .int .u64 (n : Int)] ++ hbs A ++ hbs C : Array Value).size = 66 := by simp [hAs, hCs]
  refine ⟨?_, ?_, fun j hj => ?_, fun j hj => ?_, ?_⟩
  · rw [cell_of h]; unfold pcs
    rw [Array.getElem?_append_left (by rw [h3]; decide), Array.getElem?_append_left (by rw [h2]; decide), Array.getElem?_append_left (by simp)]; rfl
  · rw [cell_of h]; unfold pcs
    rw [Array.getElem?_append_left (by rw [h3]; decide), Array.getElem?_append_left (by rw [h2]; decide), Array.getElem?_append_left (by simp)]; rfl
  · rw [cell_of h]; unfold pcs
    rw [Array.getElem?_append_left (by rw [h3]; omega), Array.getElem?_append_left (by rw [h2]; omega), Array.getElem?_append_right (by simp)]
    congr 1
    simp
  · rw [cell_of h]; unfold pcs
    rw [Array.getElem?_append_left (by rw [h3]; omega), Array.getElem?_append_right (by rw [h2]; omega), h2]
    congr 1
    omega
  · rw [cell_of h]; unfold pcs
    rw [Array.getElem?_append_right (by rw [h3]; decide), h3]
    rfl
theorem icA_self (i n : Nat) (x : List UInt8) (L : List (List UInt8)) : icA i n x L (rtA i n x L).1 = (rtA i n x L).2 := by
  unfold icA
  split
  · next h => rw [if_pos rfl, h]
  · rfl
theorem Hss.hrs {w : World} {ad : Option Addr} {n c : Nat} {L : List (List UInt8)} (h : Hss w (.slice ad n c) L) : Hrs w ad L := fun k x hk => h.atT hk
set_option maxRecDepth 100000 in
set_option maxHeartbeats 8000000 in
theorem VerifyProofs_any (i n : Nat) (hi : i < 18446744073709551616) (hn : n < 18446744073709551616) (A C : List UInt8) (hA : A.length = 32) (hC : C.length = 32) (L : List (List UInt8)) (hL32 : ∀ y ∈ L, y.length = 32) (hLl : L.length < 4611686018427387904) (ad : Option Addr) (cap : Nat) (hcap : L.length ≤ cap) (w : World) (hs : Hss w (.slice ad L.length cap) L) (hLd : Laid w) {B : Nat} {a : Nat → Addr} (hS : Sent B w a) :
    Calls Tryd.prog 4 #[.agg (pcs i n A C (.slice ad L.length cap))] w fun e w' => e = .returned (.bool true) ∧ Nw w w' := by
  have HLD : Hid (Laid w) := hLd
  have HSE : Hid (Sent B w a) := hS
  have HIN : Hid (i < 18446744073709551616 ∧ n < 18446744073709551616) := ⟨hi, hn⟩
  have HA := hid_of hA
  have HC := hid_of hC
  have hAs : (hbs A).size = 32 := by rw [hbs_size, hA]
  have hCs : (hbs C).size = 32 := by rw [hbs_size, hC]
  have HL32 : Hid (∀ y ∈ L, y.length = 32) := hL32
  obtain ⟨ln, hln⟩ : ∃ q, q = L.length := ⟨_, rfl⟩
  have HLE : Hid (ln = L.length) := hln
  have HLN : Hid (ln < 4611686018427387904 ∧ ln ≤ cap) := by refine ⟨?_, ?_⟩ <;> omega
  have HSS : Hid (Hss w (.slice ad ln cap) L) := by rw [hln]; exact hs
  have QB : Hid (∀ V g, V.heap[g]? = some (.cells #[.int .i64 (ln : Int)] 3) → Calls Tryd.prog 8 #[.slice (some ⟨g, 0, none⟩) 1 1] V fun e w' => e = .returned (.bool (decide (1048576 < ln))) ∧ w' = V) := fun V g hg => by
    have hi : Ints V (some ⟨g, 0, none⟩) [ln] := fun j hj => by
      match j, hj with
      | 0, _ => exact ⟨g, 0, rfl, by rw [Nat.zero_add, cell_of hg]; rfl⟩
    have := beyond_any (some ⟨g, 0, none⟩) 1 [ln] V hi (getD_one ln (by have := HLN.out; omega)) (by simp)
    rw [show [ln].sum = ln by simp] at this
    exact this
  rw [← hln]
  obtain ⟨pv, hpv⟩ : ∃ p, p = pcs i n A C (.slice ad ln cap) := ⟨_, rfl⟩
  have HPV := hid_of hpv
  rw [← hpv]
  clear hA hC hL32 hln hcap hs hLd hS hLl hpv hi hn
  go_enter Tryd.func4, Tryd.ntmps4
  go_upto_region 1 with fail
  have b0 := heap_new w (.cells pv 45)
  have nA := nwa w (.cells pv 45)
  obtain ⟨w1, hw1⟩ : ∃ q, w.alloc (.cells pv 45) = q := ⟨_, rfl⟩
  rw [hw1] at b0 nA ⊢
  clear hw1
  obtain ⟨xb, hxb⟩ : ∃ q, q = w.heap.size := ⟨_, rfl⟩
  rw [← hxb] at b0 ⊢
  have HXB : Hid (w1.heap[xb]? = some (.cells (pcs i n A C (.slice ad ln cap)) 45)) := by rw [← HPV.out]; exact b0
  have N1 : Hid (Nw w w1) := nA
  have HPC : Hid (∀ V, Nw w1 V → V.cell? ⟨xb, 0, none⟩ = some (.int .u64 (i : Int)) ∧ V.cell? ⟨xb, 1, none⟩ = some (.int .u64 (n : Int)) ∧ (∀ j, j < 32 → V.cell? ⟨xb, 2 + j, none⟩ = (hbs A)[j]?) ∧ (∀ j, j < 32 → V.cell? ⟨xb, 34 + j, none⟩ = (hbs C)[j]?) ∧ V.cell? ⟨xb, 66, none⟩ = some (.slice ad ln cap)) := fun V hV => pcs_cells HA.out HC.out ((hV.block _ (heap_lt HXB.out) (fun f => f)).trans HXB.out)
  clear hxb b0 nA
  have cs := (HPC.out w1 (nwr w1)).2.2.2.2
  go_wp2_with fail
  refine (QB.out _ _ (heap_new _ _)).mono ?_
  rintro e w2 ⟨rfl, h2⟩
  have N2 : Hid (Nw w1 w2) := by show Nw w1 w2; rw [h2]; exact nwa w1 _
  clear h2
  by_cases hbig : 1048576 < ln
  · have hd : decide (1048576 < ln) = true := decide_eq_true hbig
    rw [hd]
    clear hd hbig
    go_wp2
    go_ret
    exact ⟨rfl, N1.out.tr N2.out⟩
  have hd : decide (1048576 < ln) = false := decide_eq_false hbig
  rw [hd]
  have HBIG : Hid (ln ≤ 1048576) := by show ln ≤ _; omega
  have hbl : ln ≤ 1048576 := by omega
  clear hd hbig cs
  have cs := (HPC.out w2 N2.out).2.2.2.2
  have QT0 := twinh_any ad cap L HL32.out w2 (by rw [← HLE.out]; exact HSS.out.nw HL32.out (N1.out.tr N2.out)) (by rw [← HLE.out]; exact HBIG.out)
  rw [← HLE.out] at QT0
  have QT := hid_of QT0
  clear QT0
  go_wp2_with fail
  refine (Calls.mono QT.out) ?_
  rintro e w3 ⟨rfl, o3, n3⟩
  obtain ⟨g, hg⟩ : ∃ g, g = w2.heap.size := ⟨_, rfl⟩
  rw [← hg] at o3 ⊢
  have hall : ∀ x ∈ L ++ [HB.mk 7777], x.length = 32 := fun x hx => by
    rcases List.mem_append.1 hx with h | h
    · exact HL32.out x h
    · rw [List.mem_singleton.1 h]; exact HB.mk_len _
  have o4 := own_headT hall o3 (m := ln) (by omega)
  rw [List.take_left' HLE.out.symm] at o4
  have HSI : Hid (Hss w3 (.slice (some ⟨g, 0, none⟩) ln (ln + 1)) L) := by
    have := Hss.of HL32.out (by rw [← HLE.out]; exact o4)
    exact this
  have HOW : Hid (w3.ownsRow g 24 32 (.slice (some ⟨g, 0, none⟩) (ln + 1) (ln + 1)) (ln + 1) (hsc (L ++ [HB.mk 7777]))) := o3
  have N3 : Hid (Nw w1 w3) := N2.out.tr n3
  have NW3 : Hid (Nw w w3) := N1.out.tr N3.out
  clear hg hall o3 o4 n3 cs QT QB
  have QLH : Hid (∀ V, Nw w3 V → Calls Tryd.prog 13 #[.slice (some ⟨g, 0, none⟩) ln (ln + 1), .slice ad ln cap] V fun e w' => e = .returned (.bool true) ∧ Nw V w') := fun V hV => by
    have := lefth_any L HL32.out (by rw [← HLE.out]; exact HBIG.out) g g ad cap V (by rw [← HLE.out]; exact ownsRow_keep HOW.out (fun q hq => hV.block q (HOW.out.lt q hq).2 (fun f => f))) (by rw [← HLE.out]; exact HSS.out.nw HL32.out (NW3.out.tr hV))
    rw [← HLE.out] at this
    exact this
  have QAL : Hid (∀ V, Nw w3 V → Calls Tryd.prog 16 #[] V fun e w' => e = .returned (.bool true) ∧ Nw V w') := fun V hV => alive18_any V (HLD.out.nw (NW3.out.tr hV)) (HSE.out.nw (NW3.out.tr hV))
  have QC : Hid (∀ V, Nw w3 V → Calls Tryd.prog 17 #[.int .u64 (i : Int), .int .u64 (n : Int), .agg (hbs A), .agg (hbs C), .slice (some ⟨g, 0, none⟩) ln (ln + 1)] V fun e w' => e = .returned (erv a (ccA i n A C L)) ∧ Nw V w') := fun V hV => by
    have := cons_any i n HIN.out.1 HIN.out.2 A C HA.out HC.out L HL32.out (by have := HLE.out; have := HLN.out; omega) (some ⟨g, 0, none⟩) (ln + 1) (by have := HLE.out; omega) V (by rw [← HLE.out]; exact HSI.out.nw HL32.out hV) (HLD.out.nw (NW3.out.tr hV)) (HSE.out.nw (NW3.out.tr hV))
    rw [← HLE.out] at this
    exact this
  have QD : Hid (∀ V, Nw w3 V → Calls Tryd.prog 18 #[.int .u64 (i : Int), .int .u64 (n : Int), .agg (hbs A), .agg (hbs C), .slice ad ln cap] V fun e w' => e = .returned (.agg (dfa (ccA i n A C L))) ∧ Nw V w') := fun V hV => by
    have := rcons_any i n HIN.out.1 HIN.out.2 A C HA.out HC.out L HL32.out ad cap (by have := HLE.out; have := HLN.out; omega) V (HSS.out.nw HL32.out (NW3.out.tr hV)).hrs
    rw [← HLE.out] at this
    exact this
  have QS : Hid (∀ V, Nw w3 V → Calls Tryd.prog 12 #[erv a (ccA i n A C L), .agg (dfa (ccA i n A C L))] V fun e w' => e = .returned (.bool true) ∧ Nw V w') := fun V hV => same_erv (HSE.out.nw (NW3.out.tr hV)) _ (ccA_code i n A C L)
  obtain ⟨ev, hev⟩ : ∃ v, v = erv a (ccA i n A C L) := ⟨_, rfl⟩
  obtain ⟨df, hdf⟩ : ∃ v, v = dfa (ccA i n A C L) := ⟨_, rfl⟩
  rw [← hev] at QC QS
  rw [← hdf] at QD QS
  clear hev hdf
  have NS : Hid (Nw w3 w3) := nwr w3
  go_upto_region 4 with fail
  have nb : Nw w3 w3.drew := (Fr.refl _ _).drew
  refine wp_region_held_drew (S := (fun V => Nw w3 V)) (by kernel_rfl) (nb) ?_
  intro hS0
  refine wpAnyH_take (i := 0) (oi := ({ dst := some 12, op := Op.fieldAddr 45 (Operand.tmp 1) 0, type := 0, pos := "law.go:59", after := #[], guard := none } : Oper)) (v := .pointer (some ⟨xb, 0, none⟩)) rfl (by kernel_rfl) (by kernel_rfl) (by kernel_rfl) (fun _ _ _ h => h) (Or.inl ⟨by rfl, by intro w hw; go_simp⟩) hS0 ?_
  try simp only [Act.put, List.setIfInBounds_toArray, List.set_cons_zero, List.set_cons_succ]
  refine wpAnyH_take (i := 1) (oi := ({ dst := some 13, op := Op.load 22 (Operand.tmp 12), type := 22, pos := "law.go:59", after := #[{ on := 0, ground := Ground.data }], guard := none } : Oper)) (v := .int .u64 (i : Int)) rfl (by kernel_rfl) (by kernel_rfl) (by kernel_rfl) (fun _ _ _ h => h) (Or.inl ⟨by kernel_rfl, by intro w hw; have hx := (HPC.out w (N3.out.tr (NS.out.tr hw))).1; go_simp⟩) hS0 ?_
  try simp only [Act.put, List.setIfInBounds_toArray, List.set_cons_zero, List.set_cons_succ]
  refine wpAnyH_take (i := 2) (oi := ({ dst := some 14, op := Op.fieldAddr 45 (Operand.tmp 1) 1, type := 0, pos := "law.go:59", after := #[], guard := none } : Oper)) (v := .pointer (some ⟨xb, 1, none⟩)) rfl (by kernel_rfl) (by kernel_rfl) (by kernel_rfl) (fun _ _ _ h => h) (Or.inl ⟨by rfl, by intro w hw; go_simp⟩) hS0 ?_
  try simp only [Act.put, List.setIfInBounds_toArray, List.set_cons_zero, List.set_cons_succ]
  refine wpAnyH_take (i := 3) (oi := ({ dst := some 15, op := Op.load 22 (Operand.tmp 14), type := 22, pos := "law.go:59", after := #[{ on := 2, ground := Ground.data }], guard := none } : Oper)) (v := .int .u64 (n : Int)) rfl (by kernel_rfl) (by kernel_rfl) (by kernel_rfl) (fun _ _ _ h => h) (Or.inl ⟨by kernel_rfl, by intro w hw; have hx := (HPC.out w (N3.out.tr (NS.out.tr hw))).2.1; go_simp⟩) hS0 ?_
  try simp only [Act.put, List.setIfInBounds_toArray, List.set_cons_zero, List.set_cons_succ]
  refine wpAnyH_take (i := 4) (oi := ({ dst := some 16, op := Op.fieldAddr 45 (Operand.tmp 1) 2, type := 0, pos := "law.go:59", after := #[], guard := none } : Oper)) (v := .pointer (some ⟨xb, 2, none⟩)) rfl (by kernel_rfl) (by kernel_rfl) (by kernel_rfl) (fun _ _ _ h => h) (Or.inl ⟨by rfl, by intro w hw; go_simp⟩) hS0 ?_
  try simp only [Act.put, List.setIfInBounds_toArray, List.set_cons_zero, List.set_cons_succ]
  refine wpAnyH_take (i := 5) (oi := ({ dst := some 17, op := Op.load 24 (Operand.tmp 16), type := 24, pos := "law.go:59", after := #[{ on := 4, ground := Ground.data }], guard := none } : Oper)) (v := .agg (hbs A)) rfl (by kernel_rfl) (by kernel_rfl) (by kernel_rfl) (fun _ _ _ h => h) (yields_loadV (by kernel_rfl) (.tmp 16) 24 32 rfl Tryd.isAgg24 Tryd.sizeOf24 xb 2 rfl (hbs A) hAs (fun w hw => (HPC.out w (N3.out.tr (NS.out.tr hw))).2.2.1)) hS0 ?_
  try simp only [Act.put, List.setIfInBounds_toArray, List.set_cons_zero, List.set_cons_succ]
  refine wpAnyH_take (i := 6) (oi := ({ dst := some 18, op := Op.fieldAddr 45 (Operand.tmp 1) 3, type := 0, pos := "law.go:59", after := #[], guard := none } : Oper)) (v := .pointer (some ⟨xb, 34, none⟩)) rfl (by kernel_rfl) (by kernel_rfl) (by kernel_rfl) (fun _ _ _ h => h) (Or.inl ⟨by rfl, by intro w hw; go_simp⟩) hS0 ?_
  try simp only [Act.put, List.setIfInBounds_toArray, List.set_cons_zero, List.set_cons_succ]
  refine wpAnyH_take (i := 7) (oi := ({ dst := some 19, op := Op.load 24 (Operand.tmp 18), type := 24, pos := "law.go:59", after := #[{ on := 6, ground := Ground.data }], guard := none } : Oper)) (v := .agg (hbs C)) rfl (by kernel_rfl) (by kernel_rfl) (by kernel_rfl) (fun _ _ _ h => h) (yields_loadV (by kernel_rfl) (.tmp 18) 24 32 rfl Tryd.isAgg24 Tryd.sizeOf24 xb 34 rfl (hbs C) hCs (fun w hw => (HPC.out w (N3.out.tr (NS.out.tr hw))).2.2.2.1)) hS0 ?_
  try simp only [Act.put, List.setIfInBounds_toArray, List.set_cons_zero, List.set_cons_succ]
  refine wpAnyH_take (i := 8) (oi := ({ dst := some 20, op := Op.move (Operand.tmp 3), type := 25, pos := "law.go:59", after := #[], guard := none } : Oper)) (v := .slice (some ⟨g, 0, none⟩) ln (ln + 1)) rfl (by kernel_rfl) (by kernel_rfl) (by kernel_rfl) (fun _ _ _ h => h) (Or.inl ⟨by rfl, by intro w hw; go_simp⟩) hS0 ?_
  try simp only [Act.put, List.setIfInBounds_toArray, List.set_cons_zero, List.set_cons_succ]
  refine wpAnyH_take (i := 10) (oi := ({ dst := some 22, op := Op.fieldAddr 45 (Operand.tmp 1) 0, type := 0, pos := "law.go:59", after := #[], guard := none } : Oper)) (v := .pointer (some ⟨xb, 0, none⟩)) rfl (by kernel_rfl) (by kernel_rfl) (by kernel_rfl) (fun _ _ _ h => h) (Or.inl ⟨by rfl, by intro w hw; go_simp⟩) hS0 ?_
  try simp only [Act.put, List.setIfInBounds_toArray, List.set_cons_zero, List.set_cons_succ]
  refine wpAnyH_take (i := 11) (oi := ({ dst := some 23, op := Op.load 22 (Operand.tmp 22), type := 22, pos := "law.go:59", after := #[{ on := 10, ground := Ground.data }], guard := none } : Oper)) (v := .int .u64 (i : Int)) rfl (by kernel_rfl) (by kernel_rfl) (by kernel_rfl) (fun _ _ _ h => h) (Or.inl ⟨by kernel_rfl, by intro w hw; have hx := (HPC.out w (N3.out.tr (NS.out.tr hw))).1; go_simp⟩) hS0 ?_
  try simp only [Act.put, List.setIfInBounds_toArray, List.set_cons_zero, List.set_cons_succ]
  refine wpAnyH_take (i := 12) (oi := ({ dst := some 24, op := Op.fieldAddr 45 (Operand.tmp 1) 1, type := 0, pos := "law.go:59", after := #[], guard := none } : Oper)) (v := .pointer (some ⟨xb, 1, none⟩)) rfl (by kernel_rfl) (by kernel_rfl) (by kernel_rfl) (fun _ _ _ h => h) (Or.inl ⟨by rfl, by intro w hw; go_simp⟩) hS0 ?_
  try simp only [Act.put, List.setIfInBounds_toArray, List.set_cons_zero, List.set_cons_succ]
  refine wpAnyH_take (i := 13) (oi := ({ dst := some 25, op := Op.load 22 (Operand.tmp 24), type := 22, pos := "law.go:59", after := #[{ on := 12, ground := Ground.data }], guard := none } : Oper)) (v := .int .u64 (n : Int)) rfl (by kernel_rfl) (by kernel_rfl) (by kernel_rfl) (fun _ _ _ h => h) (Or.inl ⟨by kernel_rfl, by intro w hw; have hx := (HPC.out w (N3.out.tr (NS.out.tr hw))).2.1; go_simp⟩) hS0 ?_
  try simp only [Act.put, List.setIfInBounds_toArray, List.set_cons_zero, List.set_cons_succ]
  refine wpAnyH_take (i := 14) (oi := ({ dst := some 26, op := Op.fieldAddr 45 (Operand.tmp 1) 2, type := 0, pos := "law.go:59", after := #[], guard := none } : Oper)) (v := .pointer (some ⟨xb, 2, none⟩)) rfl (by kernel_rfl) (by kernel_rfl) (by kernel_rfl) (fun _ _ _ h => h) (Or.inl ⟨by rfl, by intro w hw; go_simp⟩) hS0 ?_
  try simp only [Act.put, List.setIfInBounds_toArray, List.set_cons_zero, List.set_cons_succ]
  refine wpAnyH_take (i := 15) (oi := ({ dst := some 27, op := Op.load 24 (Operand.tmp 26), type := 24, pos := "law.go:59", after := #[{ on := 14, ground := Ground.data }], guard := none } : Oper)) (v := .agg (hbs A)) rfl (by kernel_rfl) (by kernel_rfl) (by kernel_rfl) (fun _ _ _ h => h) (yields_loadV (by kernel_rfl) (.tmp 26) 24 32 rfl Tryd.isAgg24 Tryd.sizeOf24 xb 2 rfl (hbs A) hAs (fun w hw => (HPC.out w (N3.out.tr (NS.out.tr hw))).2.2.1)) hS0 ?_
  try simp only [Act.put, List.setIfInBounds_toArray, List.set_cons_zero, List.set_cons_succ]
  refine wpAnyH_take (i := 16) (oi := ({ dst := some 28, op := Op.fieldAddr 45 (Operand.tmp 1) 3, type := 0, pos := "law.go:59", after := #[], guard := none } : Oper)) (v := .pointer (some ⟨xb, 34, none⟩)) rfl (by kernel_rfl) (by kernel_rfl) (by kernel_rfl) (fun _ _ _ h => h) (Or.inl ⟨by rfl, by intro w hw; go_simp⟩) hS0 ?_
  try simp only [Act.put, List.setIfInBounds_toArray, List.set_cons_zero, List.set_cons_succ]
  refine wpAnyH_take (i := 17) (oi := ({ dst := some 29, op := Op.load 24 (Operand.tmp 28), type := 24, pos := "law.go:59", after := #[{ on := 16, ground := Ground.data }], guard := none } : Oper)) (v := .agg (hbs C)) rfl (by kernel_rfl) (by kernel_rfl) (by kernel_rfl) (fun _ _ _ h => h) (yields_loadV (by kernel_rfl) (.tmp 28) 24 32 rfl Tryd.isAgg24 Tryd.sizeOf24 xb 34 rfl (hbs C) hCs (fun w hw => (HPC.out w (N3.out.tr (NS.out.tr hw))).2.2.2.1)) hS0 ?_
  try simp only [Act.put, List.setIfInBounds_toArray, List.set_cons_zero, List.set_cons_succ]
  refine wpAnyH_take (i := 18) (oi := ({ dst := some 30, op := Op.fieldAddr 45 (Operand.tmp 1) 4, type := 0, pos := "law.go:59", after := #[], guard := none } : Oper)) (v := .pointer (some ⟨xb, 66, none⟩)) rfl (by kernel_rfl) (by kernel_rfl) (by kernel_rfl) (fun _ _ _ h => h) (Or.inl ⟨by rfl, by intro w hw; go_simp⟩) hS0 ?_
  try simp only [Act.put, List.setIfInBounds_toArray, List.set_cons_zero, List.set_cons_succ]
  refine wpAnyH_take (i := 19) (oi := ({ dst := some 31, op := Op.load 25 (Operand.tmp 30), type := 25, pos := "law.go:59", after := #[{ on := 18, ground := Ground.data }], guard := none } : Oper)) (v := .slice ad ln cap) rfl (by kernel_rfl) (by kernel_rfl) (by kernel_rfl) (fun _ _ _ h => h) (Or.inl ⟨by kernel_rfl, by intro w hw; have hx := (HPC.out w (N3.out.tr (NS.out.tr hw))).2.2.2.2; go_simp⟩) hS0 ?_
  try simp only [Act.put, List.setIfInBounds_toArray, List.set_cons_zero, List.set_cons_succ]
  refine wpAnyH_ready (rs := [9]) (by kernel_rfl) (by simp) ?_
  refine (AllReadyH.cons (o := ({ dst := some 21, op := Op.call { callee := Callee.value (Operand.func 17), args := #[Operand.tmp 13, Operand.tmp 15, Operand.tmp 17, Operand.tmp 19, Operand.tmp 20], argTypes := #[22, 22, 24, 24, 25] }, type := 31, pos := "law.go:59", after := #[{ on := 1, ground := Ground.data }, { on := 3, ground := Ground.data }, { on := 5, ground := Ground.data }, { on := 7, ground := Ground.data }, { on := 8, ground := Ground.data }], guard := none } : Oper)) rfl (fun K' hK => ?_) AllReadyH.nil)
  go_simp
  go_wp2_with (go_at_call 17; refine (QC.out _ nb).mono ?_; rintro ex w101 ⟨rfl, nw101⟩)
  have nb := nb.tr nw101
  refine hK.out _ _ (nb) (fun hS0 => ?_)
  try simp only [Act.put, List.setIfInBounds_toArray, List.set_cons_zero, List.set_cons_succ]
  refine wpAnyH_ready (rs := [20]) (by kernel_rfl) (by simp) ?_
  refine (AllReadyH.cons (o := ({ dst := some 32, op := Op.call { callee := Callee.value (Operand.func 18), args := #[Operand.tmp 23, Operand.tmp 25, Operand.tmp 27, Operand.tmp 29, Operand.tmp 31], argTypes := #[22, 22, 24, 24, 25] }, type := 35, pos := "law.go:59", after := #[{ on := 11, ground := Ground.data }, { on := 13, ground := Ground.data }, { on := 15, ground := Ground.data }, { on := 17, ground := Ground.data }, { on := 19, ground := Ground.data }, { on := 9, ground := Ground.chain }], guard := none } : Oper)) rfl (fun K' hK => ?_) AllReadyH.nil)
  go_simp
  go_wp2_with (go_at_call 18; refine (QD.out _ nb).mono ?_; rintro ex w102 ⟨rfl, nw102⟩)
  have nb := nb.tr nw102
  refine hK.out _ _ (nb) (fun hS0 => ?_)
  try simp only [Act.put, List.setIfInBounds_toArray, List.set_cons_zero, List.set_cons_succ]
  refine wpAnyH_ready (rs := [21]) (by kernel_rfl) (by simp) ?_
  refine (AllReadyH.cons (o := ({ dst := some 33, op := Op.call { callee := Callee.value (Operand.func 12), args := #[Operand.tmp 21, Operand.tmp 32], argTypes := #[31, 35] }, type := 4, pos := "law.go:59", after := #[{ on := 9, ground := Ground.data }, { on := 20, ground := Ground.data }, { on := 20, ground := Ground.chain }], guard := none } : Oper)) rfl (fun K' hK => ?_) AllReadyH.nil)
  go_simp
  go_wp2_with (go_at_call 12; refine (QS.out _ nb).mono ?_; rintro ex w103 ⟨rfl, nw103⟩)
  have nb := nb.tr nw103
  refine hK.out _ _ (nb) (fun hS0 => ?_)
  try simp only [Act.put, List.setIfInBounds_toArray, List.set_cons_zero, List.set_cons_succ]
  refine wpAnyH_take (i := 22) (oi := ({ dst := some 34, op := Op.move (Operand.tmp 33), type := 4, pos := "law.go:59", after := #[{ on := 21, ground := Ground.data }, { on := 21, ground := Ground.chain }], guard := none } : Oper)) (v := .bool true) rfl (by kernel_rfl) (by kernel_rfl) (by kernel_rfl) (fun _ _ _ h => h) (Or.inl ⟨by rfl, by intro w hw; go_simp⟩) hS0 ?_
  try simp only [Act.put, List.setIfInBounds_toArray, List.set_cons_zero, List.set_cons_succ]
  refine wpAnyH_take (i := 23) (oi := ({ dst := some 35, op := Op.move (Operand.tmp 3), type := 25, pos := "law.go:59", after := #[{ on := 22, ground := Ground.guard }], guard := some (22, true) } : Oper)) (v := .slice (some ⟨g, 0, none⟩) ln (ln + 1)) rfl (by kernel_rfl) (by kernel_rfl) (by kernel_rfl) (fun _ _ _ h => h) (Or.inl ⟨by kernel_rfl, by intro w hw; go_simp⟩) hS0 ?_
  try simp only [Act.put, List.setIfInBounds_toArray, List.set_cons_zero, List.set_cons_succ]
  refine wpAnyH_take (i := 24) (oi := ({ dst := some 36, op := Op.fieldAddr 45 (Operand.tmp 1) 4, type := 0, pos := "law.go:59", after := #[{ on := 22, ground := Ground.guard }], guard := some (22, true) } : Oper)) (v := .pointer (some ⟨xb, 66, none⟩)) rfl (by kernel_rfl) (by kernel_rfl) (by kernel_rfl) (fun _ _ _ h => h) (Or.inl ⟨by kernel_rfl, by intro w hw; go_simp⟩) hS0 ?_
  try simp only [Act.put, List.setIfInBounds_toArray, List.set_cons_zero, List.set_cons_succ]
  refine wpAnyH_take (i := 25) (oi := ({ dst := some 37, op := Op.load 25 (Operand.tmp 36), type := 25, pos := "law.go:59", after := #[{ on := 24, ground := Ground.data }, { on := 22, ground := Ground.guard }], guard := some (22, true) } : Oper)) (v := .slice ad ln cap) rfl (by kernel_rfl) (by kernel_rfl) (by kernel_rfl) (fun _ _ _ h => h) (Or.inl ⟨by kernel_rfl, by intro w hw; have hx := (HPC.out w (N3.out.tr (NS.out.tr hw))).2.2.2.2; go_simp⟩) hS0 ?_
  try simp only [Act.put, List.setIfInBounds_toArray, List.set_cons_zero, List.set_cons_succ]
  refine wpAnyH_ready (rs := [26]) (by kernel_rfl) (by simp) ?_
  refine (AllReadyH.cons (o := ({ dst := some 38, op := Op.call { callee := Callee.value (Operand.func 13), args := #[Operand.tmp 35, Operand.tmp 37], argTypes := #[25, 25] }, type := 4, pos := "law.go:59", after := #[{ on := 23, ground := Ground.data }, { on := 25, ground := Ground.data }, { on := 22, ground := Ground.chain }, { on := 22, ground := Ground.guard }], guard := some (22, true) } : Oper)) rfl (fun K' hK => ?_) AllReadyH.nil)
  go_simp
  go_wp2_with (go_at_call 13; refine (QLH.out _ nb).mono ?_; rintro ex w104 ⟨rfl, nw104⟩)
  have nb := nb.tr nw104
  refine hK.out _ _ (nb) (fun hS0 => ?_)
  try simp only [Act.put, List.setIfInBounds_toArray, List.set_cons_zero, List.set_cons_succ]
  refine wpAnyH_take (i := 27) (oi := ({ dst := some 39, op := Op.pick (Operand.tmp 34) (Operand.tmp 38) (Operand.const (Value.bool false)), type := 4, pos := "law.go:59", after := #[{ on := 22, ground := Ground.data }, { on := 26, ground := Ground.data }], guard := none } : Oper)) (v := .bool true) rfl (by kernel_rfl) (by kernel_rfl) (by kernel_rfl) (fun _ _ _ h => h) (Or.inl ⟨by rfl, by intro w hw; go_simp⟩) hS0 ?_
  try simp only [Act.put, List.setIfInBounds_toArray, List.set_cons_zero, List.set_cons_succ]
  refine wpAnyH_take (i := 28) (oi := ({ dst := some 40, op := Op.move (Operand.tmp 39), type := 4, pos := "law.go:59", after := #[{ on := 27, ground := Ground.data }, { on := 26, ground := Ground.chain }], guard := none } : Oper)) (v := .bool true) rfl (by kernel_rfl) (by kernel_rfl) (by kernel_rfl) (fun _ _ _ h => h) (Or.inl ⟨by rfl, by intro w hw; go_simp⟩) hS0 ?_
  try simp only [Act.put, List.setIfInBounds_toArray, List.set_cons_zero, List.set_cons_succ]
  refine wpAnyH_ready (rs := [29]) (by kernel_rfl) (by simp) ?_
  refine (AllReadyH.cons (o := ({ dst := some 41, op := Op.call { callee := Callee.value (Operand.func 16), args := #[], argTypes := #[] }, type := 4, pos := "law.go:59", after := #[{ on := 28, ground := Ground.chain }, { on := 28, ground := Ground.guard }], guard := some (28, true) } : Oper)) rfl (fun K' hK => ?_) AllReadyH.nil)
  go_simp
  go_wp2_with (go_at_call 16; refine (QAL.out _ nb).mono ?_; rintro ex w105 ⟨rfl, nw105⟩)
  have nb := nb.tr nw105
  refine hK.out _ _ (nb) (fun hS0 => ?_)
  try simp only [Act.put, List.setIfInBounds_toArray, List.set_cons_zero, List.set_cons_succ]
  refine wpAnyH_take (i := 30) (oi := ({ dst := some 42, op := Op.pick (Operand.tmp 40) (Operand.tmp 41) (Operand.const (Value.bool false)), type := 4, pos := "law.go:59", after := #[{ on := 28, ground := Ground.data }, { on := 29, ground := Ground.data }], guard := none } : Oper)) (v := .bool true) rfl (by kernel_rfl) (by kernel_rfl) (by kernel_rfl) (fun _ _ _ h => h) (Or.inl ⟨by rfl, by intro w hw; go_simp⟩) hS0 ?_
  try simp only [Act.put, List.setIfInBounds_toArray, List.set_cons_zero, List.set_cons_succ]
  refine wpAnyH_ready (rs := [31]) (by kernel_rfl) (by simp) ?_
  refine (AllReadyH.cons (o := ({ dst := some 2, op := Op.assign (Operand.tmp 42), type := 4, pos := "law.go:59", after := #[{ on := 30, ground := Ground.data }, { on := 29, ground := Ground.chain }, { on := 0, ground := Ground.phase }, { on := 1, ground := Ground.phase }, { on := 2, ground := Ground.phase }, { on := 3, ground := Ground.phase }, { on := 4, ground := Ground.phase }, { on := 5, ground := Ground.phase }, { on := 6, ground := Ground.phase }, { on := 7, ground := Ground.phase }, { on := 8, ground := Ground.phase }, { on := 9, ground := Ground.phase }, { on := 10, ground := Ground.phase }, { on := 11, ground := Ground.phase }, { on := 12, ground := Ground.phase }, { on := 13, ground := Ground.phase }, { on := 14, ground := Ground.phase }, { on := 15, ground := Ground.phase }, { on := 16, ground := Ground.phase }, { on := 17, ground := Ground.phase }, { on := 18, ground := Ground.phase }, { on := 19, ground := Ground.phase }, { on := 20, ground := Ground.phase }, { on := 21, ground := Ground.phase }, { on := 22, ground := Ground.phase }, { on := 23, ground := Ground.phase }, { on := 24, ground := Ground.phase }, { on := 25, ground := Ground.phase }, { on := 26, ground := Ground.phase }, { on := 27, ground := Ground.phase }, { on := 28, ground := Ground.phase }, { on := 29, ground := Ground.phase }, { on := 30, ground := Ground.phase }], guard := none } : Oper)) rfl (fun K' hK => ?_) AllReadyH.nil)
  go_simp
  refine hK.out _ _ (nb) (fun hS0 => ?_)
  try simp only [Act.put, List.setIfInBounds_toArray, List.set_cons_zero, List.set_cons_succ]
  refine wpAnyH_done (by kernel_rfl) ?_ _
  go_wp2_with fail
  go_ret
  exact ⟨rfl, NW3.out.tr nb⟩
set_option maxRecDepth 100000 in
set_option maxHeartbeats 8000000 in
theorem VerifyPaths_any (i n : Nat) (hi : i < 18446744073709551616) (hn : n < 18446744073709551616) (A C : List UInt8) (hA : A.length = 32) (hC : C.length = 32) (L : List (List UInt8)) (hL32 : ∀ y ∈ L, y.length = 32) (hLl : L.length < 4611686018427387904) (ad : Option Addr) (cap : Nat) (hcap : L.length ≤ cap) (w : World) (hs : Hss w (.slice ad L.length cap) L) (hLd : Laid w) {B : Nat} {a : Nat → Addr} (hS : Sent B w a) :
    Calls Tryd.prog 3 #[.agg (pcs i n A C (.slice ad L.length cap))] w fun e w' => e = .returned (.bool true) ∧ Nw w w' := by
  have HLD : Hid (Laid w) := hLd
  have HSE : Hid (Sent B w a) := hS
  have HIN : Hid (i < 18446744073709551616 ∧ n < 18446744073709551616) := ⟨hi, hn⟩
  have HA := hid_of hA
  have HC := hid_of hC
  have hAs : (hbs A).size = 32 := by rw [hbs_size, hA]
  have hCs : (hbs C).size = 32 := by rw [hbs_size, hC]
  have HL32 : Hid (∀ y ∈ L, y.length = 32) := hL32
  obtain ⟨ln, hln⟩ : ∃ q, q = L.length := ⟨_, rfl⟩
  have HLE : Hid (ln = L.length) := hln
  have HLN : Hid (ln < 4611686018427387904 ∧ ln ≤ cap) := by refine ⟨?_, ?_⟩ <;> omega
  have HSS : Hid (Hss w (.slice ad ln cap) L) := by rw [hln]; exact hs
  have QB : Hid (∀ V g, V.heap[g]? = some (.cells #[.int .i64 (ln : Int)] 3) → Calls Tryd.prog 8 #[.slice (some ⟨g, 0, none⟩) 1 1] V fun e w' => e = .returned (.bool (decide (1048576 < ln))) ∧ w' = V) := fun V g hg => by
    have hi : Ints V (some ⟨g, 0, none⟩) [ln] := fun j hj => by
      match j, hj with
      | 0, _ => exact ⟨g, 0, rfl, by rw [Nat.zero_add, cell_of hg]; rfl⟩
    have := beyond_any (some ⟨g, 0, none⟩) 1 [ln] V hi (getD_one ln (by have := HLN.out; omega)) (by simp)
    rw [show [ln].sum = ln by simp] at this
    exact this
  rw [← hln]
  obtain ⟨pv, hpv⟩ : ∃ p, p = pcs i n A C (.slice ad ln cap) := ⟨_, rfl⟩
  have HPV := hid_of hpv
  rw [← hpv]
  clear hA hC hL32 hln hcap hs hLd hS hLl hpv hi hn
  go_enter Tryd.func3, Tryd.ntmps3
  go_upto_region 1 with fail
  have b0 := heap_new w (.cells pv 27)
  have nA := nwa w (.cells pv 27)
  obtain ⟨w1, hw1⟩ : ∃ q, w.alloc (.cells pv 27) = q := ⟨_, rfl⟩
  rw [hw1] at b0 nA ⊢
  clear hw1
  obtain ⟨xb, hxb⟩ : ∃ q, q = w.heap.size := ⟨_, rfl⟩
  rw [← hxb] at b0 ⊢
  have HXB : Hid (w1.heap[xb]? = some (.cells (pcs i n A C (.slice ad ln cap)) 27)) := by rw [← HPV.out]; exact b0
  have N1 : Hid (Nw w w1) := nA
  have HPC : Hid (∀ V, Nw w1 V → V.cell? ⟨xb, 0, none⟩ = some (.int .u64 (i : Int)) ∧ V.cell? ⟨xb, 1, none⟩ = some (.int .u64 (n : Int)) ∧ (∀ j, j < 32 → V.cell? ⟨xb, 2 + j, none⟩ = (hbs A)[j]?) ∧ (∀ j, j < 32 → V.cell? ⟨xb, 34 + j, none⟩ = (hbs C)[j]?) ∧ V.cell? ⟨xb, 66, none⟩ = some (.slice ad ln cap)) := fun V hV => pcs_cells HA.out HC.out ((hV.block _ (heap_lt HXB.out) (fun f => f)).trans HXB.out)
  clear hxb b0 nA
  have cs := (HPC.out w1 (nwr w1)).2.2.2.2
  go_wp2_with fail
  refine (QB.out _ _ (heap_new _ _)).mono ?_
  rintro e w2 ⟨rfl, h2⟩
  have N2 : Hid (Nw w1 w2) := by show Nw w1 w2; rw [h2]; exact nwa w1 _
  clear h2
  by_cases hbig : 1048576 < ln
  · have hd : decide (1048576 < ln) = true := decide_eq_true hbig
    rw [hd]
    clear hd hbig
    go_wp2
    go_ret
    exact ⟨rfl, N1.out.tr N2.out⟩
  have hd : decide (1048576 < ln) = false := decide_eq_false hbig
  rw [hd]
  have HBIG : Hid (ln ≤ 1048576) := by show ln ≤ _; omega
  have hbl : ln ≤ 1048576 := by omega
  clear hd hbig cs
  have cs := (HPC.out w2 N2.out).2.2.2.2
  have QT0 := twinh_any ad cap L HL32.out w2 (by rw [← HLE.out]; exact HSS.out.nw HL32.out (N1.out.tr N2.out)) (by rw [← HLE.out]; exact HBIG.out)
  rw [← HLE.out] at QT0
  have QT := hid_of QT0
  clear QT0
  go_wp2_with fail
  refine (Calls.mono QT.out) ?_
  rintro e w3 ⟨rfl, o3, n3⟩
  obtain ⟨g, hg⟩ : ∃ g, g = w2.heap.size := ⟨_, rfl⟩
  rw [← hg] at o3 ⊢
  have hall : ∀ x ∈ L ++ [HB.mk 7777], x.length = 32 := fun x hx => by
    rcases List.mem_append.1 hx with h | h
    · exact HL32.out x h
    · rw [List.mem_singleton.1 h]; exact HB.mk_len _
  have o4 := own_headT hall o3 (m := ln) (by omega)
  rw [List.take_left' HLE.out.symm] at o4
  have HSI : Hid (Hss w3 (.slice (some ⟨g, 0, none⟩) ln (ln + 1)) L) := by
    have := Hss.of HL32.out (by rw [← HLE.out]; exact o4)
    exact this
  have HOW : Hid (w3.ownsRow g 24 32 (.slice (some ⟨g, 0, none⟩) (ln + 1) (ln + 1)) (ln + 1) (hsc (L ++ [HB.mk 7777]))) := o3
  have N3 : Hid (Nw w1 w3) := N2.out.tr n3
  have NW3 : Hid (Nw w w3) := N1.out.tr N3.out
  clear hg hall o3 o4 n3 cs QT QB
  have QLH : Hid (∀ V, Nw w3 V → Calls Tryd.prog 13 #[.slice (some ⟨g, 0, none⟩) ln (ln + 1), .slice ad ln cap] V fun e w' => e = .returned (.bool true) ∧ Nw V w') := fun V hV => by
    have := lefth_any L HL32.out (by rw [← HLE.out]; exact HBIG.out) g g ad cap V (by rw [← HLE.out]; exact ownsRow_keep HOW.out (fun q hq => hV.block q (HOW.out.lt q hq).2 (fun f => f))) (by rw [← HLE.out]; exact HSS.out.nw HL32.out (NW3.out.tr hV))
    rw [← HLE.out] at this
    exact this
  have QAL : Hid (∀ V, Nw w3 V → Calls Tryd.prog 16 #[] V fun e w' => e = .returned (.bool true) ∧ Nw V w') := fun V hV => alive18_any V (HLD.out.nw (NW3.out.tr hV)) (HSE.out.nw (NW3.out.tr hV))
  have QR : Hid (∀ V, Nw w3 V → Calls Tryd.prog 10 #[.int .u64 (i : Int), .int .u64 (n : Int), .agg (hbs A), .slice (some ⟨g, 0, none⟩) ln (ln + 1)] V fun e w' => e = .returned (.tuple #[.agg (hbs (rtA i n A L).1), erv a (rtA i n A L).2]) ∧ Nw V w') := fun V hV => by
    have := root_any i n HIN.out.1 HIN.out.2 A HA.out L HL32.out (by have := HLE.out; have := HLN.out; omega) (some ⟨g, 0, none⟩) (ln + 1) V (by rw [← HLE.out]; exact HSI.out.nw HL32.out hV) (HLD.out.nw (NW3.out.tr hV)) (HSE.out.nw (NW3.out.tr hV))
    rw [← HLE.out] at this
    exact this
  have QD : Hid (∀ V, Nw w3 V → Calls Tryd.prog 11 #[.int .u64 (i : Int), .int .u64 (n : Int), .agg (hbs A), .slice ad ln cap] V fun e w' => e = .returned (.tuple #[.agg (hbs (rtA i n A L).1), .agg (dfa (rtA i n A L).2)]) ∧ Nw V w') := fun V hV => by
    have := rroot_any i n HIN.out.1 HIN.out.2 A HA.out L HL32.out ad cap (by have := HLE.out; have := HLN.out; omega) V (HSS.out.nw HL32.out (NW3.out.tr hV)).hrs
    rw [← HLE.out] at this
    exact this
  have QI : Hid (∀ V (r : List UInt8), r.length = 32 → Nw w3 V → Calls Tryd.prog 14 #[.int .u64 (i : Int), .int .u64 (n : Int), .agg (hbs A), .slice (some ⟨g, 0, none⟩) ln (ln + 1), .agg (hbs r)] V fun e w' => e = .returned (erv a (icA i n A L r)) ∧ Nw V w') := fun V r hr hV => by
    have := incl_any i n HIN.out.1 HIN.out.2 A HA.out L HL32.out (by have := HLE.out; have := HLN.out; omega) (some ⟨g, 0, none⟩) (ln + 1) r hr V (by rw [← HLE.out]; exact HSI.out.nw HL32.out hV) (HLD.out.nw (NW3.out.tr hV)) (HSE.out.nw (NW3.out.tr hV))
    rw [← HLE.out] at this
    exact this
  have QJ : Hid (∀ V, Nw w3 V → Calls Tryd.prog 15 #[.int .u64 (i : Int), .int .u64 (n : Int), .agg (hbs A), .slice ad ln cap, .agg (hbs C)] V fun e w' => e = .returned (.agg (dfa (icA i n A L C))) ∧ Nw V w') := fun V hV => by
    have := rincl_any i n HIN.out.1 HIN.out.2 A HA.out L HL32.out ad cap (by have := HLE.out; have := HLN.out; omega) C HC.out V (HSS.out.nw HL32.out (NW3.out.tr hV)).hrs
    rw [← HLE.out] at this
    exact this
  have QSR : Hid (∀ V, Nw w3 V → Calls Tryd.prog 12 #[erv a (rtA i n A L).2, .agg (dfa (rtA i n A L).2)] V fun e w' => e = .returned (.bool true) ∧ Nw V w') := fun V hV => same_erv (HSE.out.nw (NW3.out.tr hV)) _ (rtA_code i n A L)
  have QSI : Hid (∀ V, Nw w3 V → Calls Tryd.prog 12 #[erv a (icA i n A L C), .agg (dfa (icA i n A L C))] V fun e w' => e = .returned (.bool true) ∧ Nw V w') := fun V hV => same_erv (HSE.out.nw (NW3.out.tr hV)) _ (icA_code i n A L C)
  have hz32 := rtA_len i n A L HA.out
  have QI1 : Hid (∀ V, Nw w3 V → Calls Tryd.prog 14 #[.int .u64 (i : Int), .int .u64 (n : Int), .agg (hbs A), .slice (some ⟨g, 0, none⟩) ln (ln + 1), .agg (hbs C)] V fun e w' => e = .returned (erv a (icA i n A L C)) ∧ Nw V w') := fun V hV => QI.out V C HC.out hV
  have QI2 : Hid (∀ V, Nw w3 V → Calls Tryd.prog 14 #[.int .u64 (i : Int), .int .u64 (n : Int), .agg (hbs A), .slice (some ⟨g, 0, none⟩) ln (ln + 1), .agg (hbs (rtA i n A L).1)] V fun e w' => e = .returned (erv a (rtA i n A L).2) ∧ Nw V w') := fun V hV => by
    have := QI.out V _ hz32 hV
    rw [icA_self] at this
    exact this
  have hdf : (dfa (rtA i n A L).2).size = 2 ∧ ∀ u ∈ (dfa (rtA i n A L).2).toList, u.oneCell' = true := by
    rcases rtA_code i n A L with h | h | h <;> rw [h] <;> exact ⟨rfl, by decide⟩
  obtain ⟨z, hz⟩ : ∃ v, v = (rtA i n A L).1 := ⟨_, rfl⟩
  obtain ⟨ev, hev⟩ : ∃ v, v = erv a (rtA i n A L).2 := ⟨_, rfl⟩
  obtain ⟨df, hdf'⟩ : ∃ v, v = dfa (rtA i n A L).2 := ⟨_, rfl⟩
  obtain ⟨ei, hei⟩ : ∃ v, v = erv a (icA i n A L C) := ⟨_, rfl⟩
  obtain ⟨di, hdi⟩ : ∃ v, v = dfa (icA i n A L C) := ⟨_, rfl⟩
  rw [← hz] at QR QD QI2 hz32
  rw [← hev] at QR QSR QI2
  rw [← hdf'] at QD QSR hdf
  rw [← hei] at QI1 QSI
  rw [← hdi] at QJ QSI
  have Z32 := hid_of hz32
  have hzs : (hbs z).size = 32 := by rw [hbs_size, hz32]
  have hdfs := hdf.1
  have HD1 := hid_of hdf.2
  clear hz hev hdf' hei hdi QI hz32 hdf
  have c0 := (HPC.out w3 N3.out).1
  have c1 := (HPC.out w3 N3.out).2.1
  have HLF := hid_of (HPC.out w3 N3.out).2.2.1
  go_wp2_with (refine wple_load_at rfl (.tmp 21) 24 32 rfl Tryd.isAgg24 Tryd.sizeOf24 xb 2 rfl (hbs A) hAs HLF.out ?_)
  refine (QR.out _ (nwr w3)).mono ?_
  rintro e w4 ⟨rfl, n4⟩
  go_upto_region 5 with (refine wp_store_agg rfl (.tmp 4) (.tmp 25) 24 32 rfl Tryd.sizeOf24 w4.heap.size 0 rfl z32 24 (by rw [← z32_h]; exact heap_new _ _) (hbs z) rfl hzs (hbs_one _) (by decide) (hbs z) (by rw [dropA z32_size]; simp) ?_; intro w5 j5 f5 y5; clear y5)
  have n5 : Nw w3 w5 := n4.tr ((nwa w4 _).trans f5 (fun k hk q => by omega))
  obtain ⟨zb, hzb⟩ : ∃ q, q = w4.heap.size := ⟨_, rfl⟩
  rw [← hzb] at j5 ⊢
  have HZ5 : Hid (w5.heap[zb]? = some (.cells (hbs z) 24)) := j5
  have N5 := hid_of n5
  clear c0 c1 HLF hzb j5 f5 n4 n5
  have c0 := (HPC.out w5 (N3.out.tr N5.out)).1
  have c1 := (HPC.out w5 (N3.out.tr N5.out)).2.1
  have c6 := (HPC.out w5 (N3.out.tr N5.out)).2.2.2.2
  have HLF := hid_of (HPC.out w5 (N3.out.tr N5.out)).2.2.1
  go_wp2_with (refine wple_load_at rfl (.tmp 32) 24 32 rfl Tryd.isAgg24 Tryd.sizeOf24 xb 2 rfl (hbs A) hAs HLF.out ?_)
  refine (QD.out _ N5.out).mono ?_
  rintro e w6 ⟨rfl, n6⟩
  have N6 : Hid (Nw w3 w6) := N5.out.tr n6
  have HZ6 : Hid (w6.heap[zb]? = some (.cells (hbs z) 24)) := (n6.block _ (heap_lt HZ5.out) (fun f => f)).trans HZ5.out
  clear c0 c1 c6 HLF n6 HZ5 N5
  have e1 := heap_next w6 (.cells z32 24) (.cells #[.int .i64 0, .int .i64 0] 35)
  have e0 : ((w6.alloc (.cells z32 24)).alloc (.cells #[.int .i64 0, .int .i64 0] 35)).heap[w6.heap.size]? = some (.cells z32 24) := ((nwa (w6.alloc (.cells z32 24)) _).block _ (heap_lt (heap_new _ _)) (fun f => f)).trans (heap_new _ _)
  have nE : Nw w6 ((w6.alloc (.cells z32 24)).alloc (.cells #[.int .i64 0, .int .i64 0] 35)) := (nwa w6 _).alloc _
  have E0 := hid_of e0
  have E1 := hid_of e1
  have NE := hid_of nE
  clear e0 e1 nE
  go_upto_region 6 with first
    | (refine wp_store_agg rfl (.tmp 6) (.tmp 37) 24 32 rfl Tryd.sizeOf24 w6.heap.size 0 rfl z32 24 (by rw [← z32_h] at E0; exact E0.out) (hbs z) rfl hzs (hbs_one _) (by decide) (hbs z) (by rw [dropA z32_size]; simp) ?_; intro w7 j7 g7 z7; clear z7; have E5 : Hid (w7.heap[w6.heap.size + 1]? = some (.cells #[.int .i64 0, .int .i64 0] 35)) := (g7.block _ (by rw [z32_h]; exact heap_lt E1.out) (fun q => by omega)).trans (by rw [z32_h]; exact E1.out); have G5 : Hid (Fr (fun k => k = w6.heap.size) ((w6.alloc (.cells z32 24)).alloc (.cells #[.int .i64 0, .int .i64 0] 35)) w7) := (by rw [← z32_h]; exact g7))
    | (refine wp_store_agg rfl (.tmp 7) (.tmp 38) 35 2 rfl Tryd.sizeOf35 (w6.heap.size + 1) 0 rfl _ 35 E5.out df rfl hdfs HD1.out (by decide) df (by simp [hdfs]) ?_; intro w8 j8 g8 z8; clear z8)
  have n8 : Nw w6 w8 := (NE.out.trans G5.out (fun k hk q => by omega)).trans g8 (fun k hk q => by omega)
  have B0 := (g8.block _ (heap_lt j7) (fun q => by omega)).trans j7
  obtain ⟨yb, hyb⟩ : ∃ q, q = w6.heap.size := ⟨_, rfl⟩
  rw [← hyb] at B0 j8 ⊢
  obtain ⟨fb, hfb⟩ : ∃ q, q = yb + 1 := ⟨_, rfl⟩
  rw [← hfb] at j8 ⊢
  have HY8 : Hid (w8.heap[yb]? = some (.cells (hbs z) 24)) := B0
  have HF8 : Hid (w8.heap[fb]? = some (.cells df 35)) := j8
  have HZ8 : Hid (w8.heap[zb]? = some (.cells (hbs z) 24)) := (n8.block _ (heap_lt HZ6.out) (fun f => f)).trans HZ6.out
  have N8 : Hid (Nw w3 w8) := N6.out.tr n8
  have hcF : ∀ V, Nw w8 V → ∀ j, j < 2 → V.cell? ⟨fb, 0 + j, none⟩ = df[j]? := fun V hV j _ => by rw [Nat.zero_add, cell_of ((hV.block _ (heap_lt HF8.out) (fun f => f)).trans HF8.out)]
  have HCF := hid_of hcF
  have HCY : Hid (∀ V, Nw w8 V → ∀ j, j < 32 → V.cell? ⟨yb, 0 + j, none⟩ = (hbs z)[j]?) := fun V hV => hash_cells ((hV.block _ (heap_lt HY8.out) (fun f => f)).trans HY8.out)
  clear hyb hfb B0 j7 j8 g7 g8 E0 E1 NE E5 G5 n8 HZ6 N6 hcF
  have HF0 := hid_of (HCF.out w8 (nwr w8))
  have c6 := (HPC.out w8 (N3.out.tr N8.out)).2.2.2.2
  have hnq : (!decide (z = z)) = false := by simp
  go_wp2_with first
    | refine wpl_loadN (by kernel_rfl) (.tmp 4) 24 32 rfl Tryd.isAgg24 Tryd.sizeOf24 zb 0 rfl (hbs z) hzs (hash_cells HZ8.out) ?_
    | refine wpl_loadN (by kernel_rfl) (.tmp 6) 24 32 rfl Tryd.isAgg24 Tryd.sizeOf24 yb 0 rfl (hbs z) hzs (hash_cells HY8.out) ?_
    | refine wpl_loadN (by kernel_rfl) (.tmp 7) 35 2 rfl Tryd.isAgg35 Tryd.sizeOf35 fb 0 rfl df hdfs HF0.out ?_
    | (refine wpl_neqA (by kernel_rfl) (.tmp 39) (.tmp 40) rfl z z Z32.out Z32.out rfl rfl ?_; rw [hnq])
  refine (QSR.out _ N8.out).mono ?_
  rintro e w9 ⟨rfl, n9⟩
  have N9 : Hid (Nw w3 w9) := N8.out.tr n9
  have c6' := (HPC.out w9 (N3.out.tr N9.out)).2.2.2.2
  go_wp2_with fail
  refine (QLH.out _ N9.out).mono ?_
  rintro e wk ⟨rfl, nk⟩
  have NK8 : Hid (Nw w8 wk) := n9.tr nk
  have NS : Hid (Nw w3 wk) := N9.out.tr nk
  clear c6 c6' n9 nk N9
  go_upto_region 8 with fail
  have nb : Nw wk wk.drew := (Fr.refl _ _).drew
  refine wp_region_held_drew (S := (fun V => Nw wk V)) (by kernel_rfl) (nb) ?_
  intro hS0
  refine wpAnyH_take (i := 0) (oi := ({ dst := some 55, op := Op.fieldAddr 27 (Operand.tmp 1) 0, type := 0, pos := "law.go:47", after := #[], guard := none } : Oper)) (v := .pointer (some ⟨xb, 0, none⟩)) rfl (by kernel_rfl) (by kernel_rfl) (by kernel_rfl) (fun _ _ _ h => h) (Or.inl ⟨by rfl, by intro w hw; go_simp⟩) hS0 ?_
  try simp only [Act.put, List.setIfInBounds_toArray, List.set_cons_zero, List.set_cons_succ]
  refine wpAnyH_take (i := 1) (oi := ({ dst := some 56, op := Op.load 22 (Operand.tmp 55), type := 22, pos := "law.go:47", after := #[{ on := 0, ground := Ground.data }], guard := none } : Oper)) (v := .int .u64 (i : Int)) rfl (by kernel_rfl) (by kernel_rfl) (by kernel_rfl) (fun _ _ _ h => h) (Or.inl ⟨by kernel_rfl, by intro w hw; have hx := (HPC.out w (N3.out.tr (NS.out.tr hw))).1; go_simp⟩) hS0 ?_
  try simp only [Act.put, List.setIfInBounds_toArray, List.set_cons_zero, List.set_cons_succ]
  refine wpAnyH_take (i := 2) (oi := ({ dst := some 57, op := Op.fieldAddr 27 (Operand.tmp 1) 1, type := 0, pos := "law.go:47", after := #[], guard := none } : Oper)) (v := .pointer (some ⟨xb, 1, none⟩)) rfl (by kernel_rfl) (by kernel_rfl) (by kernel_rfl) (fun _ _ _ h => h) (Or.inl ⟨by rfl, by intro w hw; go_simp⟩) hS0 ?_
  try simp only [Act.put, List.setIfInBounds_toArray, List.set_cons_zero, List.set_cons_succ]
  refine wpAnyH_take (i := 3) (oi := ({ dst := some 58, op := Op.load 22 (Operand.tmp 57), type := 22, pos := "law.go:47", after := #[{ on := 2, ground := Ground.data }], guard := none } : Oper)) (v := .int .u64 (n : Int)) rfl (by kernel_rfl) (by kernel_rfl) (by kernel_rfl) (fun _ _ _ h => h) (Or.inl ⟨by kernel_rfl, by intro w hw; have hx := (HPC.out w (N3.out.tr (NS.out.tr hw))).2.1; go_simp⟩) hS0 ?_
  try simp only [Act.put, List.setIfInBounds_toArray, List.set_cons_zero, List.set_cons_succ]
  refine wpAnyH_take (i := 4) (oi := ({ dst := some 59, op := Op.fieldAddr 27 (Operand.tmp 1) 2, type := 0, pos := "law.go:47", after := #[], guard := none } : Oper)) (v := .pointer (some ⟨xb, 2, none⟩)) rfl (by kernel_rfl) (by kernel_rfl) (by kernel_rfl) (fun _ _ _ h => h) (Or.inl ⟨by rfl, by intro w hw; go_simp⟩) hS0 ?_
  try simp only [Act.put, List.setIfInBounds_toArray, List.set_cons_zero, List.set_cons_succ]
  refine wpAnyH_take (i := 5) (oi := ({ dst := some 60, op := Op.load 24 (Operand.tmp 59), type := 24, pos := "law.go:47", after := #[{ on := 4, ground := Ground.data }], guard := none } : Oper)) (v := .agg (hbs A)) rfl (by kernel_rfl) (by kernel_rfl) (by kernel_rfl) (fun _ _ _ h => h) (yields_loadV (by kernel_rfl) (.tmp 59) 24 32 rfl Tryd.isAgg24 Tryd.sizeOf24 xb 2 rfl (hbs A) hAs (fun w hw => (HPC.out w (N3.out.tr (NS.out.tr hw))).2.2.1)) hS0 ?_
  try simp only [Act.put, List.setIfInBounds_toArray, List.set_cons_zero, List.set_cons_succ]
  refine wpAnyH_take (i := 6) (oi := ({ dst := some 61, op := Op.move (Operand.tmp 3), type := 25, pos := "law.go:47", after := #[], guard := none } : Oper)) (v := .slice (some ⟨g, 0, none⟩) ln (ln + 1)) rfl (by kernel_rfl) (by kernel_rfl) (by kernel_rfl) (fun _ _ _ h => h) (Or.inl ⟨by rfl, by intro w hw; go_simp⟩) hS0 ?_
  try simp only [Act.put, List.setIfInBounds_toArray, List.set_cons_zero, List.set_cons_succ]
  refine wpAnyH_take (i := 7) (oi := ({ dst := some 62, op := Op.fieldAddr 27 (Operand.tmp 1) 3, type := 0, pos := "law.go:47", after := #[], guard := none } : Oper)) (v := .pointer (some ⟨xb, 34, none⟩)) rfl (by kernel_rfl) (by kernel_rfl) (by kernel_rfl) (fun _ _ _ h => h) (Or.inl ⟨by rfl, by intro w hw; go_simp⟩) hS0 ?_
  try simp only [Act.put, List.setIfInBounds_toArray, List.set_cons_zero, List.set_cons_succ]
  refine wpAnyH_take (i := 8) (oi := ({ dst := some 63, op := Op.load 24 (Operand.tmp 62), type := 24, pos := "law.go:47", after := #[{ on := 7, ground := Ground.data }], guard := none } : Oper)) (v := .agg (hbs C)) rfl (by kernel_rfl) (by kernel_rfl) (by kernel_rfl) (fun _ _ _ h => h) (yields_loadV (by kernel_rfl) (.tmp 62) 24 32 rfl Tryd.isAgg24 Tryd.sizeOf24 xb 34 rfl (hbs C) hCs (fun w hw => (HPC.out w (N3.out.tr (NS.out.tr hw))).2.2.2.1)) hS0 ?_
  try simp only [Act.put, List.setIfInBounds_toArray, List.set_cons_zero, List.set_cons_succ]
  refine wpAnyH_take (i := 10) (oi := ({ dst := some 65, op := Op.fieldAddr 27 (Operand.tmp 1) 0, type := 0, pos := "law.go:47", after := #[], guard := none } : Oper)) (v := .pointer (some ⟨xb, 0, none⟩)) rfl (by kernel_rfl) (by kernel_rfl) (by kernel_rfl) (fun _ _ _ h => h) (Or.inl ⟨by rfl, by intro w hw; go_simp⟩) hS0 ?_
  try simp only [Act.put, List.setIfInBounds_toArray, List.set_cons_zero, List.set_cons_succ]
  refine wpAnyH_take (i := 11) (oi := ({ dst := some 66, op := Op.load 22 (Operand.tmp 65), type := 22, pos := "law.go:47", after := #[{ on := 10, ground := Ground.data }], guard := none } : Oper)) (v := .int .u64 (i : Int)) rfl (by kernel_rfl) (by kernel_rfl) (by kernel_rfl) (fun _ _ _ h => h) (Or.inl ⟨by kernel_rfl, by intro w hw; have hx := (HPC.out w (N3.out.tr (NS.out.tr hw))).1; go_simp⟩) hS0 ?_
  try simp only [Act.put, List.setIfInBounds_toArray, List.set_cons_zero, List.set_cons_succ]
  refine wpAnyH_take (i := 12) (oi := ({ dst := some 67, op := Op.fieldAddr 27 (Operand.tmp 1) 1, type := 0, pos := "law.go:47", after := #[], guard := none } : Oper)) (v := .pointer (some ⟨xb, 1, none⟩)) rfl (by kernel_rfl) (by kernel_rfl) (by kernel_rfl) (fun _ _ _ h => h) (Or.inl ⟨by rfl, by intro w hw; go_simp⟩) hS0 ?_
  try simp only [Act.put, List.setIfInBounds_toArray, List.set_cons_zero, List.set_cons_succ]
  refine wpAnyH_take (i := 13) (oi := ({ dst := some 68, op := Op.load 22 (Operand.tmp 67), type := 22, pos := "law.go:47", after := #[{ on := 12, ground := Ground.data }], guard := none } : Oper)) (v := .int .u64 (n : Int)) rfl (by kernel_rfl) (by kernel_rfl) (by kernel_rfl) (fun _ _ _ h => h) (Or.inl ⟨by kernel_rfl, by intro w hw; have hx := (HPC.out w (N3.out.tr (NS.out.tr hw))).2.1; go_simp⟩) hS0 ?_
  try simp only [Act.put, List.setIfInBounds_toArray, List.set_cons_zero, List.set_cons_succ]
  refine wpAnyH_take (i := 14) (oi := ({ dst := some 69, op := Op.fieldAddr 27 (Operand.tmp 1) 2, type := 0, pos := "law.go:47", after := #[], guard := none } : Oper)) (v := .pointer (some ⟨xb, 2, none⟩)) rfl (by kernel_rfl) (by kernel_rfl) (by kernel_rfl) (fun _ _ _ h => h) (Or.inl ⟨by rfl, by intro w hw; go_simp⟩) hS0 ?_
  try simp only [Act.put, List.setIfInBounds_toArray, List.set_cons_zero, List.set_cons_succ]
  refine wpAnyH_take (i := 15) (oi := ({ dst := some 70, op := Op.load 24 (Operand.tmp 69), type := 24, pos := "law.go:47", after := #[{ on := 14, ground := Ground.data }], guard := none } : Oper)) (v := .agg (hbs A)) rfl (by kernel_rfl) (by kernel_rfl) (by kernel_rfl) (fun _ _ _ h => h) (yields_loadV (by kernel_rfl) (.tmp 69) 24 32 rfl Tryd.isAgg24 Tryd.sizeOf24 xb 2 rfl (hbs A) hAs (fun w hw => (HPC.out w (N3.out.tr (NS.out.tr hw))).2.2.1)) hS0 ?_
  try simp only [Act.put, List.setIfInBounds_toArray, List.set_cons_zero, List.set_cons_succ]
  refine wpAnyH_take (i := 16) (oi := ({ dst := some 71, op := Op.fieldAddr 27 (Operand.tmp 1) 4, type := 0, pos := "law.go:47", after := #[], guard := none } : Oper)) (v := .pointer (some ⟨xb, 66, none⟩)) rfl (by kernel_rfl) (by kernel_rfl) (by kernel_rfl) (fun _ _ _ h => h) (Or.inl ⟨by rfl, by intro w hw; go_simp⟩) hS0 ?_
  try simp only [Act.put, List.setIfInBounds_toArray, List.set_cons_zero, List.set_cons_succ]
  refine wpAnyH_take (i := 17) (oi := ({ dst := some 72, op := Op.load 25 (Operand.tmp 71), type := 25, pos := "law.go:47", after := #[{ on := 16, ground := Ground.data }], guard := none } : Oper)) (v := .slice ad ln cap) rfl (by kernel_rfl) (by kernel_rfl) (by kernel_rfl) (fun _ _ _ h => h) (Or.inl ⟨by kernel_rfl, by intro w hw; have hx := (HPC.out w (N3.out.tr (NS.out.tr hw))).2.2.2.2; go_simp⟩) hS0 ?_
  try simp only [Act.put, List.setIfInBounds_toArray, List.set_cons_zero, List.set_cons_succ]
  refine wpAnyH_take (i := 18) (oi := ({ dst := some 73, op := Op.fieldAddr 27 (Operand.tmp 1) 3, type := 0, pos := "law.go:47", after := #[], guard := none } : Oper)) (v := .pointer (some ⟨xb, 34, none⟩)) rfl (by kernel_rfl) (by kernel_rfl) (by kernel_rfl) (fun _ _ _ h => h) (Or.inl ⟨by rfl, by intro w hw; go_simp⟩) hS0 ?_
  try simp only [Act.put, List.setIfInBounds_toArray, List.set_cons_zero, List.set_cons_succ]
  refine wpAnyH_take (i := 19) (oi := ({ dst := some 74, op := Op.load 24 (Operand.tmp 73), type := 24, pos := "law.go:47", after := #[{ on := 18, ground := Ground.data }], guard := none } : Oper)) (v := .agg (hbs C)) rfl (by kernel_rfl) (by kernel_rfl) (by kernel_rfl) (fun _ _ _ h => h) (yields_loadV (by kernel_rfl) (.tmp 73) 24 32 rfl Tryd.isAgg24 Tryd.sizeOf24 xb 34 rfl (hbs C) hCs (fun w hw => (HPC.out w (N3.out.tr (NS.out.tr hw))).2.2.2.1)) hS0 ?_
  try simp only [Act.put, List.setIfInBounds_toArray, List.set_cons_zero, List.set_cons_succ]
  refine wpAnyH_ready (rs := [9]) (by kernel_rfl) (by simp) ?_
  refine (AllReadyH.cons (o := ({ dst := some 64, op := Op.call { callee := Callee.value (Operand.func 14), args := #[Operand.tmp 56, Operand.tmp 58, Operand.tmp 60, Operand.tmp 61, Operand.tmp 63], argTypes := #[22, 22, 24, 25, 24] }, type := 31, pos := "law.go:47", after := #[{ on := 1, ground := Ground.data }, { on := 3, ground := Ground.data }, { on := 5, ground := Ground.data }, { on := 6, ground := Ground.data }, { on := 8, ground := Ground.data }], guard := none } : Oper)) rfl (fun K' hK => ?_) AllReadyH.nil)
  go_simp
  go_wp2_with (go_at_call 14; refine (QI1.out _ (NS.out.tr nb)).mono ?_; rintro ex w101 ⟨rfl, nw101⟩)
  have nb := nb.tr nw101
  refine hK.out _ _ (nb) (fun hS0 => ?_)
  try simp only [Act.put, List.setIfInBounds_toArray, List.set_cons_zero, List.set_cons_succ]
  refine wpAnyH_ready (rs := [20]) (by kernel_rfl) (by simp) ?_
  refine (AllReadyH.cons (o := ({ dst := some 75, op := Op.call { callee := Callee.value (Operand.func 15), args := #[Operand.tmp 66, Operand.tmp 68, Operand.tmp 70, Operand.tmp 72, Operand.tmp 74], argTypes := #[22, 22, 24, 25, 24] }, type := 35, pos := "law.go:47", after := #[{ on := 11, ground := Ground.data }, { on := 13, ground := Ground.data }, { on := 15, ground := Ground.data }, { on := 17, ground := Ground.data }, { on := 19, ground := Ground.data }, { on := 9, ground := Ground.chain }], guard := none } : Oper)) rfl (fun K' hK => ?_) AllReadyH.nil)
  go_simp
  go_wp2_with (go_at_call 15; refine (QJ.out _ (NS.out.tr nb)).mono ?_; rintro ex w102 ⟨rfl, nw102⟩)
  have nb := nb.tr nw102
  refine hK.out _ _ (nb) (fun hS0 => ?_)
  try simp only [Act.put, List.setIfInBounds_toArray, List.set_cons_zero, List.set_cons_succ]
  refine wpAnyH_ready (rs := [21]) (by kernel_rfl) (by simp) ?_
  refine (AllReadyH.cons (o := ({ dst := some 76, op := Op.call { callee := Callee.value (Operand.func 12), args := #[Operand.tmp 64, Operand.tmp 75], argTypes := #[31, 35] }, type := 4, pos := "law.go:47", after := #[{ on := 9, ground := Ground.data }, { on := 20, ground := Ground.data }, { on := 20, ground := Ground.chain }], guard := none } : Oper)) rfl (fun K' hK => ?_) AllReadyH.nil)
  go_simp
  go_wp2_with (go_at_call 12; refine (QSI.out _ (NS.out.tr nb)).mono ?_; rintro ex w103 ⟨rfl, nw103⟩)
  have nb := nb.tr nw103
  refine hK.out _ _ (nb) (fun hS0 => ?_)
  try simp only [Act.put, List.setIfInBounds_toArray, List.set_cons_zero, List.set_cons_succ]
  refine wpAnyH_take (i := 22) (oi := ({ dst := some 77, op := Op.unOp UnOp.not 4 (Operand.tmp 76), type := 4, pos := "law.go:47", after := #[{ on := 21, ground := Ground.data }], guard := none } : Oper)) (v := .bool false) rfl (by kernel_rfl) (by kernel_rfl) (by kernel_rfl) (fun _ _ _ h => h) (Or.inl ⟨by rfl, by intro w hw; go_simp⟩) hS0 ?_
  try simp only [Act.put, List.setIfInBounds_toArray, List.set_cons_zero, List.set_cons_succ]
  refine wpAnyH_done (by kernel_rfl) ?_ _
  obtain ⟨wm, hwm⟩ : ∃ x, x = w103 := ⟨_, rfl⟩
  rw [← hwm] at nb ⊢
  have NK9 : Hid (Nw w8 wm) := NK8.out.tr nb
  have NSm : Hid (Nw w3 wm) := NS.out.tr nb
  clear hwm nb NS NK8
  have NS := NSm
  clear NSm
  go_upto_region 10 with fail
  have nb : Nw wm wm.drew := (Fr.refl _ _).drew
  refine wp_region_held_drew (S := (fun V => Nw wm V)) (by kernel_rfl) (nb) ?_
  intro hS0
  refine wpAnyH_take (i := 0) (oi := ({ dst := some 78, op := Op.fieldAddr 27 (Operand.tmp 1) 0, type := 0, pos := "law.go:50", after := #[], guard := none } : Oper)) (v := .pointer (some ⟨xb, 0, none⟩)) rfl (by kernel_rfl) (by kernel_rfl) (by kernel_rfl) (fun _ _ _ h => h) (Or.inl ⟨by rfl, by intro w hw; go_simp⟩) hS0 ?_
  try simp only [Act.put, List.setIfInBounds_toArray, List.set_cons_zero, List.set_cons_succ]
  refine wpAnyH_take (i := 1) (oi := ({ dst := some 79, op := Op.load 22 (Operand.tmp 78), type := 22, pos := "law.go:50", after := #[{ on := 0, ground := Ground.data }], guard := none } : Oper)) (v := .int .u64 (i : Int)) rfl (by kernel_rfl) (by kernel_rfl) (by kernel_rfl) (fun _ _ _ h => h) (Or.inl ⟨by kernel_rfl, by intro w hw; have hx := (HPC.out w (N3.out.tr (NS.out.tr hw))).1; go_simp⟩) hS0 ?_
  try simp only [Act.put, List.setIfInBounds_toArray, List.set_cons_zero, List.set_cons_succ]
  refine wpAnyH_take (i := 2) (oi := ({ dst := some 80, op := Op.fieldAddr 27 (Operand.tmp 1) 1, type := 0, pos := "law.go:50", after := #[], guard := none } : Oper)) (v := .pointer (some ⟨xb, 1, none⟩)) rfl (by kernel_rfl) (by kernel_rfl) (by kernel_rfl) (fun _ _ _ h => h) (Or.inl ⟨by rfl, by intro w hw; go_simp⟩) hS0 ?_
  try simp only [Act.put, List.setIfInBounds_toArray, List.set_cons_zero, List.set_cons_succ]
  refine wpAnyH_take (i := 3) (oi := ({ dst := some 81, op := Op.load 22 (Operand.tmp 80), type := 22, pos := "law.go:50", after := #[{ on := 2, ground := Ground.data }], guard := none } : Oper)) (v := .int .u64 (n : Int)) rfl (by kernel_rfl) (by kernel_rfl) (by kernel_rfl) (fun _ _ _ h => h) (Or.inl ⟨by kernel_rfl, by intro w hw; have hx := (HPC.out w (N3.out.tr (NS.out.tr hw))).2.1; go_simp⟩) hS0 ?_
  try simp only [Act.put, List.setIfInBounds_toArray, List.set_cons_zero, List.set_cons_succ]
  refine wpAnyH_take (i := 4) (oi := ({ dst := some 82, op := Op.fieldAddr 27 (Operand.tmp 1) 2, type := 0, pos := "law.go:50", after := #[], guard := none } : Oper)) (v := .pointer (some ⟨xb, 2, none⟩)) rfl (by kernel_rfl) (by kernel_rfl) (by kernel_rfl) (fun _ _ _ h => h) (Or.inl ⟨by rfl, by intro w hw; go_simp⟩) hS0 ?_
  try simp only [Act.put, List.setIfInBounds_toArray, List.set_cons_zero, List.set_cons_succ]
  refine wpAnyH_take (i := 5) (oi := ({ dst := some 83, op := Op.load 24 (Operand.tmp 82), type := 24, pos := "law.go:50", after := #[{ on := 4, ground := Ground.data }], guard := none } : Oper)) (v := .agg (hbs A)) rfl (by kernel_rfl) (by kernel_rfl) (by kernel_rfl) (fun _ _ _ h => h) (yields_loadV (by kernel_rfl) (.tmp 82) 24 32 rfl Tryd.isAgg24 Tryd.sizeOf24 xb 2 rfl (hbs A) hAs (fun w hw => (HPC.out w (N3.out.tr (NS.out.tr hw))).2.2.1)) hS0 ?_
  try simp only [Act.put, List.setIfInBounds_toArray, List.set_cons_zero, List.set_cons_succ]
  refine wpAnyH_take (i := 6) (oi := ({ dst := some 84, op := Op.move (Operand.tmp 3), type := 25, pos := "law.go:50", after := #[], guard := none } : Oper)) (v := .slice (some ⟨g, 0, none⟩) ln (ln + 1)) rfl (by kernel_rfl) (by kernel_rfl) (by kernel_rfl) (fun _ _ _ h => h) (Or.inl ⟨by rfl, by intro w hw; go_simp⟩) hS0 ?_
  try simp only [Act.put, List.setIfInBounds_toArray, List.set_cons_zero, List.set_cons_succ]
  refine wpAnyH_take (i := 7) (oi := ({ dst := some 85, op := Op.load 24 (Operand.tmp 6), type := 24, pos := "law.go:50", after := #[], guard := none } : Oper)) (v := .agg (hbs z)) rfl (by kernel_rfl) (by kernel_rfl) (by kernel_rfl) (fun _ _ _ h => h) (yields_loadV (by kernel_rfl) (.tmp 6) 24 32 rfl Tryd.isAgg24 Tryd.sizeOf24 yb 0 rfl (hbs z) hzs (fun w hw => HCY.out w (NK9.out.tr hw))) hS0 ?_
  try simp only [Act.put, List.setIfInBounds_toArray, List.set_cons_zero, List.set_cons_succ]
  refine wpAnyH_take (i := 9) (oi := ({ dst := some 87, op := Op.load 35 (Operand.tmp 7), type := 35, pos := "law.go:50", after := #[], guard := none } : Oper)) (v := .agg df) rfl (by kernel_rfl) (by kernel_rfl) (by kernel_rfl) (fun _ _ _ h => h) (yields_loadV (by kernel_rfl) (.tmp 7) 35 2 rfl Tryd.isAgg35 Tryd.sizeOf35 fb 0 rfl df hdfs (fun w hw => HCF.out w (NK9.out.tr hw))) hS0 ?_
  try simp only [Act.put, List.setIfInBounds_toArray, List.set_cons_zero, List.set_cons_succ]
  refine wpAnyH_ready (rs := [8]) (by kernel_rfl) (by simp) ?_
  refine (AllReadyH.cons (o := ({ dst := some 86, op := Op.call { callee := Callee.value (Operand.func 14), args := #[Operand.tmp 79, Operand.tmp 81, Operand.tmp 83, Operand.tmp 84, Operand.tmp 85], argTypes := #[22, 22, 24, 25, 24] }, type := 31, pos := "law.go:50", after := #[{ on := 1, ground := Ground.data }, { on := 3, ground := Ground.data }, { on := 5, ground := Ground.data }, { on := 6, ground := Ground.data }, { on := 7, ground := Ground.data }], guard := none } : Oper)) rfl (fun K' hK => ?_) AllReadyH.nil)
  go_simp
  go_wp2_with (go_at_call 14; refine (QI2.out _ (NS.out.tr nb)).mono ?_; rintro ex w101 ⟨rfl, nw101⟩)
  have nb := nb.tr nw101
  refine hK.out _ _ (nb) (fun hS0 => ?_)
  try simp only [Act.put, List.setIfInBounds_toArray, List.set_cons_zero, List.set_cons_succ]
  refine wpAnyH_ready (rs := [10]) (by kernel_rfl) (by simp) ?_
  refine (AllReadyH.cons (o := ({ dst := some 88, op := Op.call { callee := Callee.value (Operand.func 12), args := #[Operand.tmp 86, Operand.tmp 87], argTypes := #[31, 35] }, type := 4, pos := "law.go:50", after := #[{ on := 8, ground := Ground.data }, { on := 9, ground := Ground.data }, { on := 8, ground := Ground.chain }], guard := none } : Oper)) rfl (fun K' hK => ?_) AllReadyH.nil)
  go_simp
  go_wp2_with (go_at_call 12; refine (QSR.out _ (NS.out.tr nb)).mono ?_; rintro ex w102 ⟨rfl, nw102⟩)
  have nb := nb.tr nw102
  refine hK.out _ _ (nb) (fun hS0 => ?_)
  try simp only [Act.put, List.setIfInBounds_toArray, List.set_cons_zero, List.set_cons_succ]
  refine wpAnyH_take (i := 11) (oi := ({ dst := some 89, op := Op.move (Operand.tmp 88), type := 4, pos := "law.go:50", after := #[{ on := 10, ground := Ground.data }, { on := 10, ground := Ground.chain }], guard := none } : Oper)) (v := .bool true) rfl (by kernel_rfl) (by kernel_rfl) (by kernel_rfl) (fun _ _ _ h => h) (Or.inl ⟨by rfl, by intro w hw; go_simp⟩) hS0 ?_
  try simp only [Act.put, List.setIfInBounds_toArray, List.set_cons_zero, List.set_cons_succ]
  refine wpAnyH_take (i := 12) (oi := ({ dst := some 90, op := Op.move (Operand.tmp 3), type := 25, pos := "law.go:50", after := #[{ on := 11, ground := Ground.guard }], guard := some (11, true) } : Oper)) (v := .slice (some ⟨g, 0, none⟩) ln (ln + 1)) rfl (by kernel_rfl) (by kernel_rfl) (by kernel_rfl) (fun _ _ _ h => h) (Or.inl ⟨by kernel_rfl, by intro w hw; go_simp⟩) hS0 ?_
  try simp only [Act.put, List.setIfInBounds_toArray, List.set_cons_zero, List.set_cons_succ]
  refine wpAnyH_take (i := 13) (oi := ({ dst := some 91, op := Op.fieldAddr 27 (Operand.tmp 1) 4, type := 0, pos := "law.go:50", after := #[{ on := 11, ground := Ground.guard }], guard := some (11, true) } : Oper)) (v := .pointer (some ⟨xb, 66, none⟩)) rfl (by kernel_rfl) (by kernel_rfl) (by kernel_rfl) (fun _ _ _ h => h) (Or.inl ⟨by kernel_rfl, by intro w hw; go_simp⟩) hS0 ?_
  try simp only [Act.put, List.setIfInBounds_toArray, List.set_cons_zero, List.set_cons_succ]
  refine wpAnyH_take (i := 14) (oi := ({ dst := some 92, op := Op.load 25 (Operand.tmp 91), type := 25, pos := "law.go:50", after := #[{ on := 13, ground := Ground.data }, { on := 11, ground := Ground.guard }], guard := some (11, true) } : Oper)) (v := .slice ad ln cap) rfl (by kernel_rfl) (by kernel_rfl) (by kernel_rfl) (fun _ _ _ h => h) (Or.inl ⟨by kernel_rfl, by intro w hw; have hx := (HPC.out w (N3.out.tr (NS.out.tr hw))).2.2.2.2; go_simp⟩) hS0 ?_
  try simp only [Act.put, List.setIfInBounds_toArray, List.set_cons_zero, List.set_cons_succ]
  refine wpAnyH_ready (rs := [15]) (by kernel_rfl) (by simp) ?_
  refine (AllReadyH.cons (o := ({ dst := some 93, op := Op.call { callee := Callee.value (Operand.func 13), args := #[Operand.tmp 90, Operand.tmp 92], argTypes := #[25, 25] }, type := 4, pos := "law.go:50", after := #[{ on := 12, ground := Ground.data }, { on := 14, ground := Ground.data }, { on := 11, ground := Ground.chain }, { on := 11, ground := Ground.guard }], guard := some (11, true) } : Oper)) rfl (fun K' hK => ?_) AllReadyH.nil)
  go_simp
  go_wp2_with (go_at_call 13; refine (QLH.out _ (NS.out.tr nb)).mono ?_; rintro ex w103 ⟨rfl, nw103⟩)
  have nb := nb.tr nw103
  refine hK.out _ _ (nb) (fun hS0 => ?_)
  try simp only [Act.put, List.setIfInBounds_toArray, List.set_cons_zero, List.set_cons_succ]
  refine wpAnyH_take (i := 16) (oi := ({ dst := some 94, op := Op.pick (Operand.tmp 89) (Operand.tmp 93) (Operand.const (Value.bool false)), type := 4, pos := "law.go:50", after := #[{ on := 11, ground := Ground.data }, { on := 15, ground := Ground.data }], guard := none } : Oper)) (v := .bool true) rfl (by kernel_rfl) (by kernel_rfl) (by kernel_rfl) (fun _ _ _ h => h) (Or.inl ⟨by rfl, by intro w hw; go_simp⟩) hS0 ?_
  try simp only [Act.put, List.setIfInBounds_toArray, List.set_cons_zero, List.set_cons_succ]
  refine wpAnyH_take (i := 17) (oi := ({ dst := some 95, op := Op.move (Operand.tmp 94), type := 4, pos := "law.go:50", after := #[{ on := 16, ground := Ground.data }, { on := 15, ground := Ground.chain }], guard := none } : Oper)) (v := .bool true) rfl (by kernel_rfl) (by kernel_rfl) (by kernel_rfl) (fun _ _ _ h => h) (Or.inl ⟨by rfl, by intro w hw; go_simp⟩) hS0 ?_
  try simp only [Act.put, List.setIfInBounds_toArray, List.set_cons_zero, List.set_cons_succ]
  refine wpAnyH_ready (rs := [18]) (by kernel_rfl) (by simp) ?_
  refine (AllReadyH.cons (o := ({ dst := some 96, op := Op.call { callee := Callee.value (Operand.func 16), args := #[], argTypes := #[] }, type := 4, pos := "law.go:50", after := #[{ on := 17, ground := Ground.chain }, { on := 17, ground := Ground.guard }], guard := some (17, true) } : Oper)) rfl (fun K' hK => ?_) AllReadyH.nil)
  go_simp
  go_wp2_with (go_at_call 16; refine (QAL.out _ (NS.out.tr nb)).mono ?_; rintro ex w104 ⟨rfl, nw104⟩)
  have nb := nb.tr nw104
  refine hK.out _ _ (nb) (fun hS0 => ?_)
  try simp only [Act.put, List.setIfInBounds_toArray, List.set_cons_zero, List.set_cons_succ]
  refine wpAnyH_take (i := 19) (oi := ({ dst := some 97, op := Op.pick (Operand.tmp 95) (Operand.tmp 96) (Operand.const (Value.bool false)), type := 4, pos := "law.go:50", after := #[{ on := 17, ground := Ground.data }, { on := 18, ground := Ground.data }], guard := none } : Oper)) (v := .bool true) rfl (by kernel_rfl) (by kernel_rfl) (by kernel_rfl) (fun _ _ _ h => h) (Or.inl ⟨by rfl, by intro w hw; go_simp⟩) hS0 ?_
  try simp only [Act.put, List.setIfInBounds_toArray, List.set_cons_zero, List.set_cons_succ]
  refine wpAnyH_ready (rs := [20]) (by kernel_rfl) (by simp) ?_
  refine (AllReadyH.cons (o := ({ dst := some 2, op := Op.assign (Operand.tmp 97), type := 4, pos := "law.go:50", after := #[{ on := 19, ground := Ground.data }, { on := 18, ground := Ground.chain }, { on := 0, ground := Ground.phase }, { on := 1, ground := Ground.phase }, { on := 2, ground := Ground.phase }, { on := 3, ground := Ground.phase }, { on := 4, ground := Ground.phase }, { on := 5, ground := Ground.phase }, { on := 6, ground := Ground.phase }, { on := 7, ground := Ground.phase }, { on := 8, ground := Ground.phase }, { on := 9, ground := Ground.phase }, { on := 10, ground := Ground.phase }, { on := 11, ground := Ground.phase }, { on := 12, ground := Ground.phase }, { on := 13, ground := Ground.phase }, { on := 14, ground := Ground.phase }, { on := 15, ground := Ground.phase }, { on := 16, ground := Ground.phase }, { on := 17, ground := Ground.phase }, { on := 18, ground := Ground.phase }, { on := 19, ground := Ground.phase }], guard := none } : Oper)) rfl (fun K' hK => ?_) AllReadyH.nil)
  go_simp
  refine hK.out _ _ (nb) (fun hS0 => ?_)
  try simp only [Act.put, List.setIfInBounds_toArray, List.set_cons_zero, List.set_cons_succ]
  refine wpAnyH_done (by kernel_rfl) ?_ _
  go_wp2_with fail
  go_ret
  exact ⟨rfl, NW3.out.tr (NS.out.tr nb)⟩
end Go.Proofs.YtaeocbdphfkflaaDoor
