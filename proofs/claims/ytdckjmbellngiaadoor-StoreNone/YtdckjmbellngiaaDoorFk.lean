/- StoreNone. -/
import Derived.Test.YtdckjmbellngiaaDoorFj
namespace Go.Proofs.YtdckjmbellngiaaDoor
open Go.RowKit Go.Maps Go.Sort Go.Proofs
set_option linter.unusedVariables false
set_option linter.unusedSimpArgs false
set_option maxRecDepth 100000 in
set_option maxHeartbeats 4000000 in
theorem none12_any {w : World} {B : Nat} {a : Nat → Addr} (hS : Sent B w a) (k : Value) (s t : ByteArray) (x y : Value) :
    Calls Tryd.prog 3 #[.agg #[k, .string s, .string t, x, y]] w fun e w' => e = .returned (.bool true) ∧ Nw w w' := by
  have HN : Hid (NoS (w.alloc (.cells #[k, .string s, .string t, x, y] 26)) (.pointer none)) := .inl rfl
  go_enter Tryd.func3, Tryd.ntmps3
  go_wp2_with fail
  obtain ⟨w1, hw1⟩ : ∃ w1, w1 = ((w.alloc (.cells #[k, .string s, .string t, x, y] 26)).alloc (stc (.map none) (.slice none 0 0) 0 0 0 false)) := ⟨_, rfl⟩
  have N1 : Hid (Nw w w1) := by show Nw _ _; rw [hw1]; exact ((Fr.refl _ w).alloc _).alloc _
  have H0 : Hid (NoS w1 (.pointer none)) := .inl rfl
  have H1 : Hid (NoS w1 (.pointer (some ⟨w.heap.size + 1, 0, none⟩))) := .inr ⟨_, _, _, _, _, _, rfl, by rw [hw1]; exact heap_next _ _ _⟩
  have hc : Hid (w1.heap[w.heap.size]? = some (.cells #[k, .string s, .string t, x, y] 26)) := by show _ = _; rw [hw1]; exact ((nwA _ _).block _ (by simp) (fun f => f)).trans (heap_new _ _)
  have HS : Hid (Sent B w1 a) := hS.fr N1.out (fun _ _ f => f)
  rw [← hw1]
  clear hw1 hS HN
  have d1 : w1.cell? ⟨w.heap.size, 1, none⟩ = some (.string s) := (cell_of hc.out 1).trans rfl
  have d2 : w1.cell? ⟨w.heap.size, 2, none⟩ = some (.string t) := (cell_of hc.out 2).trans rfl
  have d3 : w1.cell? ⟨w.heap.size, 3, none⟩ = some x := (cell_of hc.out 3).trans rfl
  have d4 : w1.cell? ⟨w.heap.size, 4, none⟩ = some y := (cell_of hc.out 4).trans rfl
  clear hc
  refine (sput_no H0.out s t HS.out).mono ?_
  rintro e W ⟨rfl, rfl⟩
  go_wp2_with fail
  refine (is_sen HS.out 0 (by decide) (by decide)).mono ?_
  rintro e w2 ⟨rfl, n2⟩
  have N2 : Hid (Nw w w2) := N1.out.tr n2
  have e1 := n2.cellOf d1
  have e2 := n2.cellOf d2
  have e3 := n2.cellOf d3
  have e4 := n2.cellOf d4
  have G0 : Hid (NoS w2 (.pointer none)) := .inl rfl
  have G1 : Hid (NoS w2 (.pointer (some ⟨w.heap.size + 1, 0, none⟩))) := H1.out.nw n2
  have GS : Hid (Sent B w2 a) := HS.out.fr n2 (fun _ _ f => f)
  clear n2 d1 d2 d3 d4 H0 H1 HS N1
  go_wp2_with fail
  refine (sput_no G1.out s t GS.out).mono ?_
  rintro e W ⟨rfl, rfl⟩
  go_wp2_with fail
  refine (is_sen GS.out 0 (by decide) (by decide)).mono ?_
  rintro e w3 ⟨rfl, n3⟩
  have N3 : Hid (Nw w w3) := N2.out.tr n3
  have d1 := n3.cellOf e1
  have d3 := n3.cellOf e3
  have d4 := n3.cellOf e4
  have H0 : Hid (NoS w3 (.pointer none)) := .inl rfl
  have H1 : Hid (NoS w3 (.pointer (some ⟨w.heap.size + 1, 0, none⟩))) := G1.out.nw n3
  have HS : Hid (Sent B w3 a) := GS.out.fr n3 (fun _ _ f => f)
  clear n3 e1 e2 e3 e4 G0 G1 GS N2
  go_wp2_with fail
  refine (srestart_no H0.out x y HS.out).mono ?_
  rintro e w4 ⟨rfl, n4⟩
  have N4 : Hid (Nw w w4) := N3.out.tr n4
  have e1 := n4.cellOf d1
  have e3 := n4.cellOf d3
  have e4 := n4.cellOf d4
  have G0 : Hid (NoS w4 (.pointer none)) := .inl rfl
  have G1 : Hid (NoS w4 (.pointer (some ⟨w.heap.size + 1, 0, none⟩))) := H1.out.nw n4
  have GS : Hid (Sent B w4 a) := HS.out.fr n4 (fun _ _ f => f)
  clear n4 d1 d3 d4 H0 H1 HS N3
  go_wp2_with fail
  refine (is_sen GS.out 0 (by decide) (by decide)).mono ?_
  rintro e w5 ⟨rfl, n5⟩
  have N5 : Hid (Nw w w5) := N4.out.tr n5
  have d1 := n5.cellOf e1
  have d3 := n5.cellOf e3
  have d4 := n5.cellOf e4
  have H1 : Hid (NoS w5 (.pointer (some ⟨w.heap.size + 1, 0, none⟩))) := G1.out.nw n5
  have HS : Hid (Sent B w5 a) := GS.out.fr n5 (fun _ _ f => f)
  clear n5 e1 e3 e4 G0 G1 GS N4
  go_wp2_with fail
  refine (srestart_no H1.out x y HS.out).mono ?_
  rintro e w6 ⟨rfl, n6⟩
  have N6 : Hid (Nw w w6) := N5.out.tr n6
  have e1 := n6.cellOf d1
  have G1 : Hid (NoS w6 (.pointer (some ⟨w.heap.size + 1, 0, none⟩))) := H1.out.nw n6
  have GS : Hid (Sent B w6 a) := HS.out.fr n6 (fun _ _ f => f)
  clear n6 d1 d3 d4 H1 HS N5
  go_wp2_with fail
  refine (is_sen GS.out 0 (by decide) (by decide)).mono ?_
  rintro e w7 ⟨rfl, n7⟩
  have N7 : Hid (Nw w w7) := N6.out.tr n7
  have d1 := n7.cellOf e1
  have H0 : Hid (NoS w7 (.pointer none)) := .inl rfl
  have H1 : Hid (NoS w7 (.pointer (some ⟨w.heap.size + 1, 0, none⟩))) := G1.out.nw n7
  have HS : Hid (Sent B w7 a) := GS.out.fr n7 (fun _ _ f => f)
  clear n7 e1 G1 GS N6
  go_wp2_with fail
  refine (sget_no H0.out s HS.out).mono ?_
  rintro e W ⟨rfl, rfl⟩
  go_wp2_with fail
  refine (sget_no H1.out s HS.out).mono ?_
  rintro e W ⟨rfl, rfl⟩
  go_wp2_with fail
  refine (scounts_no H0.out).mono ?_
  rintro e W ⟨rfl, rfl⟩
  go_wp2_with fail
  refine (scounts_no H1.out).mono ?_
  rintro e W ⟨rfl, rfl⟩
  go_wp2_with fail
  refine (is_sen HS.out 0 (by decide) (by decide)).mono ?_
  rintro e w8 ⟨rfl, n8⟩
  have N8 : Hid (Nw w w8) := N7.out.tr n8
  have G1 : Hid (NoS w8 (.pointer (some ⟨w.heap.size + 1, 0, none⟩))) := H1.out.nw n8
  have GS : Hid (Sent B w8 a) := HS.out.fr n8 (fun _ _ f => f)
  clear n8 d1 H0 H1 HS N7
  go_wp2_with fail
  refine (is_sen GS.out 0 (by decide) (by decide)).mono ?_
  rintro e w9 ⟨rfl, n9⟩
  have N9 : Hid (Nw w w9) := N8.out.tr n9
  have H0 : Hid (NoS w9 (.pointer none)) := .inl rfl
  have H1 : Hid (NoS w9 (.pointer (some ⟨w.heap.size + 1, 0, none⟩))) := G1.out.nw n9
  have HS : Hid (Sent B w9 a) := GS.out.fr n9 (fun _ _ f => f)
  clear n9 G1 GS N8
  go_wp2_with fail
  refine (sdead_no H0.out).mono ?_
  rintro e W ⟨rfl, rfl⟩
  go_wp2_with fail
  refine (sdead_no H1.out).mono ?_
  rintro e W ⟨rfl, rfl⟩
  go_wp2_with fail
  refine (snames_no H0.out).mono ?_
  rintro e W ⟨rfl, rfl⟩
  go_wp2_with fail
  refine (snames_no H1.out).mono ?_
  rintro e W ⟨rfl, rfl⟩
  go_wp2_with fail
  refine (alive_any HS.out).mono ?_
  rintro e w10 ⟨rfl, n10⟩
  have N10 : Hid (Nw w w10) := N9.out.tr n10
  clear n10 H0 H1 HS N9
  go_wp2
  go_ret
  exact ⟨rfl, N10.out⟩
end Go.Proofs.YtdckjmbellngiaaDoor
