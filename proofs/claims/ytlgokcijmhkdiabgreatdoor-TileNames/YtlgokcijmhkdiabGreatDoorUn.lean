/- TileNames: the walk. -/
import Derived.Test.YtlgokcijmhkdiabGreatDoorUl
import Derived.Test.YtlgokcijmhkdiabGreatDoorTh
namespace Go.Proofs.YtlgokcijmhkdiabGreatDoor
open Go.RowKit
set_option linter.unusedVariables false
set_option linter.unusedSimpArgs false
theorem bads_at : ∀ k, k < 8 → ∃ s, bads[k]? = some s := fun k hk => ⟨_, List.getElem?_eq_getElem (show k < bads.length from hk)⟩
theorem bads_map : (bads.map Value.string).toArray = #[.string ⟨#[116, 105, 108, 101, 47, 48, 47, 49]⟩, .string ⟨#[116, 105, 108, 101, 47, 48, 47, 48, 48, 48, 49]⟩, .string ⟨#[116, 105, 108, 101, 47, 48, 47, 120, 48, 48, 48, 47, 48, 48, 49]⟩, .string ⟨#[116, 105, 108, 101, 47, 48, 47, 48, 48, 49, 46, 112, 47, 50, 53, 54]⟩, .string ⟨#[116, 105, 108, 101, 47, 48, 47, 48, 48, 49, 46, 112, 47, 48, 52, 52]⟩, .string ⟨#[116, 105, 108, 101, 47, 56, 47, 48, 48, 48]⟩, .string ⟨#[116, 105, 108, 101, 47, 48, 47, 48, 48, 49, 47]⟩, .string ⟨#[]⟩] := rfl
def z63 : List UInt8 := List.replicate 63 0
theorem made63 : madeCells #[.int .u8 0] 63 = (bc z63).toArray := by kernel_rfl
theorem make63 (w : World) : ∃ w', (Instr.makeSlice 64 (.int .i64 63) (.int .i64 63)).run Tryz.prog w = .ok (.slice (some ⟨w.heap.size, 0, none⟩) 63 63) w' ∧ (convert 64 9 (.slice (some ⟨w.heap.size, 0, none⟩) 63 63)).run Tryz.prog w' = .ok (.string ⟨z63.toArray⟩) w' ∧ Nw w w' := by
  refine ⟨_, make_byt 63 (by decide) w, ?_, nwa w _⟩
  refine run_convert_bytes_back _ _ _ 5 ⟨w.heap.size, 0, none⟩ 63 z63 Tryz.underlying64 Tryz.underlying5 Tryz.underlying9 (fun j hj => ?_)
  rw [addO, cell_of (heap_new _ _), made63]
  rw [Nat.zero_add, List.getElem?_toArray, bc, List.getElem?_map, List.getElem?_eq_getElem hj]
  rfl
theorem make4 (w : World) : ∃ w', (Instr.makeSlice 25 (.int .i64 4) (.int .i64 4)).run Tryz.prog w = .ok (.slice (some ⟨w.heap.size, 0, none⟩) 4 4) w' ∧ Nw w w' := ⟨_, make_hsc 4 4 rfl (by decide) w, nwa w _⟩
set_option maxRecDepth 100000 in
set_option maxHeartbeats 4000000 in
theorem names_any (w : World) (hP : TX.Pow w) (hM : MaxL w) {B : Nat} {a : Nat → Addr} (hSe : Sent B w a) :
    Calls Tryz.prog 7 #[] w fun e w' => e = .returned (.bool true) ∧ Nw w w' := by
  have SV : Hid (∀ V, Nw w V → Sent B V a) := fun V nV => hSe.fr nV (fun _ _ f => f)
  have QV : Hid (∀ V, Nw w V → Calls Tryz.prog 15 #[] V fun e w' => e = .returned (.bool true) ∧ Nw V w') := fun V nV => lives_any V (hP.fr nV) (hM.nw nV) (SV.out V nV)
  have QI2 : Hid (∀ V, Nw w V → Calls Tryz.prog 18 #[sen (a 1), .int .i64 2] V fun e w' => e = .returned (.bool true) ∧ Nw V w') := fun V nV => isjT hSe 1 (by omega) 2 rfl V nV
  have QI3 : Hid (∀ V, Nw w V → Calls Tryz.prog 18 #[sen (a 2), .int .i64 3] V fun e w' => e = .returned (.bool true) ∧ Nw V w') := fun V nV => isjT hSe 2 (by omega) 3 rfl V nV
  have QP : Hid (∀ s, s ∈ bads → ∀ V, Nw w V → Calls Tryz.prog 11 #[.string s] V fun e w' => e = .returned (.tuple #[tl 0 0 0, sen (a 2)]) ∧ Nw V w') := fun s hs V nV => bad_no hs V (hP.fr nV) (hM.nw nV) (SV.out V nV)
  have QA1 : Hid (∀ V, Nw w V → Calls Tryz.prog 10 #[.agg #[.int .u8 7, .int .u64 0, .int .i64 129]] V fun e w' => e = .returned (.tuple #[.string ⟨#[]⟩, sen (a 1)]) ∧ Nw V w') := fun V nV => path_no 7 0 129 (by omega) (by omega) (by decide +kernel) V (SV.out V nV)
  have QA2 : Hid (∀ V, Nw w V → Calls Tryz.prog 10 #[.agg #[.int .u8 7, .int .u64 1, .int .i64 1]] V fun e w' => e = .returned (.tuple #[.string ⟨#[]⟩, sen (a 1)]) ∧ Nw V w') := fun V nV => path_no 7 1 1 (by omega) (by omega) (by decide +kernel) V (SV.out V nV)
  have QA3 : Hid (∀ V, Nw w V → Calls Tryz.prog 10 #[.agg #[.int .u8 0, .int .u64 0, .int .i64 257]] V fun e w' => e = .returned (.tuple #[.string ⟨#[]⟩, sen (a 1)]) ∧ Nw V w') := fun V nV => path_no 0 0 257 (by omega) (by omega) (by decide +kernel) V (SV.out V nV)
  have QA4 : Hid (∀ V, Nw w V → Calls Tryz.prog 10 #[.agg #[.int .u8 1, .int .u64 1000, .int .i64 1]] V fun e w' => e = .returned (.tuple #[.string ⟨#[116, 105, 108, 101, 47, 49, 47, 120, 48, 48, 49, 47, 48, 48, 48, 46, 112, 47, 49]⟩, .nilIface]) ∧ Nw V w') := fun V nV => by
    have q := path_yes 1 1000 1 (by decide +kernel) V (hP.fr nV)
    rw [nm_e] at q
    exact q
  have QD1 : Hid (∀ V, Nw w V → Calls Tryz.prog 13 #[.string ⟨z63.toArray⟩, .int .i64 2] V fun e w' => e = .returned (.tuple #[.slice none 0 0, sen (a 2)]) ∧ Nw V w') := fun V nV => dec_in ⟨z63.toArray⟩ 2 (by omega) (by omega) (by decide) (by decide) V (SV.out V nV)
  have QD2 : Hid (∀ V, Nw w V → Calls Tryz.prog 13 #[.string ⟨#[]⟩, .int .i64 0] V fun e w' => e = .returned (.tuple #[.slice none 0 0, sen (a 1)]) ∧ Nw V w') := fun V nV => dec_arg _ 0 (by omega) V (SV.out V nV)
  have QO : Hid (∀ V, Calls Tryz.prog 19 #[.agg #[.int .u8 63, .int .u64 0]] V fun e w' => e = .returned (.tuple #[.agg #[.int .u8 7, .int .u64 0, .int .i64 128], .int .i64 0, .int .i64 128, .bool true]) ∧ Nw V w') := fun V => tof_yes 63 0 (by unfold may; decide) V
  have QN1 : Hid (∀ V, Calls Tryz.prog 17 #[.int .u8 7, .int .u64 0, .int .u64 9223372036854775808] V fun e w' => e = .returned (.tuple #[.agg #[.int .u8 7, .int .u64 0, .int .i64 128], .bool true]) ∧ Nw V w') := fun V => in_yes 7 0 9223372036854775808 128 (by decide) (by decide +kernel) (by decide) V
  have QN2 : Hid (∀ V, Calls Tryz.prog 17 #[.int .u8 8, .int .u64 0, .int .u64 9223372036854775808] V fun e w' => e = .returned (.tuple #[.agg #[.int .u8 0, .int .u64 0, .int .i64 0], .bool false]) ∧ Nw V w') := fun V => in_no 8 0 9223372036854775808 (by decide) (by decide) (by decide) (by decide +kernel) V
  have QN3 : Hid (∀ V, Calls Tryz.prog 17 #[.int .u8 0, .int .u64 0, .int .u64 9223372036854775809] V fun e w' => e = .returned (.tuple #[.agg #[.int .u8 0, .int .u64 0, .int .i64 0], .bool false]) ∧ Nw V w') := fun V => in_no 0 0 9223372036854775809 (by decide) (by decide) (by decide) (by decide +kernel) V
  have QN4 : Hid (∀ V, Calls Tryz.prog 17 #[.int .u8 0, .int .u64 72057594037927936, .int .u64 300] V fun e w' => e = .returned (.tuple #[.agg #[.int .u8 0, .int .u64 0, .int .i64 0], .bool false]) ∧ Nw V w') := fun V => in_no 0 72057594037927936 300 (by decide) (by decide) (by decide) (by decide +kernel) V
  have QH : Hid (∀ (ad : Option Addr) V, Nw w V → Calls Tryz.prog 21 #[.slice ad 4 4, .int .i64 1, .int .i64 2] V fun e w' => e = .returned (.tuple #[.agg (hbs zh), sen (a 1)]) ∧ Nw V w') := fun ad V nV => thash_no ad 4 4 1 2 (by decide) (by decide) (by decide) (by
    rintro ⟨_, k, A, hk, h1, h2, h3, h4⟩
    have e1 : A = 1 := by omega
    have e2 : 2 ^ k = 2 := by omega
    rw [e1, e2] at h4
    exact absurd h4 (by decide)) V (SV.out V nV)
  clear hP hM hSe
  go_enter Tryz.func7, Tryz.ntmps7
  go_wp2
  rw [← bads_map]
  obtain ⟨w0, hw0⟩ : ∃ q, w.alloc (.cells (bads.map Value.string).toArray 9) = q := ⟨_, rfl⟩
  have n0 : Nw w w0 := by rw [← hw0]; exact nwa w _
  have b0 : w0.heap[w.heap.size]? = some (.cells (bads.map Value.string).toArray 9 (0, 0)) := by rw [← hw0]; exact heap_new _ _
  rw [hw0]
  clear hw0
  obtain ⟨bb, hbb⟩ : ∃ q, q = w.heap.size := ⟨_, rfl⟩
  rw [← hbb] at b0 ⊢
  clear hbb
  go_loopw [2] (fun i wr => ∃ k : Nat, k ≤ 8 ∧ i = .int .i64 (k : Int) ∧ wr.heap[bb]? = some (.cells (bads.map Value.string).toArray 9 (0, 0)) ∧ Nw w wr) (fun i _ => 8 - (intOf i).toNat)
  case atStart => exact ⟨0, by omega, rfl, b0, n0⟩
  case round =>
    clear b0 n0 w0
    obtain ⟨k, hk, rfl, hb, hn⟩ := hrel
    have N0 : Hid (Nw w wr) := hn
    have B0 : Hid (wr.heap[bb]? = some (.cells (bads.map Value.string).toArray 9 (0, 0))) := hb
    clear hn
    by_cases hlt : k < 8
    · obtain ⟨s, hs⟩ := bads_at k hlt
      have hc : wr.cell? ⟨bb, k, none⟩ = some (.string s) := (cell_of hb k).trans (by simp [hs])
      have HSs : Hid (s ∈ bads) := List.mem_of_getElem? hs
      have hki : (k : Int) < 8 := by omega
      clear hb hs
      go_wp2_with fail
      refine (QP.out s HSs.out _ N0.out).mono ?_
      rintro _ w1 ⟨rfl, n1⟩
      have N1 : Hid (Nw w w1) := N0.out.tr n1
      have B1 : Hid (w1.heap[bb]? = some (.cells (bads.map Value.string).toArray 9 (0, 0))) := (n1.block _ (heap_lt B0.out) (fun f => f)).trans B0.out
      clear n1 hc N0 B0
      go_wp2_with fail
      refine (QI3.out _ (N1.out.alloc _)).mono ?_
      rintro _ w2 ⟨rfl, n2⟩
      obtain ⟨l2, b2, m2⟩ := one_made n2
      have N2 : Hid (Nw w w2) := N1.out.tr m2
      have B2 : Hid (w2.heap[bb]? = some (.cells (bads.map Value.string).toArray 9 (0, 0))) := (m2.block _ (heap_lt B1.out) (fun f => f)).trans B1.out
      obtain ⟨c0, c1, c2⟩ := cell3 b2
      clear n2 m2 N1 B1 b2
      go_wp2
      exact ⟨⟨k + 1, by omega, by go_num, B2.out, N2.out⟩, by simp [intOf]; omega⟩
    · obtain rfl : k = 8 := by omega
      clear hb B0 QP hlt hk
      go_wp2_with fail
      refine (QA1.out _ N0.out).mono ?_
      rintro _ w1 ⟨rfl, nw1⟩
      have Nw1 : Hid (Nw w w1) := N0.out.tr nw1
      clear nw1 N0
      go_wp2_with fail
      refine (QA2.out _ Nw1.out).mono ?_
      rintro _ w2 ⟨rfl, nw2⟩
      have Nw2 : Hid (Nw w w2) := Nw1.out.tr nw2
      clear nw2 Nw1
      go_wp2_with fail
      refine (QA3.out _ Nw2.out).mono ?_
      rintro _ w3 ⟨rfl, nw3⟩
      have Nw3 : Hid (Nw w w3) := Nw2.out.tr nw3
      clear nw3 Nw2
      go_wp2_with fail
      refine (QA4.out _ Nw3.out).mono ?_
      rintro _ w4 ⟨rfl, nw4⟩
      have Nw4 : Hid (Nw w w4) := Nw3.out.tr nw4
      clear nw4 Nw3
      obtain ⟨w5, hmk, hcv, n5⟩ := make63 w4
      have N5 : Hid (Nw w w5) := Nw4.out.tr n5
      clear n5 Nw4
      go_wp2_with fail
      clear hmk hcv
      refine (QD1.out _ N5.out).mono ?_
      rintro _ w6 ⟨rfl, n6⟩
      have N6 : Hid (Nw w w6) := N5.out.tr n6
      clear n6 N5
      go_wp2_with fail
      refine (QD2.out _ N6.out).mono ?_
      rintro _ w7 ⟨rfl, n7⟩
      have N7 : Hid (Nw w w7) := N6.out.tr n7
      clear n7 N6
      go_wp2_with fail
      refine (QO.out _).mono ?_
      rintro _ w8 ⟨rfl, n8⟩
      have N8 : Hid (Nw w w8) := N7.out.tr n8
      clear n8 N7
      go_wp2_with fail
      refine (QN1.out _).mono ?_
      rintro _ w9 ⟨rfl, n9⟩
      obtain ⟨_, b9, m9⟩ := one_made n9
      have Nw9 : Hid (Nw w w9) := N8.out.tr m9
      have Dw9 : Hid (w9.heap[w8.heap.size]? = some (.cells #[.int .u8 7, .int .u64 0, .int .i64 128] 24)) := b9
      clear n9 b9 m9 N8
      go_wp2_with fail
      refine (QN2.out _).mono ?_
      rintro _ wA ⟨rfl, nwA⟩
      obtain ⟨_, bwA, mwA⟩ := one_made nwA
      have NwA : Hid (Nw w wA) := Nw9.out.tr mwA
      have DwA : Hid (wA.heap[w8.heap.size]? = some (.cells #[.int .u8 7, .int .u64 0, .int .i64 128] 24)) := (mwA.block _ (heap_lt Dw9.out) (fun f => f)).trans Dw9.out
      have EwA : Hid (wA.heap[w9.heap.size]? = some (.cells #[.int .u8 7, .int .u64 0, .int .i64 128] 24)) := bwA
      clear nwA bwA mwA Nw9 Dw9
      go_wp2_with fail
      refine (QN3.out _).mono ?_
      rintro _ wB ⟨rfl, nwB⟩
      obtain ⟨_, bwB, mwB⟩ := one_made nwB
      have NwB : Hid (Nw w wB) := NwA.out.tr mwB
      have DwB : Hid (wB.heap[w8.heap.size]? = some (.cells #[.int .u8 7, .int .u64 0, .int .i64 128] 24)) := (mwB.block _ (heap_lt DwA.out) (fun f => f)).trans DwA.out
      have EwB : Hid (wB.heap[w9.heap.size]? = some (.cells #[.int .u8 7, .int .u64 0, .int .i64 128] 24)) := (mwB.block _ (heap_lt EwA.out) (fun f => f)).trans EwA.out
      clear nwB bwB mwB NwA DwA EwA
      go_wp2_with fail
      refine (QN4.out _).mono ?_
      rintro _ wC ⟨rfl, nwC⟩
      obtain ⟨_, bwC, mwC⟩ := one_made nwC
      have NwC : Hid (Nw w wC) := NwB.out.tr mwC
      have DwC : Hid (wC.heap[w8.heap.size]? = some (.cells #[.int .u8 7, .int .u64 0, .int .i64 128] 24)) := (mwC.block _ (heap_lt DwB.out) (fun f => f)).trans DwB.out
      have EwC : Hid (wC.heap[w9.heap.size]? = some (.cells #[.int .u8 7, .int .u64 0, .int .i64 128] 24)) := (mwC.block _ (heap_lt EwB.out) (fun f => f)).trans EwB.out
      clear nwC bwC mwC NwB DwB EwB
      obtain ⟨wD, hmk, nD⟩ := make4 (wC.alloc (.cells #[.int .u8 0, .int .u64 0, .int .i64 0] 24))
      have mD : Nw wC wD := (nwa wC _).tr nD
      have NwD : Hid (Nw w wD) := NwC.out.tr mD
      have DwD : Hid (wD.heap[w8.heap.size]? = some (.cells #[.int .u8 7, .int .u64 0, .int .i64 128] 24)) := (mD.block _ (heap_lt DwC.out) (fun f => f)).trans DwC.out
      have EwD : Hid (wD.heap[w9.heap.size]? = some (.cells #[.int .u8 7, .int .u64 0, .int .i64 128] 24)) := (mD.block _ (heap_lt EwC.out) (fun f => f)).trans EwC.out
      clear nD mD NwC DwC EwC
      go_wp2_with fail
      clear hmk
      refine (QH.out _ _ NwD.out).mono ?_
      rintro _ wE ⟨rfl, nE⟩
      have NwE : Hid (Nw w wE) := NwD.out.tr nE
      have DwE : Hid (wE.heap[w8.heap.size]? = some (.cells #[.int .u8 7, .int .u64 0, .int .i64 128] 24)) := (nE.block _ (heap_lt DwD.out) (fun f => f)).trans DwD.out
      have EwE : Hid (wE.heap[w9.heap.size]? = some (.cells #[.int .u8 7, .int .u64 0, .int .i64 128] 24)) := (nE.block _ (heap_lt EwD.out) (fun f => f)).trans EwD.out
      clear nE NwD DwD EwD
      have hz : (hbs zh).size = 32 := by rw [hbs_size]; simp
      go_upto_region 20 with (refine wp_store_agg rfl (.tmp 29) (.tmp 111) 58 32 rfl Tryz.sizeOf58 wE.heap.size 0 rfl _ 58 (heap_new _ _) (hbs zh) rfl hz (hbs_one _) (by decide) (hbs zh) (by simp) ?_; intro wF jF fF zF; have NwF : Hid (Nw w wF) := (NwE.out.alloc _).trans fF (fun k hk q => by have := NwE.out.size; omega); have DwF : Hid (wF.heap[w8.heap.size]? = some (.cells #[.int .u8 7, .int .u64 0, .int .i64 128] 24)) := (fF.block _ (by have := heap_lt DwE.out; simp; omega) (fun q => by have := heap_lt DwE.out; omega)).trans ((Below.heap_alloc _ _ _ (heap_lt DwE.out)).trans DwE.out); have EwF : Hid (wF.heap[w9.heap.size]? = some (.cells #[.int .u8 7, .int .u64 0, .int .i64 128] 24)) := (fF.block _ (by have := heap_lt EwE.out; simp; omega) (fun q => by have := heap_lt EwE.out; omega)).trans ((Below.heap_alloc _ _ _ (heap_lt EwE.out)).trans EwE.out); clear fF jF zF)
      clear NwE DwE EwE
      go_wp2_with fail
      refine (QI2.out _ NwF.out).mono ?_
      rintro _ wG0 ⟨rfl, nwG0⟩
      have NwG0 : Hid (Nw w wG0) := NwF.out.tr nwG0
      have DwG0 : Hid (wG0.heap[w8.heap.size]? = some (.cells #[.int .u8 7, .int .u64 0, .int .i64 128] 24)) := (nwG0.block _ (heap_lt DwF.out) (fun f => f)).trans DwF.out
      have EwG0 : Hid (wG0.heap[w9.heap.size]? = some (.cells #[.int .u8 7, .int .u64 0, .int .i64 128] 24)) := (nwG0.block _ (heap_lt EwF.out) (fun f => f)).trans EwF.out
      clear nwG0 NwF DwF EwF
      go_wp2_with fail
      refine (QI2.out _ NwG0.out).mono ?_
      rintro _ wG1 ⟨rfl, nwG1⟩
      have NwG1 : Hid (Nw w wG1) := NwG0.out.tr nwG1
      have DwG1 : Hid (wG1.heap[w8.heap.size]? = some (.cells #[.int .u8 7, .int .u64 0, .int .i64 128] 24)) := (nwG1.block _ (heap_lt DwG0.out) (fun f => f)).trans DwG0.out
      have EwG1 : Hid (wG1.heap[w9.heap.size]? = some (.cells #[.int .u8 7, .int .u64 0, .int .i64 128] 24)) := (nwG1.block _ (heap_lt EwG0.out) (fun f => f)).trans EwG0.out
      clear nwG1 NwG0 DwG0 EwG0
      go_wp2_with fail
      refine (QI2.out _ NwG1.out).mono ?_
      rintro _ wG2 ⟨rfl, nwG2⟩
      have NwG2 : Hid (Nw w wG2) := NwG1.out.tr nwG2
      have DwG2 : Hid (wG2.heap[w8.heap.size]? = some (.cells #[.int .u8 7, .int .u64 0, .int .i64 128] 24)) := (nwG2.block _ (heap_lt DwG1.out) (fun f => f)).trans DwG1.out
      have EwG2 : Hid (wG2.heap[w9.heap.size]? = some (.cells #[.int .u8 7, .int .u64 0, .int .i64 128] 24)) := (nwG2.block _ (heap_lt EwG1.out) (fun f => f)).trans EwG1.out
      clear nwG2 NwG1 DwG1 EwG1
      go_wp2_with fail
      refine (QI3.out _ NwG2.out).mono ?_
      rintro _ wG3 ⟨rfl, nwG3⟩
      have NwG3 : Hid (Nw w wG3) := NwG2.out.tr nwG3
      have DwG3 : Hid (wG3.heap[w8.heap.size]? = some (.cells #[.int .u8 7, .int .u64 0, .int .i64 128] 24)) := (nwG3.block _ (heap_lt DwG2.out) (fun f => f)).trans DwG2.out
      have EwG3 : Hid (wG3.heap[w9.heap.size]? = some (.cells #[.int .u8 7, .int .u64 0, .int .i64 128] 24)) := (nwG3.block _ (heap_lt EwG2.out) (fun f => f)).trans EwG2.out
      clear nwG3 NwG2 DwG2 EwG2
      go_wp2_with fail
      refine (QI2.out _ NwG3.out).mono ?_
      rintro _ wG4 ⟨rfl, nwG4⟩
      have NwG4 : Hid (Nw w wG4) := NwG3.out.tr nwG4
      have DwG4 : Hid (wG4.heap[w8.heap.size]? = some (.cells #[.int .u8 7, .int .u64 0, .int .i64 128] 24)) := (nwG4.block _ (heap_lt DwG3.out) (fun f => f)).trans DwG3.out
      have EwG4 : Hid (wG4.heap[w9.heap.size]? = some (.cells #[.int .u8 7, .int .u64 0, .int .i64 128] 24)) := (nwG4.block _ (heap_lt EwG3.out) (fun f => f)).trans EwG3.out
      clear nwG4 NwG3 DwG3 EwG3
      go_wp2_with fail
      refine (QV.out _ NwG4.out).mono ?_
      rintro _ wH ⟨rfl, nH⟩
      have NwH : Hid (Nw w wH) := NwG4.out.tr nH
      obtain ⟨c0, c1, c2⟩ := cell3 ((nH.block _ (heap_lt DwG4.out) (fun f => f)).trans DwG4.out)
      obtain ⟨d0, d1, d2⟩ := cell3 ((nH.block _ (heap_lt EwG4.out) (fun f => f)).trans EwG4.out)
      clear nH
      go_wp2_with fail
      refine (QI2.out _ NwH.out).mono ?_
      rintro _ wI ⟨rfl, nI⟩
      go_wp2
      go_ret
      exact ⟨rfl, NwH.out.tr nI⟩
end Go.Proofs.YtlgokcijmhkdiabGreatDoor
