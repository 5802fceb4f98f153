/- No two rows of a Book share memory. -/
import Derived.Test.YtgdjoaiahigjpaaGreatDoorIx6
namespace Go.Proofs.YtgdjoaiahigjpaaGreatDoor
namespace IB
open Go.RowKit
set_option linter.unusedVariables false
set_option linter.unusedSimpArgs false

theorem num_sm {H H' : List Held} (s : Sm H H') (i : Nat) : num H' i = num H i := by
  rcases h : H[i]? with _ | t
  · have h1 := List.getElem?_eq_none_iff.1 h
    have h2 : H'[i]? = none := List.getElem?_eq_none_iff.2 (by rw [s.1]; exact h1)
    simp [num, h, h2]
  · obtain ⟨v, q⟩ := s.2 i t h
    simp [num, h, q]

set_option maxRecDepth 100000 in
set_option maxHeartbeats 4000000 in
theorem apart_any (B0 bk N gl vc : Nat) (H : List Held) (X : Nat → List Value) (w : World) (hB : Bk w bk N (.slice (some ⟨gl, 0, none⟩) H.length vc) H) (hgl : bk < gl) (hR : Rws w B0 bk H X) (hB0 : B0 ≤ bk) (hH : H.length ≤ 100) (hX : ∀ i, (X i).length ≤ 2000000) (hn : ∀ i, num H i ≤ 100) (hP : ∀ W, Fr (fun k => B0 ≤ k) w W → Pow W) :
    Calls Tryz.prog 21 #[.pointer (some ⟨bk, 0, none⟩)] w fun e w' => e = .returned (.bool true) ∧ Fr (fun k => B0 ≤ k) w w' := by
  have HB : Hid (Bk w bk N (.slice (some ⟨gl, 0, none⟩) H.length vc) H) := hB
  have HR : Hid (Rws w B0 bk H X) := hR
  have HX : Hid (∀ i, (X i).length ≤ 2000000) := hX
  have HN : Hid (∀ i, num H i ≤ 100) := hn
  have HPW : Hid (∀ W, Fr (fun k => B0 ≤ k) w W → Pow W) := hP
  clear hB hR hX hn hP
  go_enter Tryz.func21, Tryz.ntmps21
  go_wp2_with fail
  refine (fill_any B0 bk N _ H X _ HB.out HR.out hB0 hH HX.out HN.out HPW.out).mono ?_
  rintro e1 w1 ⟨rfl, hB1, hR1, hF1⟩
  have HB1 : Hid (Bk w1 bk N (.slice (some ⟨gl, 0, none⟩) H.length vc) H) := hB1
  have HR1 : Hid (Rws w1 B0 bk H (fun i => List.replicate (X i).length (mkt (num H i)))) := hR1
  have HF1 : Hid (Fr (fun k => B0 ≤ k) w w1) := hF1
  clear hB1 hR1 hF1
  go_wp2_with fail
  refine (fillByte_none bk _ ((cell_of HB1.out.blk 2).trans rfl)).mono ?_
  rintro e1 w' ⟨rfl, hw⟩
  rw [hw]
  clear hw
  go_wp2_with fail
  refine (fillText_none bk _ ((cell_of HB1.out.blk 3).trans rfl)).mono ?_
  rintro e1 w' ⟨rfl, hw⟩
  rw [hw]
  clear hw
  go_wp2_with fail
  refine (fillNumber_none bk _ ((cell_of HB1.out.blk 4).trans rfl)).mono ?_
  rintro e1 w' ⟨rfl, hw⟩
  rw [hw]
  clear hw
  go_wp2_with fail
  refine (fillHash_none bk _ ((cell_of HB1.out.blk 5).trans rfl)).mono ?_
  rintro e1 w' ⟨rfl, hw⟩
  rw [hw]
  clear hw
  go_wp2_with fail
  refine (fillCoord_none bk _ ((cell_of HB1.out.blk 6).trans rfl)).mono ?_
  rintro e1 w' ⟨rfl, hw⟩
  rw [hw]
  clear hw
  go_wp2_with fail
  refine (fillSpan_none bk _ ((cell_of HB1.out.blk 7).trans rfl)).mono ?_
  rintro e1 w' ⟨rfl, hw⟩
  rw [hw]
  clear hw
  go_wp2_with fail
  refine (fillNode_none bk _ ((cell_of HB1.out.blk 8).trans rfl)).mono ?_
  rintro e1 w' ⟨rfl, hw⟩
  rw [hw]
  clear hw
  go_wp2_with fail
  refine (fillTile_none bk _ ((cell_of HB1.out.blk 9).trans rfl)).mono ?_
  rintro e1 w' ⟨rfl, hw⟩
  rw [hw]
  clear hw
  go_wp2_with fail
  refine (fillEntry_none bk _ ((cell_of HB1.out.blk 10).trans rfl)).mono ?_
  rintro e1 w' ⟨rfl, hw⟩
  rw [hw]
  clear hw
  go_wp2_with fail
  refine (fillFound_none bk _ ((cell_of HB1.out.blk 11).trans rfl)).mono ?_
  rintro e1 w' ⟨rfl, hw⟩
  rw [hw]
  clear hw
  go_wp2_with fail
  refine (fillKnown_none bk _ ((cell_of HB1.out.blk 12).trans rfl)).mono ?_
  rintro e1 w' ⟨rfl, hw⟩
  rw [hw]
  clear hw
  go_wp2_with fail
  refine (fillVote_none bk _ ((cell_of HB1.out.blk 13).trans rfl)).mono ?_
  rintro e1 w' ⟨rfl, hw⟩
  rw [hw]
  clear hw
  go_wp2_with fail
  refine (fillPart_none bk _ ((cell_of HB1.out.blk 14).trans rfl)).mono ?_
  rintro e1 w' ⟨rfl, hw⟩
  rw [hw]
  clear hw
  go_wp2_with fail
  refine (fillHashList_none bk _ ((cell_of HB1.out.blk 15).trans rfl)).mono ?_
  rintro e1 w' ⟨rfl, hw⟩
  rw [hw]
  clear hw
  go_wp2_with fail
  refine (fillQuery_none bk _ ((cell_of HB1.out.blk 16).trans rfl)).mono ?_
  rintro e1 w' ⟨rfl, hw⟩
  rw [hw]
  clear hw
  go_wp2_with fail
  refine (grow_any B0 bk N gl vc H (fun i => (X i).length) _ HB1.out hgl HR1.out hB0 hH HX.out HN.out (fun W hW => HPW.out W (HF1.out.trans hW (fun _ _ h => h)))).mono ?_
  rintro e1 w2 ⟨rfl, H', hS2, hB2, hR2, hL2, hF2⟩
  have hHl : H'.length = H.length := hS2.1
  have HB2 : Hid (Bk w2 bk N (.slice (some ⟨gl, 0, none⟩) H.length vc) H') := hB2
  have hnum : num H' = num H := funext (num_sm hS2)
  have QL : Hid (Calls Tryz.prog 64 #[.pointer (some ⟨bk, 0, none⟩)] w2 fun e w' => e = .returned (.bool true) ∧ Nw w2 w') := look_any B0 bk N gl vc H' (fun i => (X i).length) w2 (by rw [hHl]; exact hB2) (by rw [hnum]; exact hR2) (by rw [hHl]; exact hL2) (by omega) HX.out (by rw [hnum]; exact HN.out) (fun W hW => HPW.out W ((HF1.out.trans hF2 (fun _ _ h => h)).trans hW (fun _ _ f => f.elim)))
  have HF2 : Hid (Fr (fun k => B0 ≤ k) w w2) := HF1.out.trans hF2 (fun _ _ h => h)
  clear hB2 hR2 hF2 hL2 hS2 hnum hHl
  go_wp2_with fail
  refine (growByte_none bk _ ((cell_of HB2.out.blk 2).trans rfl)).mono ?_
  rintro e1 w' ⟨rfl, hw⟩
  rw [hw]
  clear hw
  go_wp2_with fail
  refine (growText_none bk _ ((cell_of HB2.out.blk 3).trans rfl)).mono ?_
  rintro e1 w' ⟨rfl, hw⟩
  rw [hw]
  clear hw
  go_wp2_with fail
  refine (growNumber_none bk _ ((cell_of HB2.out.blk 4).trans rfl)).mono ?_
  rintro e1 w' ⟨rfl, hw⟩
  rw [hw]
  clear hw
  go_wp2_with fail
  refine (growHash_none bk _ ((cell_of HB2.out.blk 5).trans rfl)).mono ?_
  rintro e1 w' ⟨rfl, hw⟩
  rw [hw]
  clear hw
  go_wp2_with fail
  refine (growCoord_none bk _ ((cell_of HB2.out.blk 6).trans rfl)).mono ?_
  rintro e1 w' ⟨rfl, hw⟩
  rw [hw]
  clear hw
  go_wp2_with fail
  refine (growSpan_none bk _ ((cell_of HB2.out.blk 7).trans rfl)).mono ?_
  rintro e1 w' ⟨rfl, hw⟩
  rw [hw]
  clear hw
  go_wp2_with fail
  refine (growNode_none bk _ ((cell_of HB2.out.blk 8).trans rfl)).mono ?_
  rintro e1 w' ⟨rfl, hw⟩
  rw [hw]
  clear hw
  go_wp2_with fail
  refine (growTile_none bk _ ((cell_of HB2.out.blk 9).trans rfl)).mono ?_
  rintro e1 w' ⟨rfl, hw⟩
  rw [hw]
  clear hw
  go_wp2_with fail
  refine (growEntry_none bk _ ((cell_of HB2.out.blk 10).trans rfl)).mono ?_
  rintro e1 w' ⟨rfl, hw⟩
  rw [hw]
  clear hw
  go_wp2_with fail
  refine (growFound_none bk _ ((cell_of HB2.out.blk 11).trans rfl)).mono ?_
  rintro e1 w' ⟨rfl, hw⟩
  rw [hw]
  clear hw
  go_wp2_with fail
  refine (growKnown_none bk _ ((cell_of HB2.out.blk 12).trans rfl)).mono ?_
  rintro e1 w' ⟨rfl, hw⟩
  rw [hw]
  clear hw
  go_wp2_with fail
  refine (growVote_none bk _ ((cell_of HB2.out.blk 13).trans rfl)).mono ?_
  rintro e1 w' ⟨rfl, hw⟩
  rw [hw]
  clear hw
  go_wp2_with fail
  refine (growPart_none bk _ ((cell_of HB2.out.blk 14).trans rfl)).mono ?_
  rintro e1 w' ⟨rfl, hw⟩
  rw [hw]
  clear hw
  go_wp2_with fail
  refine (growHashList_none bk _ ((cell_of HB2.out.blk 15).trans rfl)).mono ?_
  rintro e1 w' ⟨rfl, hw⟩
  rw [hw]
  clear hw
  go_wp2_with fail
  refine (growQuery_none bk _ ((cell_of HB2.out.blk 16).trans rfl)).mono ?_
  rintro e1 w' ⟨rfl, hw⟩
  rw [hw]
  clear hw
  go_wp2_with fail
  refine QL.out.mono ?_
  rintro e1 w3 ⟨rfl, n3⟩
  have HB3 : Hid (w3.heap[bk]? = _) := (n3.block bk (heap_lt HB2.out.blk) (fun f => f)).trans HB2.out.blk
  have HF3 : Hid (Fr (fun k => B0 ≤ k) w w3) := HF2.out.trans n3 (fun _ _ f => f.elim)
  clear n3
  go_wp2_with fail
  refine (lookByte_none bk _ ((cell_of HB3.out 2).trans rfl)).mono ?_
  rintro e1 w' ⟨rfl, hw⟩
  rw [hw]
  clear hw
  go_wp2_with fail
  refine (lookText_none bk _ ((cell_of HB3.out 3).trans rfl)).mono ?_
  rintro e1 w' ⟨rfl, hw⟩
  rw [hw]
  clear hw
  go_wp2_with fail
  refine (lookNumber_none bk _ ((cell_of HB3.out 4).trans rfl)).mono ?_
  rintro e1 w' ⟨rfl, hw⟩
  rw [hw]
  clear hw
  go_wp2_with fail
  refine (lookHash_none bk _ ((cell_of HB3.out 5).trans rfl)).mono ?_
  rintro e1 w' ⟨rfl, hw⟩
  rw [hw]
  clear hw
  go_wp2_with fail
  refine (lookCoord_none bk _ ((cell_of HB3.out 6).trans rfl)).mono ?_
  rintro e1 w' ⟨rfl, hw⟩
  rw [hw]
  clear hw
  go_wp2_with fail
  refine (lookSpan_none bk _ ((cell_of HB3.out 7).trans rfl)).mono ?_
  rintro e1 w' ⟨rfl, hw⟩
  rw [hw]
  clear hw
  go_wp2_with fail
  refine (lookNode_none bk _ ((cell_of HB3.out 8).trans rfl)).mono ?_
  rintro e1 w' ⟨rfl, hw⟩
  rw [hw]
  clear hw
  go_wp2_with fail
  refine (lookTile_none bk _ ((cell_of HB3.out 9).trans rfl)).mono ?_
  rintro e1 w' ⟨rfl, hw⟩
  rw [hw]
  clear hw
  go_wp2_with fail
  refine (lookEntry_none bk _ ((cell_of HB3.out 10).trans rfl)).mono ?_
  rintro e1 w' ⟨rfl, hw⟩
  rw [hw]
  clear hw
  go_wp2_with fail
  refine (lookFound_none bk _ ((cell_of HB3.out 11).trans rfl)).mono ?_
  rintro e1 w' ⟨rfl, hw⟩
  rw [hw]
  clear hw
  go_wp2_with fail
  refine (lookKnown_none bk _ ((cell_of HB3.out 12).trans rfl)).mono ?_
  rintro e1 w' ⟨rfl, hw⟩
  rw [hw]
  clear hw
  go_wp2_with fail
  refine (lookVote_none bk _ ((cell_of HB3.out 13).trans rfl)).mono ?_
  rintro e1 w' ⟨rfl, hw⟩
  rw [hw]
  clear hw
  go_wp2_with fail
  refine (lookPart_none bk _ ((cell_of HB3.out 14).trans rfl)).mono ?_
  rintro e1 w' ⟨rfl, hw⟩
  rw [hw]
  clear hw
  go_wp2_with fail
  refine (lookHashList_none bk _ ((cell_of HB3.out 15).trans rfl)).mono ?_
  rintro e1 w' ⟨rfl, hw⟩
  rw [hw]
  clear hw
  go_wp2_with fail
  refine (lookQuery_none bk _ ((cell_of HB3.out 16).trans rfl)).mono ?_
  rintro e1 w' ⟨rfl, hw⟩
  rw [hw]
  clear hw
  go_wp2_with fail
  go_ret
  exact ⟨rfl, HF3.out⟩
end IB
end Go.Proofs.YtgdjoaiahigjpaaGreatDoor
