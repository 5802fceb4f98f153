/- What Plain and Name answer. -/
import Derived.Test.YtebbgpnhkpbefaaGreatDoorA9
import Derived.Test.YtebbgpnhkpbefaaGreatDoorWv
namespace Go.Proofs.YtebbgpnhkpbefaaGreatDoor
open Go.RowKit
set_option linter.unusedVariables false
set_option linter.unusedSimpArgs false

theorem valid_any (s : ByteArray) (w : World) (hs : s.size ≤ 9223372036854775807) (hT : Tabs w) : Calls Tryz.prog 120 #[.string s] w fun e w' => e = .returned (.bool (Lib.validD s.data.toList)) ∧ Nw w w' := by
  refine (Tryz.utf8_ValidString s w hs hT.u8).mono ?_
  rintro e w' ⟨rfl, h⟩
  exact ⟨rfl, Fr.ofBelow h⟩
/-- A round over the runes of a text that is not broken. -/
theorem rune_step (bad : Nat → Bool) (s : ByteArray) (pos r wd : Nat) (hd : Utf8.decode s pos = (r, wd)) (hp : pos < s.size) (hv : Lib.validD (s.data.toList.drop pos) = true) :
    1 ≤ wd ∧ r ≤ 1114111 ∧ pos + wd ≤ s.size ∧ Lib.validD (s.data.toList.drop (pos + wd)) = true ∧ clr bad (s.data.toList.drop pos) = if bad r then false else clr bad (s.data.toList.drop (pos + wd)) := by
  have hlen : s.data.toList.length = s.size := by rw [Array.length_toList]; rfl
  have hne : s.data.toList.drop pos ≠ [] := by rw [Ne, List.drop_eq_nil_iff]; omega
  have e1 : dl (s.data.toList.drop pos) = (r, wd) := by rw [← dl_eq, Lib.decodeL_drop, hd]
  have h1 := dl_pos (s.data.toList.drop pos)
  have h2 := dl_len _ hne
  have h3 := Lib.rune_le s pos
  rw [e1] at h1 h2
  rw [hd] at h3
  simp only [List.length_drop] at h2
  have hl1 : 0 < (s.data.toList.drop pos).length := List.length_pos_iff.2 hne
  obtain ⟨n, hn⟩ : ∃ n, (s.data.toList.drop pos).length = n + 1 := ⟨(s.data.toList.drop pos).length - 1, by omega⟩
  have hv' : Lib.validGoD (n + 1) (s.data.toList.drop pos) = true := by rw [← hn]; exact hv
  obtain ⟨hv1, hv2⟩ := valid_step _ n (by omega) hne hv'
  rw [e1] at hv1 hv2
  refine ⟨h1, h3, by omega, ?_, ?_⟩
  · rw [List.drop_drop] at hv2
    have gen : ∀ (m k : Nat) (t : List UInt8), t.length ≤ m → t.length ≤ k → Lib.validGoD m t = Lib.validGoD k t := by
      intro m
      induction m with
      | zero =>
        intro k t h1 h2
        obtain rfl := List.length_eq_zero_iff.1 (Nat.le_zero.1 h1)
        cases k <;> simp [Lib.validGoD]
      | succ m ih =>
        intro k t h1 h2
        cases k with
        | zero => obtain rfl := List.length_eq_zero_iff.1 (Nat.le_zero.1 h2); simp [Lib.validGoD]
        | succ k =>
          simp only [Lib.validGoD]
          by_cases ht : t = []
          · simp [ht]
          · have hw := Lib.decodeL_width t
            have htl := List.length_pos_iff.2 ht
            rw [ih k (t.drop (Lib.decodeL t).2) (by simp only [List.length_drop]; omega) (by simp only [List.length_drop]; omega)]
    show Lib.validGoD _ _ = true
    rw [← hv2]
    exact gen _ _ _ (Nat.le_refl _) (by simp only [List.length_drop] at hn ⊢; omega)
  · rw [clr_step bad _ hne, e1, if_neg hv1, List.drop_drop]

set_option maxRecDepth 100000 in
set_option maxHeartbeats 2000000 in
theorem plain_txt (s : ByteArray) (w : World) (hs : s.size ≤ 9223372036854775807) (hT : Tabs w) : Calls Tryz.prog 74 #[.string s] w fun e w' => e = .returned (.bool (plainB s.data.toList)) ∧ Nw w w' := by
  have hlen : s.data.toList.length = s.size := by rw [Array.length_toList]; rfl
  by_cases hbig : 4096 < s.size
  · have hp : Hid (plainB s.data.toList = false) := plain_long _ (by omega)
    have hbz : (4096 : Int) < s.size := by omega
    go_enter Tryz.func74, Tryz.ntmps74
    go_wp2_with fail
    go_ret
    exact ⟨by rw [hp.out]; rfl, Fr.refl _ _⟩
  · have hbz : ¬ (4096 : Int) < s.size := by omega
    have hp : Hid (plainB s.data.toList = clr ctl s.data.toList) := by
      unfold Hid plainB
      rw [decide_eq_true (by omega)]; rfl
    have hva := valid_any s w hs hT
    cases hvd : Lib.validD s.data.toList with
    | false =>
      rw [hvd] at hva
      have hcl : Hid (clr ctl s.data.toList = false) := valid_of_clr ctl _ hvd
      clear hvd
      go_enter Tryz.func74, Tryz.ntmps74
      go_wp2_with (go_at_call 120; refine hva.mono ?_; rintro e w1 ⟨rfl, hn1⟩)
      go_ret
      exact ⟨by rw [hp.out, hcl.out]; rfl, hn1⟩
    | true =>
      rw [hvd] at hva
      have HV : Hid (Lib.validD s.data.toList = true) := hvd
      clear hvd
      go_enter Tryz.func74, Tryz.ntmps74
      go_wp2_with (go_at_call 120; refine hva.mono ?_; rintro e w1 ⟨rfl, hn1⟩)
      go_loopw [] (fun wr => ∃ pos : Nat, wr.heap[w1.heap.size]? = some (.stringIter s pos) ∧ Below w1.heap.size w1 wr ∧ pos ≤ s.size ∧ Lib.validD (s.data.toList.drop pos) = true ∧ clr ctl s.data.toList = clr ctl (s.data.toList.drop pos)) (fun wr => s.size - wr.iterPos w1.heap.size)
      case atStart =>
        refine ⟨0, ?_, (Below.refl _ w1).alloc (Nat.le_refl _) _, by omega, HV.out, rfl⟩
        have := World.iter_heap w1 s 0
        simpa using this
      case round =>
        obtain ⟨pos, hit, hb, hps, hv, hcl⟩ := hrel
        have HCL : Hid (clr ctl s.data.toList = clr ctl (s.data.toList.drop pos)) := hcl
        have HV2 : Hid (Lib.validD (s.data.toList.drop pos) = true) := hv
        clear hcl hv
        have hsz : w1.heap.size < wr.heap.size := heap_lt hit
        by_cases hp2 : pos < s.size
        · have hnx : ∀ ty, (Instr.next (.pointer (some ⟨w1.heap.size, 0, none⟩)) true ty).run Tryz.prog wr = _ := fun ty => Lib.run_next_any_at wr w1.heap.size s pos ty hit hp2
          rcases hd : Utf8.decode s pos with ⟨r, wd⟩
          rw [hd] at hnx
          obtain ⟨g1, g2, g3, g4, g5⟩ := rune_step ctl s pos r wd hd hp2 HV2.out
          have hit2 := Lib.iterAt_heap wr w1.heap.size s pos (pos + wd) hit
          have hb2 := Lib.below_iterAt hb (k := w1.heap.size) (by omega) s (pos + wd)
          have hct := ctl_any r (wr.iterAt w1.heap.size s (pos + wd)) g2
          have G5 : Hid (clr ctl (s.data.toList.drop pos) = if ctl r then false else clr ctl (s.data.toList.drop (pos + wd))) := g5
          have G4 : Hid _ := g4
          clear g4 g5 hd
          cases hc : ctl r with
          | true =>
            rw [hc] at hct
            have HC : Hid (ctl r = true) := hc
            clear hc
            go_wp2_with (go_at_call 121; refine hct.mono ?_; rintro e w2 ⟨rfl, rfl⟩)
            go_ret
            exact ⟨by rw [hp.out, HCL.out, G5.out, if_pos HC.out]; rfl, hn1.tr (Fr.ofBelow hb2)⟩
          | false =>
            rw [hc] at hct
            have HC : Hid (ctl r = false) := hc
            clear hc
            go_wp2_with (go_at_call 121; refine hct.mono ?_; rintro e w2 ⟨rfl, rfl⟩)
            refine ⟨⟨pos + wd, hit2, hb2, g3, G4.out, ?_⟩, ?_⟩
            · rw [HCL.out, G5.out, if_neg (by rw [HC.out]; simp)]
            · simp only [World.iterPos, hit2, hit]
              omega
        · have hend : Hid (clr ctl (s.data.toList.drop pos) = true) := by
            unfold Hid
            rw [List.drop_of_length_le (by omega)]; rfl
          have hnx : ∀ ty, (Instr.next (.pointer (some ⟨w1.heap.size, 0, none⟩)) true ty).run Tryz.prog wr = _ := fun ty => Lib.run_next_end_at wr w1.heap.size s pos ty hit hp2
          go_wp2
          go_ret
          exact ⟨by rw [hp.out, HCL.out, hend.out]; rfl, hn1.tr (Fr.ofBelow hb)⟩
set_option maxRecDepth 100000 in
set_option maxHeartbeats 2000000 in
theorem name_txt (s : ByteArray) (w : World) (hs : s.size ≤ 9223372036854775807) (hT : Tabs w) : Calls Tryz.prog 73 #[.string s] w fun e w' => e = .returned (.bool (nameB s.data.toList)) ∧ Nw w w' := by
  have hlen : s.data.toList.length = s.size := by rw [Array.length_toList]; rfl
  by_cases h0 : s.size = 0
  · have hp : Hid (nameB s.data.toList = false) := by
      unfold Hid nameB
      rw [decide_eq_false (by omega)]; rfl
    obtain rfl := size_zero s h0
    go_enter Tryz.func73, Tryz.ntmps73
    go_wp2_with fail
    go_ret
    exact ⟨by rw [hp.out]; rfl, Fr.refl _ _⟩
  have hne := em_no s h0
  by_cases hbig : 64 < s.size
  · have hp : Hid (nameB s.data.toList = false) := by
      unfold Hid nameB
      rw [decide_eq_false (show ¬ s.data.toList.length ≤ 64 by omega)]; simp
    have hbz : (64 : Int) < s.size := by omega
    go_enter Tryz.func73, Tryz.ntmps73
    go_wp2_with fail
    go_ret
    exact ⟨by rw [hp.out]; rfl, Fr.refl _ _⟩
  · have hbz : ¬ (64 : Int) < s.size := by omega
    have hp : Hid (nameB s.data.toList = clr nob s.data.toList) := by
      unfold Hid nameB
      rw [decide_eq_true (show 1 ≤ s.data.toList.length by omega), decide_eq_true (show s.data.toList.length ≤ 64 by omega)]; rfl
    have hva := valid_any s w hs hT
    cases hvd : Lib.validD s.data.toList with
    | false =>
      rw [hvd] at hva
      have hcl : Hid (clr nob s.data.toList = false) := valid_of_clr nob _ hvd
      clear hvd
      go_enter Tryz.func73, Tryz.ntmps73
      go_wp2_with (go_at_call 120; refine hva.mono ?_; rintro e w1 ⟨rfl, hn1⟩)
      go_ret
      exact ⟨by rw [hp.out, hcl.out]; rfl, hn1⟩
    | true =>
      rw [hvd] at hva
      have HV : Hid (Lib.validD s.data.toList = true) := hvd
      clear hvd
      go_enter Tryz.func73, Tryz.ntmps73
      go_wp2_with (go_at_call 120; refine hva.mono ?_; rintro e w1 ⟨rfl, hn1⟩)
      go_loopw [] (fun wr => ∃ pos : Nat, wr.heap[w1.heap.size]? = some (.stringIter s pos) ∧ Below w1.heap.size w1 wr ∧ pos ≤ s.size ∧ Lib.validD (s.data.toList.drop pos) = true ∧ clr nob s.data.toList = clr nob (s.data.toList.drop pos)) (fun wr => s.size - wr.iterPos w1.heap.size)
      case atStart =>
        refine ⟨0, ?_, (Below.refl _ w1).alloc (Nat.le_refl _) _, by omega, HV.out, rfl⟩
        have := World.iter_heap w1 s 0
        simpa using this
      case round =>
        obtain ⟨pos, hit, hb, hps, hv, hcl⟩ := hrel
        have HCL : Hid (clr nob s.data.toList = clr nob (s.data.toList.drop pos)) := hcl
        have HV2 : Hid (Lib.validD (s.data.toList.drop pos) = true) := hv
        clear hcl hv
        have hsz : w1.heap.size < wr.heap.size := heap_lt hit
        by_cases hp2 : pos < s.size
        · have hnx : ∀ ty, (Instr.next (.pointer (some ⟨w1.heap.size, 0, none⟩)) true ty).run Tryz.prog wr = _ := fun ty => Lib.run_next_any_at wr w1.heap.size s pos ty hit hp2
          rcases hd : Utf8.decode s pos with ⟨r, wd⟩
          rw [hd] at hnx
          obtain ⟨g1, g2, g3, g4, g5⟩ := rune_step nob s pos r wd hd hp2 HV2.out
          have hit2 := Lib.iterAt_heap wr w1.heap.size s pos (pos + wd) hit
          have hb2 := Lib.below_iterAt hb (k := w1.heap.size) (by omega) s (pos + wd)
          have hct := ctl_any r (wr.iterAt w1.heap.size s (pos + wd)) g2
          have G5 : Hid (clr nob (s.data.toList.drop pos) = if nob r then false else clr nob (s.data.toList.drop (pos + wd))) := g5
          have G4 : Hid _ := g4
          clear g4 g5 hd
          have hTi : Tabs (wr.iterAt w1.heap.size s (pos + wd)) := hT.fr (hn1.tr (Fr.ofBelow hb2))
          have hbl := blank_any r (wr.iterAt w1.heap.size s (pos + wd)) g2 hTi
          have hfin : ∀ (h : nob r = false), (∃ pos_1, (wr.iterAt w1.heap.size s (pos + wd)).heap[w1.heap.size]? = some (.stringIter s pos_1) ∧ Below w1.heap.size w1 (wr.iterAt w1.heap.size s (pos + wd)) ∧ pos_1 ≤ s.size ∧ Lib.validD (s.data.toList.drop pos_1) = true ∧ clr nob s.data.toList = clr nob (s.data.toList.drop pos_1)) ∧ s.size - (wr.iterAt w1.heap.size s (pos + wd)).iterPos w1.heap.size < s.size - wr.iterPos w1.heap.size := by
            intro h
            refine ⟨⟨pos + wd, hit2, hb2, g3, G4.out, ?_⟩, ?_⟩
            · rw [HCL.out, G5.out, if_neg (by rw [h]; simp)]
            · simp only [World.iterPos, hit2, hit]
              omega
          have HFIN : Hid _ := hfin
          clear hfin
          have hbd : Hid (nob r = true → nameB s.data.toList = false) := fun h => by rw [hp.out, HCL.out, G5.out, if_pos h]
          cases hc : ctl r with
          | true =>
            rw [hc] at hct
            have HC : Hid (nob r = true) := by unfold Hid nob; rw [hc]; rfl
            clear hc
            go_wp2_with (go_at_call 121; refine hct.mono ?_; rintro e w2 ⟨rfl, rfl⟩)
            go_ret
            exact ⟨by rw [hbd.out HC.out]; rfl, hn1.tr (Fr.ofBelow hb2)⟩
          | false =>
            rw [hc] at hct
            cases hk : blk r with
            | true =>
              rw [hk] at hbl
              have HC : Hid (nob r = true) := by unfold Hid nob; rw [hc, hk]; rfl
              clear hc hk
              go_wp2_with (first
                | (go_at_call 121; refine hct.mono ?_; rintro e w2 ⟨rfl, rfl⟩)
                | (go_at_call 122; refine hbl.mono ?_; rintro e w2 ⟨rfl, rfl⟩))
              go_ret
              exact ⟨by rw [hbd.out HC.out]; rfl, hn1.tr (Fr.ofBelow hb2)⟩
            | false =>
              rw [hk] at hbl
              by_cases h43 : r = 43
              · have HC : Hid (nob r = true) := by unfold Hid nob; rw [hc, hk, h43]; rfl
                have hz : ((r : Int) == 43) = true := by rw [h43]; rfl
                clear hc hk h43
                go_wp2_with (first
                  | (go_at_call 121; refine hct.mono ?_; rintro e w2 ⟨rfl, rfl⟩)
                  | (go_at_call 122; refine hbl.mono ?_; rintro e w2 ⟨rfl, rfl⟩))
                go_ret
                exact ⟨by rw [hbd.out HC.out]; rfl, hn1.tr (Fr.ofBelow hb2)⟩
              · have HC : Hid (nob r = false) := by
                  unfold Hid nob
                  rw [hc, hk]; simp [h43]
                have hz : ((r : Int) == 43) = false := by rw [beq_eq_false_iff_ne]; omega
                clear hc hk h43
                go_wp2_with (first
                  | (go_at_call 121; refine hct.mono ?_; rintro e w2 ⟨rfl, rfl⟩)
                  | (go_at_call 122; refine hbl.mono ?_; rintro e w2 ⟨rfl, rfl⟩))
                exact HFIN.out HC.out
        · have hend : Hid (clr nob (s.data.toList.drop pos) = true) := by
            unfold Hid
            rw [List.drop_of_length_le (by omega)]; rfl
          have hnx : ∀ ty, (Instr.next (.pointer (some ⟨w1.heap.size, 0, none⟩)) true ty).run Tryz.prog wr = _ := fun ty => Lib.run_next_end_at wr w1.heap.size s pos ty hit hp2
          go_wp2
          go_ret
          exact ⟨by rw [hp.out, HCL.out, hend.out]; rfl, hn1.tr (Fr.ofBelow hb)⟩
end Go.Proofs.YtebbgpnhkpbefaaGreatDoor
