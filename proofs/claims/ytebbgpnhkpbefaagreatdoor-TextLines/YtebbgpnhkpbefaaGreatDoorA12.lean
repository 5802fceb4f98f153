/- Two lists of texts, held against one another; the short texts that every statement asks. -/
import Derived.Test.YtebbgpnhkpbefaaGreatDoorA11
namespace Go.Proofs.YtebbgpnhkpbefaaGreatDoor
open Go.RowKit
set_option linter.unusedVariables false
set_option linter.unusedSimpArgs false

/-- A list of texts in memory. -/
def Sl (w : World) (v : Value) (ls : List (List UInt8)) : Prop := ∃ a cap, v = .slice a ls.length cap ∧ ∀ j, j < ls.length → ∃ g off, a = some ⟨g, off, none⟩ ∧ w.cell? ⟨g, off + j, none⟩ = some (sv (ls.getD j []))
theorem Sl.fr {w w' : World} {v : Value} {ls : List (List UInt8)} (h : Sl w v ls) (hf : Nw w w') : Sl w' v ls := by
  obtain ⟨a, cap, hv, hc⟩ := h
  refine ⟨a, cap, hv, fun j hj => ?_⟩
  obtain ⟨g, off, ha, hcell⟩ := hc j hj
  exact ⟨g, off, ha, hf.cellOf hcell⟩
theorem OwnS.sl {B : Nat} {w : World} {v : Value} {ls : List (List UInt8)} (h : OwnS B w v ls) : Sl w v ls := by
  have h' := h
  rcases h.2 with ⟨rfl, hn⟩ | ⟨g, cap, cur, rfl, _⟩
  · exact ⟨none, 0, by rw [hn], fun j hj => absurd hj (by omega)⟩
  · refine ⟨_, cap, rfl, fun j hj => ⟨g, 0, rfl, ?_⟩⟩
    have := h'.cells (g := g) rfl j (sv (ls.getD j [])) (by rw [List.getElem?_map, List.getElem?_eq_getElem hj, List.getD_eq_getElem?_getD, List.getElem?_eq_getElem hj]; rfl)
    rw [addZ] at this
    rw [Nat.zero_add]
    exact this
theorem ne_bytes (A B : ByteArray) (h : A ≠ B) : (A.toList == B.toList) = false := by
  rw [em_list, em_list, beq_eq_false_iff_ne]
  intro e
  apply h
  obtain ⟨⟨a⟩⟩ := A
  obtain ⟨⟨b⟩⟩ := B
  simp at e
  rw [e]

set_option maxRecDepth 100000 in
set_option maxHeartbeats 1000000 in
theorem sameTexts_any (va vb : Value) (la lb : List (List UInt8)) (w : World) (ha : Sl w va la) (hb : Sl w vb lb) (hl : la.length ≤ 9223372036854775806) (hl2 : lb.length ≤ 9223372036854775806) :
    Calls Tryz.prog 7 #[va, vb] w fun e w' => e = .returned (.bool (decide (la = lb))) ∧ Nw w w' := by
  obtain ⟨aa, ca, rfl, hca⟩ := ha
  obtain ⟨ab, cb, rfl, hcb⟩ := hb
  have HCA : Hid (∀ j, j < la.length → ∃ g off, aa = some ⟨g, off, none⟩ ∧ w.cell? ⟨g, off + j, none⟩ = some (sv (la.getD j []))) := hca
  have HCB : Hid (∀ j, j < lb.length → ∃ g off, ab = some ⟨g, off, none⟩ ∧ w.cell? ⟨g, off + j, none⟩ = some (sv (lb.getD j []))) := hcb
  clear hca hcb
  by_cases hn : la.length = lb.length
  · have hz : (((la.length : Nat) : Int) != ((lb.length : Nat) : Int)) = false := by simp; omega
    go_enter Tryz.func7, Tryz.ntmps7
    go_wp2
    go_loopw [5] (fun i wr => ∃ k : Nat, k ≤ la.length ∧ i = .int .i64 k ∧ la.take k = lb.take k ∧ Nw w wr) (fun i _ => la.length - (intOf i).toNat)
    case atStart => exact ⟨0, by omega, rfl, by simp, Fr.refl _ _⟩
    case round =>
      obtain ⟨k, hk, rfl, htk, hnw⟩ := hrel
      have HTK : Hid (la.take k = lb.take k) := htk
      clear htk
      by_cases hlt : k < la.length
      · obtain ⟨g1, o1, rfl, c1⟩ := HCA.out k hlt
        obtain ⟨g2, o2, rfl, c2⟩ := HCB.out k (by omega)
        have d1 := hnw.cellOf c1
        have d2 := hnw.cellOf c2
        obtain ⟨A, hA⟩ : ∃ A : ByteArray, A = ⟨(la.getD k []).toArray⟩ := ⟨_, rfl⟩
        obtain ⟨B, hB⟩ : ∃ B : ByteArray, B = ⟨(lb.getD k []).toArray⟩ := ⟨_, rfl⟩
        rw [show sv (la.getD k []) = .string A by rw [hA]] at d1
        rw [show sv (lb.getD k []) = .string B by rw [hB]] at d2
        have hlt2 : k < lb.length := by omega
        by_cases hAB : A = B
        · have HE : Hid (la.take (k + 1) = lb.take (k + 1)) := by
            unfold Hid
            have e1 : la.getD k [] = lb.getD k [] := by
              have : (⟨(la.getD k []).toArray⟩ : ByteArray) = ⟨(lb.getD k []).toArray⟩ := by rw [← hA, ← hB, hAB]
              simpa using this
            rw [List.take_succ_eq_append_getElem hlt, List.take_succ_eq_append_getElem hlt2, HTK.out]
            rw [List.getD_eq_getElem?_getD, List.getD_eq_getElem?_getD, List.getElem?_eq_getElem hlt, List.getElem?_eq_getElem hlt2] at e1
            simp at e1
            rw [e1]
          subst hAB
          clear hA hB c1 c2
          go_wp2
          go_quiet (fail)
          go_wp2
          exact ⟨⟨k + 1, by omega, by go_num, HE.out, hnw.drewN _⟩, by simp [intOf]; omega⟩
        · have hq := ne_bytes A B hAB
          have HD : Hid (decide (la = lb) = false) := decide_eq_false (fun e => hAB (by rw [hA, hB, e]))
          clear hA hB c1 c2
          go_wp2
          go_quiet (fail)
          go_wp2
          go_ret
          exact ⟨by rw [HD.out]; rfl, hnw.drewN _⟩
      · obtain rfl : k = la.length := by omega
        have HD : Hid (decide (la = lb) = true) := decide_eq_true (by
          have h := HTK.out
          rw [List.take_length, hn, List.take_length] at h; exact h)
        go_wp2
        go_ret
        exact ⟨by rw [HD.out]; rfl, hnw⟩
  · have hz : (((la.length : Nat) : Int) != ((lb.length : Nat) : Int)) = true := by simp; omega
    have HD : Hid (decide (la = lb) = false) := decide_eq_false (fun e => hn (by rw [e]))
    go_enter Tryz.func7, Tryz.ntmps7
    go_wp2
    go_ret
    exact ⟨by rw [HD.out]; rfl, Fr.refl _ _⟩
end Go.Proofs.YtebbgpnhkpbefaaGreatDoor
