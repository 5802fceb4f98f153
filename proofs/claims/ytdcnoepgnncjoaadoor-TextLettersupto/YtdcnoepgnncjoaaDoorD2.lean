/- Where a text of letters goes wrong, as the document's answer tells it. -/
import Derived.Test.YtdcnoepgnncjoaaDoorD1
import Derived.Test.YtdcnoepgnncjoaaDoorA11
namespace Go.Proofs.YtdcnoepgnncjoaaDoor
open Go.RowKit
set_option linter.unusedVariables false
set_option linter.unusedSimpArgs false

/-- The place where it goes wrong; -1: nowhere. -/
def w64 {α : Type} : Except Nat α → Int
  | .error k => (k : Int)
  | .ok _ => -1
theorem w64_jn (D : List UInt8) (r : Except Nat (List UInt8)) : w64 (jn D r) = w64 r := by cases r <;> rfl
theorem tail_slice (s : ByteArray) (p : Nat) (h : p ≤ s.size) (W : World) : (Instr.slice 9 (.string s) (some (.int .i64 (p : Int))) none none).run Tryd.prog W = .ok (.string (s.extract p s.size)) W := by
  rw [run_slice_string_from_if _ _ _ _ _ Tryd.underlying9, if_pos (by omega)]; rfl
theorem hid_mk {p : Prop} (h : p) : Hid p := h
/-- One group of a text of letters. -/
theorem w64_group (L : List UInt8) (p : Nat) (hp : p < L.length) : (rgt ((L.drop p).take 4) < ((L.drop p).take 4).length → w64 (un64 p false (L.drop p)) = ((p + rgt ((L.drop p).take 4) : Nat) : Int))
    ∧ (¬ rgt ((L.drop p).take 4) < ((L.drop p).take 4).length → ((L.drop p).take 4).length < 4 → w64 (un64 p false (L.drop p)) = (L.length : Int))
    ∧ (¬ rgt ((L.drop p).take 4) < ((L.drop p).take 4).length → ((L.drop p).take 4).length = 4 → (C (L.drop p) 3 = 61 → p + 4 < L.length → w64 (un64 p false (L.drop p)) = ((p + 4 : Nat) : Int)) ∧ (C (L.drop p) 3 = 61 → p + 4 = L.length → w64 (un64 p false (L.drop p)) = -1) ∧ (C (L.drop p) 3 ≠ 61 → w64 (un64 p false (L.drop p)) = w64 (un64 (p + 4) false (L.drop (p + 4))))) := by
  have hne : L.drop p ≠ [] := fun e => by have := congrArg List.length e; simp at this; omega
  have hle := rgt_le ((L.drop p).take 4) (by simp; omega)
  have hl4 : ((L.drop p).take 4).length ≤ 4 := by simp; omega
  refine ⟨fun h => ?_, fun h h2 => ?_, fun h h2 => ?_⟩
  · rw [un64_wrong_at _ p hne (by omega)]; rfl
  · rw [un64_wrong_at _ p hne (by omega)]
    have : ((L.drop p).take 4).length = L.length - p := by simp at h2 ⊢; omega
    show ((p + rgt ((L.drop p).take 4) : Nat) : Int) = _
    omega
  · have hm := un64_more (L.drop p) p (by omega)
    rw [hm.2, w64_jn, List.drop_drop]
    refine ⟨fun h3 h5 => ?_, fun h3 h5 => ?_, fun h3 => ?_⟩
    · rw [show (C (L.drop p) 3 == 61) = true by simp [h3], un64_true _ _ (fun e => by have := congrArg List.length e; simp at this; omega)]; rfl
    · rw [show L.drop (p + 4) = [] from List.drop_of_length_le (by omega), un64_nil]; rfl
    · rw [show (C (L.drop p) 3 == 61) = false by simp [h3]]
theorem C_take4 (l : List UInt8) : C (l.take 4) 3 = C l 3 := by unfold C; rw [List.getD_eq_getElem?_getD, List.getD_eq_getElem?_getD, List.getElem?_take]; simp
theorem w64_end (L : List UInt8) (p : Nat) (e : Bool) (h : L.length ≤ p) : w64 (un64 p e (L.drop p)) = -1 := by rw [List.drop_of_length_le h, un64_nil]; rfl

set_option maxRecDepth 100000 in
set_option maxHeartbeats 1500000 in
theorem refwrong_any (s : ByteArray) (w : World) (hs : s.size ≤ 1048576) :
    Calls Tryd.prog 29 #[.string s] w fun e w' => e = .returned (.int .i64 (w64 (un64 0 false s.data.toList))) ∧ w' = w := by
  obtain ⟨L, hL⟩ : ∃ L, L = s.data.toList := ⟨_, rfl⟩
  have hlen : L.length = s.size := by rw [hL, Array.length_toList]; rfl
  have HL : Hid (L = s.data.toList) := hL
  rw [← hL]
  clear hL
  obtain ⟨R, hR⟩ : ∃ R, R = w64 (un64 0 false L) := ⟨_, rfl⟩
  have HR0 : Hid (R = w64 (un64 0 false L)) := hR
  rw [← hR]
  clear hR
  go_enter Tryd.func29, Tryd.ntmps29
  go_wp2
  go_loop [3] (fun i => ∃ p : Nat, p ≤ s.size ∧ i = .int .i64 p ∧ R = w64 (un64 p false (L.drop p))) (fun i => s.size - (intOf i).toNat)
  case atStart => exact ⟨0, by omega, rfl, HR0.out⟩
  case round =>
    obtain ⟨p, hp, rfl, hrp⟩ := hrel
    have HRP : Hid (R = w64 (un64 p false (L.drop p))) := hrp
    clear hrp
    by_cases hlt : p < s.size
    · have hg := w64_group L p (by omega)
      have HG := hid_mk hg
      clear hg
      have hsl := tail_slice s p hp
      have htl : (s.extract p s.size).data.toList = L.drop p := by rw [HL.out]; exact extract_end s p
      have htz : (s.extract p s.size).size = s.size - p := by rw [ByteArray.size_extract]; omega
      generalize s.extract p s.size = T at hsl htl htz
      by_cases h4 : 4 < s.size - p
      · have h4z : (4 : Int) < (T.size : Int) := by omega
        have hsl2 : ∀ W : World, (Instr.slice 9 (.string T) none (some (.int .i64 4)) none).run Tryd.prog W = .ok (.string (T.extract 0 4)) W := head_slice T 4 (by omega)
        have hgl : (T.extract 0 4).data.toList = (L.drop p).take 4 := by rw [extract_list, htl]; rfl
        have hgz : (T.extract 0 4).size = 4 := by rw [ByteArray.size_extract]; omega
        generalize T.extract 0 4 = g at hsl2 hgl hgz
        have hgg : ((L.drop p).take 4).length = g.size := by rw [← hgl, Array.length_toList]; rfl
        have HGZ : Hid (g.size = 4) := hgz
        clear hgz htz htl
        have hz3 : (3 : Int) < (g.size : Int) := by have := HGZ.out; omega
        have hl3 : 3 < g.size := by omega
        have hn4 : ¬ (g.size : Int) < 4 := by have := HGZ.out; omega
        have hp4z : (p : Int) + 4 < (s.size : Int) := by omega
        have hq := refgroup_any g w (by have := HGZ.out; omega)
        rw [hgl] at hq
        have hrl := rgt_le ((L.drop p).take 4) (by simp; omega)
        rw [hgg] at hrl
        have HGL : Hid (g.data.toList = (L.drop p).take 4) := hgl
        have HGG : Hid (((L.drop p).take 4).length = g.size) := hgg
        clear hgl hgg
        by_cases hK : rgt ((L.drop p).take 4) < g.size
        · have HN : Hid (R = ((p + rgt ((L.drop p).take 4) : Nat) : Int)) := by unfold Hid; rw [HRP.out]; exact HG.out.1 (by rw [HGG.out]; exact hK)
          have hKz : (rgt ((L.drop p).take 4) : Int) < (g.size : Int) := by omega
          have hK4 : (rgt ((L.drop p).take 4) : Int) ≤ 4 := by have := HGZ.out; omega
          generalize rgt ((L.drop p).take 4) = K at hq hrl hK hKz hK4 HN
          go_wp2_with (go_at_call 46; refine hq.mono ?_; rintro e w2 ⟨rfl, rfl⟩)
          go_ret
          exact ⟨by rw [HN.out]; rfl, rfl⟩
        · have hKz : ¬ (rgt ((L.drop p).take 4) : Int) < (g.size : Int) := by omega
          obtain ⟨t1, t2, t3⟩ := HG.out.2.2 (by rw [HGG.out]; exact hK) (by rw [HGG.out]; exact HGZ.out)
          have hc3 : g[3]'hl3 = C (L.drop p) 3 := by rw [C_get g 3 hl3, HGL.out]; exact C_take4 _
          by_cases c61 : C (L.drop p) 3 = 61
          · have HN : Hid (R = ((p + 4 : Nat) : Int)) := by unfold Hid; rw [HRP.out]; exact t1 c61 (by omega)
            have hz := is61e _ c61
            clear t1 t2 t3 c61
            generalize C (L.drop p) 3 = c3 at hc3 hz
            generalize rgt ((L.drop p).take 4) = K at hq hrl hK hKz
            go_wp2_with (go_at_call 46; refine hq.mono ?_; rintro e w2 ⟨rfl, rfl⟩)
            go_ret
            exact ⟨by rw [HN.out]; rfl, rfl⟩
          · have HN : Hid (R = w64 (un64 (p + 4) false (L.drop (p + 4)))) := by unfold Hid; rw [HRP.out]; exact t3 c61
            have hz := no61e _ c61
            clear t1 t2 t3 c61
            generalize C (L.drop p) 3 = c3 at hc3 hz
            generalize rgt ((L.drop p).take 4) = K at hq hrl hK hKz
            go_wp2_with (go_at_call 46; refine hq.mono ?_; rintro e w2 ⟨rfl, rfl⟩)
            exact ⟨⟨p + 4, by omega, by go_num, HN.out⟩, by simp [intOf]; omega⟩
      · have h4z : ¬ (4 : Int) < (T.size : Int) := by omega
        have hgl : T.data.toList = (L.drop p).take 4 := by rw [htl, List.take_of_length_le (by rw [List.length_drop]; omega)]
        have hgg : ((L.drop p).take 4).length = T.size := by rw [← hgl, Array.length_toList]; rfl
        have HTZ : Hid (T.size = s.size - p) := htz
        clear htz htl
        have hp4z : ¬ (p : Int) + 4 < (s.size : Int) := by omega
        generalize T = g at hsl hgl hgg HTZ h4z
        have hq := refgroup_any g w (by have := HTZ.out; omega)
        rw [hgl] at hq
        have hrl := rgt_le ((L.drop p).take 4) (by simp; omega)
        rw [hgg] at hrl
        have HGL : Hid (g.data.toList = (L.drop p).take 4) := hgl
        have HGG : Hid (((L.drop p).take 4).length = g.size) := hgg
        clear hgl hgg
        by_cases hK : rgt ((L.drop p).take 4) < g.size
        · have HN : Hid (R = ((p + rgt ((L.drop p).take 4) : Nat) : Int)) := by unfold Hid; rw [HRP.out]; exact HG.out.1 (by rw [HGG.out]; exact hK)
          have hKz : (rgt ((L.drop p).take 4) : Int) < (g.size : Int) := by omega
          have hK4 : (rgt ((L.drop p).take 4) : Int) ≤ 4 := by have := HTZ.out; omega
          generalize rgt ((L.drop p).take 4) = K at hq hrl hK hKz hK4 HN
          go_wp2_with (go_at_call 46; refine hq.mono ?_; rintro e w2 ⟨rfl, rfl⟩)
          go_ret
          exact ⟨by rw [HN.out]; rfl, rfl⟩
        · have hKz : ¬ (rgt ((L.drop p).take 4) : Int) < (g.size : Int) := by omega
          by_cases hs4 : g.size < 4
          · have hs4z : (g.size : Int) < 4 := by omega
            have HN : Hid (R = (s.size : Int)) := by unfold Hid; rw [HRP.out, HG.out.2.1 (by rw [HGG.out]; exact hK) (by rw [HGG.out]; exact hs4), hlen]
            generalize rgt ((L.drop p).take 4) = K at hq hrl hK hKz
            go_wp2_with (go_at_call 46; refine hq.mono ?_; rintro e w2 ⟨rfl, rfl⟩)
            go_ret
            exact ⟨by rw [HN.out]; rfl, rfl⟩
          · have hs4z : ¬ (g.size : Int) < 4 := by omega
            have hg4 : g.size = 4 := by have := HTZ.out; omega
            have HG4 : Hid (g.size = 4) := hg4
            obtain ⟨t1, t2, t3⟩ := HG.out.2.2 (by rw [HGG.out]; exact hK) (by rw [HGG.out]; exact hg4)
            clear hg4
            have hz3 : (3 : Int) < (g.size : Int) := by omega
            have hl3 : 3 < g.size := by omega
            have hpe : p + 4 = s.size := by have := HTZ.out; have := HG4.out; omega
            have HPE : Hid (p + 4 = s.size) := hpe
            clear hpe
            have hple : p + 4 ≤ s.size := by have := HPE.out; omega
            have hc3 : g[3]'hl3 = C (L.drop p) 3 := by rw [C_get g 3 hl3, HGL.out]; exact C_take4 _
            by_cases c61 : C (L.drop p) 3 = 61
            · have HN : Hid (R = w64 (un64 (p + 4) false (L.drop (p + 4)))) := by unfold Hid; rw [HRP.out, t2 c61 (by rw [hlen]; exact HPE.out), w64_end L _ _ (by rw [hlen]; exact Nat.le_of_eq HPE.out.symm)]
              have hz := is61e _ c61
              clear t1 t2 t3 c61
              generalize C (L.drop p) 3 = c3 at hc3 hz
              generalize rgt ((L.drop p).take 4) = K at hq hrl hK hKz
              go_wp2_with (go_at_call 46; refine hq.mono ?_; rintro e w2 ⟨rfl, rfl⟩)
              exact ⟨⟨p + 4, by omega, by go_num, HN.out⟩, by simp [intOf]; omega⟩
            · have HN : Hid (R = w64 (un64 (p + 4) false (L.drop (p + 4)))) := by unfold Hid; rw [HRP.out]; exact t3 c61
              have hz := no61e _ c61
              clear t1 t2 t3 c61
              generalize C (L.drop p) 3 = c3 at hc3 hz
              generalize rgt ((L.drop p).take 4) = K at hq hrl hK hKz
              go_wp2_with (go_at_call 46; refine hq.mono ?_; rintro e w2 ⟨rfl, rfl⟩)
              exact ⟨⟨p + 4, by omega, by go_num, HN.out⟩, by simp [intOf]; omega⟩
    · obtain rfl : p = s.size := by omega
      have HN : Hid (R = -1) := by unfold Hid; rw [HRP.out]; exact w64_end L _ _ (by omega)
      go_wp2
      go_ret
      exact ⟨by rw [HN.out]; rfl, rfl⟩
end Go.Proofs.YtdcnoepgnncjoaaDoor
