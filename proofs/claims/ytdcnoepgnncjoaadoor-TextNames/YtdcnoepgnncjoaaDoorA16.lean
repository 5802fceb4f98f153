/- The document's names and plain texts; the statement TextNames. -/
import Derived.Test.YtdcnoepgnncjoaaDoorA15
import Derived.Test.YtdcnoepgnncjoaaDoorA13
namespace Go.Proofs.YtdcnoepgnncjoaaDoor
open Go.RowKit
set_option linter.unusedVariables false
set_option linter.unusedSimpArgs false

theorem rf_le (l : List UInt8) : (rf l).1 ≤ 1114111 := by
  rw [rf_eq]
  split
  · simp
  · exact Lib.decodeN_rune_le _ _ _ _ _ (UInt8.toNat_lt _)
theorem rf_len (l : List UInt8) (h : l ≠ []) : (rf l).2 ≤ l.length := by
  rw [rf_eq]
  split
  · simp
  · exact dl_len l h
/-- What is asked, rune by rune. -/
def badOf (names : Bool) : Nat → Bool := if names then nob else ctl
set_option maxRecDepth 100000 in
set_option maxHeartbeats 2000000 in
theorem clear_any (names : Bool) (s : ByteArray) (w : World) (hs : s.size ≤ 9223372036854775807) :
    Calls Tryd.prog 45 #[.string s, .bool names, .bool false] w fun e w' => e = .returned (.bool (clr (badOf names) s.data.toList)) ∧ Nw w w' := by
  obtain ⟨R, hR⟩ : ∃ R, R = clr (badOf names) s.data.toList := ⟨_, rfl⟩
  rw [← hR]
  have HR0 : Hid (R = clr (badOf names) s.data.toList) := hR
  clear hR
  go_enter Tryd.func45, Tryd.ntmps45
  go_wp2_with fail
  go_loopw [0] (fun t wr => ∃ tb : ByteArray, t = .string tb ∧ tb.size ≤ s.size ∧ R = clr (badOf names) tb.data.toList ∧ Nw w wr) (fun t _ => szOf t)
  case atStart => exact ⟨s, rfl, Nat.le_refl _, HR0.out, Fr.refl _ _⟩
  case round =>
    obtain ⟨tb, rfl, htb, hcl, hnw⟩ := hrel
    have HCL : Hid (R = clr (badOf names) tb.data.toList) := hcl
    clear hcl
    have htl : tb.data.toList.length = tb.size := by rw [Array.length_toList]; rfl
    by_cases h0 : 0 < tb.size
    · have hne : tb.data.toList ≠ [] := fun e => by rw [e] at htl; simp at htl; omega
      have h0z : (0 : Int) < (tb.size : Int) := by omega
      have hfi := first_any tb wr h0 (by omega)
      have hst : Hid (clr (badOf names) tb.data.toList = if (rf tb.data.toList).2 = 0 then false else if badOf names (rf tb.data.toList).1 then false else clr (badOf names) (tb.data.toList.drop (rf tb.data.toList).2)) := clr_rf (badOf names) _ hne
      have hrl := rf_le tb.data.toList
      have hrn := rf_len tb.data.toList hne
      rcases hrf : rf tb.data.toList with ⟨r, n⟩
      rw [hrf] at hfi hst hrl hrn
      simp only at hfi hrl hrn
      rw [htl] at hrn
      clear hrf
      by_cases hn0 : n = 0
      · subst hn0
        have HR : Hid (R = false) := by unfold Hid; rw [HCL.out, hst.out, if_pos rfl]
        go_wp2_with fail
        refine hfi.mono ?_
        rintro e w1 ⟨rfl, n1⟩
        go_wp2_with fail
        go_ret
        exact ⟨by rw [HR.out]; rfl, hnw.tr n1⟩
      · have hnz : ((n : Int) == 0) = false := by rw [beq_eq_false_iff_ne]; omega
        have hsl : ∀ W, (Instr.slice 9 (.string tb) (some (.int .i64 (n : Int))) none none).run Tryd.prog W = .ok (.string (tb.extract n tb.size)) W := fun W => by
          rw [run_slice_string_from_if _ _ _ _ _ Tryd.underlying9, if_pos (by omega)]; rfl
        have hsz2 : (tb.extract n tb.size).size = tb.size - n := by rw [ByteArray.size_extract]; omega
        have HNX : Hid (badOf names r = false → R = clr (badOf names) (tb.extract n tb.size).data.toList) := fun hb => by
          rw [HCL.out, hst.out, if_neg hn0, if_neg (by rw [hb]; simp), extract_end]
        have HBD : Hid (badOf names r = true → R = false) := fun hb => by rw [HCL.out, hst.out, if_neg hn0, if_pos hb]
        generalize tb.extract n tb.size = nx at hsl hsz2 HNX
        clear hst
        go_wp2_with fail
        refine hfi.mono ?_
        rintro e w1 ⟨rfl, n1⟩
        have qc := rctl_any r w1 hrl
        have qb := rblk_any r w1 hrl
        cases hc : ctl r with
        | true =>
          rw [hc] at qc
          have hb : badOf names r = true := by unfold badOf; cases names <;> simp [nob, hc]
          have HR : Hid (R = false) := HBD.out hb
          go_wp2_with fail
          refine qc.mono ?_
          rintro e w2 ⟨rfl, rfl⟩
          go_wp2_with fail
          go_ret
          exact ⟨by rw [HR.out]; rfl, hnw.tr n1⟩
        | false =>
          rw [hc] at qc
          cases names with
          | false =>
            have HR := HNX.out (by unfold badOf; simp [hc])
            have HR' : Hid _ := HR
            clear HR
            go_wp2_with fail
            refine qc.mono ?_
            rintro e w2 ⟨rfl, rfl⟩
            go_wp2_with fail
            exact ⟨⟨nx, rfl, by omega, HR'.out, hnw.tr n1⟩, by simp [szOf]; omega⟩
          | true =>
            cases hk : blk r with
            | true =>
              rw [hk] at qb
              have HR : Hid (R = false) := HBD.out (by unfold badOf; simp [nob, hk])
              go_wp2_with fail
              refine qc.mono ?_
              rintro e w2 ⟨rfl, rfl⟩
              go_wp2_with fail
              refine qb.mono ?_
              rintro e w3 ⟨rfl, rfl⟩
              go_wp2_with fail
              go_ret
              exact ⟨by rw [HR.out]; rfl, hnw.tr n1⟩
            | false =>
              rw [hk] at qb
              by_cases h43 : r = 43
              · have HR : Hid (R = false) := HBD.out (by unfold badOf; simp [nob, h43])
                have hz : ((r : Int) == 43) = true := by rw [h43]; rfl
                clear h43
                go_wp2_with fail
                refine qc.mono ?_
                rintro e w2 ⟨rfl, rfl⟩
                go_wp2_with fail
                refine qb.mono ?_
                rintro e w3 ⟨rfl, rfl⟩
                go_wp2_with fail
                go_ret
                exact ⟨by rw [HR.out]; rfl, hnw.tr n1⟩
              · have HR := HNX.out (by unfold badOf; simp [nob, hc, hk, h43])
                have HR' : Hid _ := HR
                have hz : ((r : Int) == 43) = false := by rw [beq_eq_false_iff_ne]; omega
                clear HR h43
                go_wp2_with fail
                refine qc.mono ?_
                rintro e w2 ⟨rfl, rfl⟩
                go_wp2_with fail
                refine qb.mono ?_
                rintro e w3 ⟨rfl, rfl⟩
                go_wp2_with fail
                exact ⟨⟨nx, rfl, by omega, HR'.out, hnw.tr n1⟩, by simp [szOf]; omega⟩
    · have h0z : ¬ (0 : Int) < (tb.size : Int) := by omega
      have HR : Hid (R = true) := by
        unfold Hid
        rw [HCL.out, List.eq_nil_of_length_eq_zero (show tb.data.toList.length = 0 by omega)]; rfl
      go_wp2_with fail
      go_ret
      exact ⟨by rw [HR.out]; rfl, hnw⟩
theorem rname_any (s : ByteArray) (w : World) (hs : s.size ≤ 9223372036854775807) : Calls Tryd.prog 23 #[.string s] w fun e w' => e = .returned (.bool (nameB s.data.toList)) ∧ Nw w w' := by
  have hlen : s.data.toList.length = s.size := by rw [Array.length_toList]; rfl
  have q := clear_any true s w hs
  by_cases h1 : 1 ≤ s.size
  · by_cases h2 : s.size ≤ 64
    · have hn : Hid (nameB s.data.toList = clr nob s.data.toList) := by unfold Hid nameB; rw [hlen, decide_eq_true h1, decide_eq_true h2]; rfl
      have z1 : (1 : Int) ≤ s.size := by omega
      have z2 : (s.size : Int) ≤ 64 := by omega
      go_enter Tryd.func23, Tryd.ntmps23
      go_wp2_with fail
      refine q.mono ?_
      rintro e w1 ⟨rfl, n1⟩
      go_wp2_with fail
      go_ret
      exact ⟨by rw [hn.out]; rfl, n1⟩
    · have hn : Hid (nameB s.data.toList = false) := by unfold Hid nameB; rw [hlen, decide_eq_false h2]; simp
      have z1 : (1 : Int) ≤ s.size := by omega
      have z2 : ¬ (s.size : Int) ≤ 64 := by omega
      go_enter Tryd.func23, Tryd.ntmps23
      go_wp2_with fail
      go_ret
      exact ⟨by rw [hn.out]; rfl, Fr.refl _ _⟩
  · have hn : Hid (nameB s.data.toList = false) := by unfold Hid nameB; rw [hlen, decide_eq_false h1]; simp
    have z1 : ¬ (1 : Int) ≤ s.size := by omega
    go_enter Tryd.func23, Tryd.ntmps23
    go_wp2_with fail
    go_ret
    exact ⟨by rw [hn.out]; rfl, Fr.refl _ _⟩
theorem rplain_any (s : ByteArray) (w : World) (hs : s.size ≤ 9223372036854775807) : Calls Tryd.prog 25 #[.string s] w fun e w' => e = .returned (.bool (plainB s.data.toList)) ∧ Nw w w' := by
  have hlen : s.data.toList.length = s.size := by rw [Array.length_toList]; rfl
  have q := clear_any false s w hs
  by_cases h2 : s.size ≤ 4096
  · have hn : Hid (plainB s.data.toList = clr ctl s.data.toList) := by unfold Hid plainB; rw [hlen, decide_eq_true h2]; rfl
    have z2 : (s.size : Int) ≤ 4096 := by omega
    go_enter Tryd.func25, Tryd.ntmps25
    go_wp2_with fail
    refine q.mono ?_
    rintro e w1 ⟨rfl, n1⟩
    go_wp2_with fail
    go_ret
    exact ⟨by rw [hn.out]; rfl, n1⟩
  · have hn : Hid (plainB s.data.toList = false) := by unfold Hid plainB; rw [hlen, decide_eq_false h2]; simp
    have z2 : ¬ (s.size : Int) ≤ 4096 := by omega
    go_enter Tryd.func25, Tryd.ntmps25
    go_wp2_with fail
    go_ret
    exact ⟨by rw [hn.out]; rfl, Fr.refl _ _⟩
set_option maxRecDepth 100000 in
set_option maxHeartbeats 1000000 in
theorem names_any {B : Nat} {w : World} {a : Nat → Addr} (hS : Sent B w a) (hT : Tabs w) (s : ByteArray) (hs : s.size ≤ 9223372036854775807) :
    Calls Tryd.prog 6 #[.string s] w fun e w' => e = .returned (.bool true) ∧ Nw w w' := by
  go_enter Tryd.func6, Tryd.ntmps6
  go_wp2_with fail
  refine (name_txt s w hs hT).mono ?_
  rintro e w1 ⟨rfl, n1⟩
  go_wp2_with fail
  refine (rname_any s w1 hs).mono ?_
  rintro e w2 ⟨rfl, n2⟩
  have f2 : Nw w w2 := n1.tr n2
  generalize nameB s.data.toList = X
  have hX : (X == X) = true := by cases X <;> rfl
  go_wp2_with fail
  refine (plain_txt s w2 hs (hT.fr f2)).mono ?_
  rintro e w3 ⟨rfl, n3⟩
  go_wp2_with fail
  refine (rplain_any s w3 hs).mono ?_
  rintro e w4 ⟨rfl, n4⟩
  have f4 : Nw w w4 := f2.tr (n3.tr n4)
  generalize plainB s.data.toList = Y
  have hY : (Y == Y) = true := by cases Y <;> rfl
  go_wp2_with fail
  refine (alive_any (hS.fr f4 (fun _ _ f => f)) (hT.fr f4)).mono ?_
  rintro e w5 ⟨rfl, n5⟩
  go_wp2_with fail
  go_ret
  exact ⟨rfl, f4.tr n5⟩
end Go.Proofs.YtdcnoepgnncjoaaDoor
