/- The document's own runes, names and plain texts. -/
import Derived.Test.YtdcnoepgnncjoaaDoorA6
import Derived.Test.YtdcnoepgnncjoaaDoorM7
namespace Go.Proofs.YtdcnoepgnncjoaaDoor
open Go.RowKit
set_option linter.unusedVariables false
set_option linter.unusedSimpArgs false

/-- Does the byte at place k go on in UTF-8? -/
def flw (l : List UInt8) (k : Nat) : Bool := decide (k < l.length ∧ 128 ≤ (C l k).toNat ∧ (C l k).toNat ≤ 191)
theorem follows_any (s : ByteArray) (k : Nat) (w : World) (hs : s.size ≤ 9223372036854775807) : Calls Tryd.prog 76 #[.string s, .int .i64 (k : Int)] w fun e w' => e = .returned (.bool (flw s.data.toList k)) ∧ w' = w := by
  have hlen : s.data.toList.length = s.size := by rw [Array.length_toList]; rfl
  by_cases hk : k < s.size
  · have hck := C_get s k hk
    have hf : Hid (flw s.data.toList k = decide (128 ≤ (C s.data.toList k).toNat ∧ (C s.data.toList k).toNat ≤ 191)) := by
      unfold Hid flw
      rw [hlen]; simp [hk]
    generalize C s.data.toList k = c at hck hf
    by_cases h1 : (128 : Int) ≤ (c.toNat : Int)
    · by_cases h2 : (c.toNat : Int) ≤ 191
      · go_enter Tryd.func76, Tryd.ntmps76
        go_wp2
        go_ret
        exact ⟨by rw [hf.out, decide_eq_true ⟨by omega, by omega⟩]; rfl, rfl⟩
      · go_enter Tryd.func76, Tryd.ntmps76
        go_wp2
        go_ret
        exact ⟨by rw [hf.out, decide_eq_false (fun h => by omega)]; rfl, rfl⟩
    · go_enter Tryd.func76, Tryd.ntmps76
      go_wp2
      go_ret
      exact ⟨by rw [hf.out, decide_eq_false (fun h => by omega)]; rfl, rfl⟩
  · have hf : Hid (flw s.data.toList k = false) := by unfold Hid flw; rw [hlen]; simp [hk]
    have hkz : ¬ (k : Int) < (s.size : Int) := by omega
    go_enter Tryd.func76, Tryd.ntmps76
    go_wp2
    go_ret
    exact ⟨by rw [hf.out]; rfl, rfl⟩
theorem rctl_any (n : Nat) (w : World) (h : n ≤ 1114111) : Calls Tryd.prog 59 #[.int .i32 (n : Int)] w fun e w' => e = .returned (.bool (ctl n)) ∧ w' = w := by
  have e1 : decide ((n : Int) < 32) = decide (n ≤ 31) := decide_eq_decide.2 (by omega)
  have e2 : decide ((127 : Int) ≤ n) = decide (127 ≤ n) := decide_eq_decide.2 (by omega)
  have e3 : decide ((n : Int) ≤ 159) = decide (n ≤ 159) := decide_eq_decide.2 (by omega)
  have hc : Hid (ctl n = (decide ((n : Int) < 32) || (decide ((127 : Int) ≤ n) && decide ((n : Int) ≤ 159)))) := by unfold Hid ctl; rw [e1, e2, e3]
  clear e1 e2 e3
  by_cases c1 : (n : Int) < 32
  all_goals
    by_cases c2 : (127 : Int) ≤ n
    all_goals
      by_cases c3 : (n : Int) ≤ 159
      all_goals
        first
        | (exfalso; omega; done)
        | (go_enter Tryd.func59, Tryd.ntmps59
           go_wp2
           go_ret
           refine ⟨?_, rfl⟩
           rw [hc.out]
           simp [c1, c2, c3])
/-- The blanks in the document's own words. -/
theorem blk_words (n : Nat) : blk n = (((n : Int) == 32) || ((n : Int) == 133) || ((n : Int) == 160) || ((n : Int) == 5760) || (decide ((8192 : Int) ≤ n) && decide ((n : Int) ≤ 8202)) || ((n : Int) == 8232) || ((n : Int) == 8233) || ((n : Int) == 8239) || ((n : Int) == 8287) || ((n : Int) == 12288)) := by
  rw [Bool.eq_iff_iff]
  simp only [blk, List.contains_iff_mem, List.mem_cons, List.not_mem_nil, or_false, Bool.or_eq_true, Bool.and_eq_true, beq_iff_eq, decide_eq_true_eq]
  omega
set_option maxHeartbeats 2000000 in
theorem rblk_any (n : Nat) (w : World) (h : n ≤ 1114111) : Calls Tryd.prog 60 #[.int .i32 (n : Int)] w fun e w' => e = .returned (.bool (blk n)) ∧ w' = w := by
  have hb : Hid (blk n = _) := blk_words n
  go_enter Tryd.func60, Tryd.ntmps60
  go_wp2
  all_goals
    go_ret
    refine ⟨?_, rfl⟩
    rw [hb.out]
    first
    | (simp_all; done)
    | (show Ending.returned (Value.bool _) = Ending.returned (Value.bool _)
       refine congrArg Ending.returned (congrArg Value.bool ?_)
       rw [Bool.eq_iff_iff]
       simp only [Bool.or_eq_true, Bool.and_eq_true, beq_iff_eq, decide_eq_true_eq]
       omega)

end Go.Proofs.YtdcnoepgnncjoaaDoor
