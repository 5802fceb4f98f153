/- The document's reader: Fixed. -/
import Derived.Test.YtebbgpnhkpbefaaDoorcK1
import Derived.Test.YtebbgpnhkpbefaaDoorcR3
namespace Go.Proofs.YtebbgpnhkpbefaaDoor
open Go.RowKit
set_option linter.unusedVariables false
set_option linter.unusedSimpArgs false

set_option maxRecDepth 100000 in
set_option maxHeartbeats 2000000 in
theorem ffixed_yes (c : Nat) (s : ByteArray) (p n : Nat) (pl : Int) (w : World) (h : Rf w c s p 0 pl) (hp : p + n ≤ s.size) (h1 : 1 ≤ n) (h8 : n ≤ 8) (hs : s.size ≤ maxLen) :
    Calls Tryd.prog 25 #[.pointer (some ⟨c, 0, none⟩), .int .i64 n] w fun e w' => e = .returned (.int .u64 (fxN ((s.data.toList.drop p).take n))) ∧ Rf w' c s ((p + n : Nat) : Int) 0 pl ∧ Fr (fun j => j = c) w w' := by
  have hz := sub_size s p n hp
  have hL := sub_list s p n
  obtain ⟨t, ht⟩ : ∃ t, t = sub s p n := ⟨_, rfl⟩
  have htk := ftake_yes c s p n pl p w h hp hs
  rw [← ht] at hz hL htk
  rw [← hL]
  clear hL ht
  obtain ⟨c0, c1, c2, c3, f1, f2, f3⟩ := h.parts
  have hm1 : ¬ ((n : Int) < 1) := by omega
  have hm8 : ¬ ((8 : Int) < n) := by omega
  go_enter Tryd.func25, Tryd.ntmps25
  go_wp2_with (go_at_call 55; refine htk.mono ?_; rintro e w2 ⟨rfl, h2, hf2⟩)
  clear htk
  go_loop [7, 8] (fun x i => ∃ j : Nat, j ≤ n ∧ i = .int .i64 j ∧ x = .int .u64 (fxN (t.data.toList.take j))) (fun _ i => n - (intOf i).toNat)
  case atStart => exact ⟨0, Nat.zero_le _, rfl, rfl⟩
  case round =>
    obtain ⟨j, hj, rfl, rfl⟩ := hrel
    have hb := fxN_lt (t.data.toList.take j)
    have hl : (t.data.toList.take j).length ≤ j := List.length_take_le _ _
    by_cases hlt : j < n
    · have hp8 : 256 ^ (t.data.toList.take j).length ≤ 256 ^ 7 := Nat.pow_le_pow_right (by omega) (by omega)
      have HS : Hid (fxN (t.data.toList.take (j + 1)) = fxN (t.data.toList.take j) * 256 + (t[j]'(by omega)).toNat) := by
        unfold Hid; rw [take_snoc t j (by omega), fxN_snoc]
      have hlt' : (j : Int) < t.size := by omega
      have hc := (t[j]'(by omega)).toNat_lt
      have HZ : Hid (t.size = n) := hz
      go_wp2
      go_round
      case rel =>
        refine ⟨j + 1, by omega, by go_num, ?_⟩
        rw [HS.out]
        congr 1
      case measure => simp [intOf]; omega
    · have hge : ¬ ((j : Int) < t.size) := by omega
      obtain rfl : j = n := by omega
      go_wp2
      go_ret
      exact ⟨by rw [List.take_of_length_le (by have : t.data.size = t.size := rfl; simp; omega)]; rfl, h2, hf2⟩
end Go.Proofs.YtebbgpnhkpbefaaDoor
