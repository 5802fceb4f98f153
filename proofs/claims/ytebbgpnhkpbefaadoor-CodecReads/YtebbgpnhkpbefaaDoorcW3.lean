/- A number of a width is put. -/
import Derived.Test.YtebbgpnhkpbefaaDoorcW2
import Derived.Test.YtebbgpnhkpbefaaDoorcR4
namespace Go.Proofs.YtebbgpnhkpbefaaDoor
open Go.RowKit Go.Lib
set_option linter.unusedVariables false
set_option linter.unusedSimpArgs false

theorem pow256 (d : Nat) : (256 : Nat) ^ d = 2 ^ (8 * d) := by rw [show (256 : Nat) = 2 ^ 8 from rfl, ← Nat.pow_mul]
theorem left8 (d : Nat) (w : World) (hd : d < 8) :
    Calls Tryd.prog 68 #[.int .u64 1, .int .i64 (8 * (d : Int))] w fun e w' => e = .returned (.tuple #[.int .u64 ((256 ^ d : Nat) : Int), .bool true]) ∧ w' = w := by
  have hp : (256 : Nat) ^ d ≤ 256 ^ 7 := Nat.pow_le_pow_right (by omega) (by omega)
  have h0 : 0 < (256 : Nat) ^ d := Nat.pow_pos (by omega)
  have e1 : (2 : Int) ^ (8 * d) = ((256 ^ d : Nat) : Int) := by rw [pow256]; push_cast; rfl
  have hw : IntKind.u64.wrap ((2 : Int) ^ (8 * d)) = 2 ^ (8 * d) := by rw [e1, IntKind.wrap_u64]; omega
  have hq : (2 : Int) ^ (8 * d) / 2 ^ (8 * d) = 1 := by rw [e1]; exact Int.ediv_self (by omega)
  have E1 : Hid ((2 : Int) ^ (8 * d) = ((256 ^ d : Nat) : Int)) := e1
  clear e1 hp h0
  go_enter Tryd.func68, Tryd.ntmps68
  go_wp2
  go_ret2
  exact ⟨ret_vn (hw.trans E1.out), rfl⟩
theorem left64 (w : World) :
    Calls Tryd.prog 68 #[.int .u64 1, .int .i64 64] w fun e w' => e = .returned (.tuple #[.int .u64 0, .bool false]) ∧ w' = w := by
  go_enter Tryd.func68, Tryd.ntmps68
  go_wp2
  go_ret2
  exact ⟨rfl, rfl⟩
theorem fits_any (n width : Nat) (w : World) (hn : n < 18446744073709551616) (h1 : 1 ≤ width) (h8 : width ≤ 8) :
    Calls Tryd.prog 59 #[.int .u64 n, .int .i64 width] w fun e w' => e = .returned (.bool (decide (n < 256 ^ width))) ∧ w' = w := by
  by_cases h : width = 8
  · subst h
    have hd : decide (n < 256 ^ 8) = true := decide_eq_true (by omega)
    rw [hd]
    go_enter Tryd.func59, Tryd.ntmps59
    go_wp2_with (go_at_call 68; refine (left64 _).mono ?_; rintro e w' ⟨rfl, rfl⟩)
    go_ret
    exact ⟨rfl, rfl⟩
  · obtain ⟨X, hX⟩ : ∃ X, X = 256 ^ width := ⟨_, rfl⟩
    have hl := left8 width w (by omega)
    rw [← hX] at hl ⊢
    clear hX
    go_enter Tryd.func59, Tryd.ntmps59
    go_wp2_with (go_at_call 68; refine hl.mono ?_; rintro e w' ⟨rfl, rfl⟩)
    go_ret
    refine ⟨?_, rfl⟩
    congr 2
theorem fix_shift (n k : Nat) (hk : k ≤ 7) : Op.shift .shr .u64 (n : Int) .i64 (IntKind.i64.wrap (8 * (k : Int))) = pure (.int .u64 ((n / 256 ^ k : Nat) : Int)) := by
  have e1 : IntKind.i64.wrap (8 * (k : Int)) = 8 * (k : Int) := by rw [IntKind.wrap_i64]; omega
  rw [e1, shift_shr_u64 _ _ _ (by omega) (by omega), show (8 * (k : Int)).toNat = 8 * k by omega, pow256]
  push_cast
  rfl
theorem fix_byte (n k : Nat) : (Value.int .u8 (IntKind.u8.wrap ((n : Int) / 256 ^ k))) = .int .u8 ((UInt8.ofNat (n / 256 ^ k)).toNat : Nat) := by
  have e1 : ((n : Int) / 256 ^ k) = ((n / 256 ^ k : Nat) : Int) := by rw [Int.natCast_ediv, Int.natCast_pow]; rfl
  rw [e1, UInt8.toNat_ofNat']
  generalize n / 256 ^ k = m
  congr 1
/-- A number in so many bytes, the highest first. -/
def fixB : Nat → Nat → List UInt8
  | 0, _ => []
  | k + 1, n => UInt8.ofNat (n / 256 ^ k) :: fixB k n

set_option maxRecDepth 100000 in
set_option maxHeartbeats 1000000 in
theorem wfixed_yes (b : Nat) (v : Value) (l : List UInt8) (n width : Nat) (w : World) (h : Wr w b v l) (hn : n < 18446744073709551616) (h1 : 1 ≤ width) (h8 : width ≤ 8) (hf : n < 256 ^ width) (hl : l.length ≤ 1000000000000) :
    Calls Tryd.prog 36 #[.pointer (some ⟨b, 0, none⟩), .int .u64 n, .int .i64 width] w fun e w' => e = .returned .nilIface ∧ ∃ v', Wr w' b v' (l ++ fixB width n) ∧ Fr (WS b) w w' := by
  have h0 := (cell_of h.blk 0).trans (show _ = some (Value.bool true) from rfl)
  obtain ⟨i0, hi, hz0, hz1, hz2⟩ := info_parts8
  have hfd : decide (n < 256 ^ width) = true := decide_eq_true hf
  have hfits := fits_any n width w hn h1 h8
  rw [hfd] at hfits
  clear hfd
  go_enter Tryd.func36, Tryd.ntmps36
  go_wp2_with (first
    | (go_at_call 58; refine (there_yes b _ h0).mono ?_; rintro e w' ⟨rfl, rfl⟩)
    | (go_at_call 48; refine (mayBe_yes width _ (by omega) (by omega)).mono ?_; rintro e w' ⟨rfl, rfl⟩)
    | (go_at_call 59; refine hfits.mono ?_; rintro e w' ⟨rfl, rfl⟩))
  go_loopw [7] (fun i w1 => ∃ (k : Nat) (v1 : Value) (l1 : List UInt8), i = .int .i64 ((k : Int) - 1) ∧ k ≤ width ∧ Wr w1 b v1 l1 ∧ l1 ++ fixB k n = l ++ fixB width n ∧ l1.length + k = l.length + width ∧ Fr (WS b) w' w1) (fun i _ => (RowKit.intOf i + 1).toNat)
  case atStart => exact ⟨width, v, l, by go_num, Nat.le_refl _, h, rfl, rfl, Fr.refl _ _⟩
  case round =>
    obtain ⟨k, v1, l1, rfl, hk, hw1, hll, hlen, hf1⟩ := hrel
    have HL : Hid (l1 ++ fixB k n = l ++ fixB width n) := hll
    clear hll
    have c1 := (cell_of hw1.blk 1).trans (show _ = some v1 from rfl)
    have hsz := heap_lt hw1.blk
    rcases k with _ | k
    · go_wp2
      go_ret
      exact ⟨rfl, v1, by rw [← HL.out]; simpa [fixB] using hw1, hf1⟩
    · have hge : 0 ≤ ((k + 1 : Nat) : Int) - 1 := by omega
      have hk7 : k ≤ 7 := by omega
      have hsh := fix_shift n k hk7
      go_wp2
      go_region_law (refine step_append_own rfl _ _ 53 rfl (b + 1) 5 i0 (.int .u8 0) 1 1 Tryd.underlying53 hi hz0 hz1 hz2 rfl (by decide) _ _ _ rfl (hw1.own.alloc _) ⟨wr.heap.size, 0, none⟩ 1 1 [.int .u8 _] rfl rfl (one_new _ _ _) (by simp [Value.oneCell']) (by unfold maxLen; omega) (by omega) (by simp; omega) ?_; intro v' w2 hown' hgrow; obtain ⟨ga, gk, gc, rfl⟩ := ownsRow_form hown'; obtain ⟨hq1, hq2⟩ := hw1.at1 (((Fr.refl _ wr).alloc _).drew) hgrow)
      all_goals try go_wp2
      all_goals
        go_roundw
        case rel =>
          have e8 := fix_byte n k
          rw [e8] at hown'
          obtain ⟨hw2, hfr⟩ := hw1.put (xs := [UInt8.ofNat (n / 256 ^ k)]) (((Fr.refl _ wr).alloc _).drew) hown' rfl hgrow
          refine ⟨k, _, _, by go_num, by omega, hw2, by rw [List.append_assoc, ← HL.out]; rfl, by simp; omega, hf1.trans hfr (fun _ _ q => q)⟩
        case measure => simp [RowKit.intOf]
end Go.Proofs.YtebbgpnhkpbefaaDoor
