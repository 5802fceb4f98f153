/- tile: the document's May, threes, Name, Path. -/
import Derived.Test.YtgobdjdaehlgdaaGreatDoorDa
import Derived.Test.YtgobdjdaehlgdaaGreatDoorUf
import Derived.Test.YtgobdjdaehlgdaaGreatDoorUz
namespace Go.Proofs.YtgobdjdaehlgdaaGreatDoor
open Go.RowKit
open Go.Lib (decDigits nDigits)
set_option linter.unusedVariables false
set_option linter.unusedSimpArgs false
theorem mayT_doc (L I : Nat) (W : Int) : mayT L I W ↔ (L ≤ 7 ∧ 1 ≤ W ∧ W ≤ 256 ∧ I ≤ 36028797018963968) ∧ (256 * I + W.toNat) * 2 ^ (8 * L) ≤ 9223372036854775808 := by
  by_cases hL : L ≤ 7
  · have hn := nod8_top L hL
    have hp : 2 ^ (63 - 8 * L) * 2 ^ (8 * L) = 9223372036854775808 := by rw [← Nat.pow_add, show 63 - 8 * L + 8 * L = 63 by omega]
    have h0 : 0 < 2 ^ (8 * L) := Nat.pow_pos (by decide)
    have hle : (256 * I + W.toNat) * 2 ^ (8 * L) ≤ 9223372036854775808 ↔ 256 * I + W.toNat ≤ 2 ^ (63 - 8 * L) := by
      rw [← hp]
      exact ⟨fun h => Nat.le_of_mul_le_mul_right h h0, fun h => Nat.mul_le_mul_right _ h⟩
    have hb : 2 ^ (63 - 8 * L) ≤ 9223372036854775808 := by rw [← hp]; exact Nat.le_mul_of_pos_right _ h0
    rw [hle]
    unfold mayT wid
    rw [if_neg (by omega), hn]
    generalize 2 ^ (63 - 8 * L) = X at *
    omega
  · constructor
    · intro h
      exfalso
      unfold mayT wid at h
      rw [if_pos (by omega)] at h
      have := h.1
      have := h.2
      omega
    · intro h; exact absurd h.1.1 hL
set_option maxHeartbeats 1000000 in
theorem fits_big (n k : Nat) (hn : 9223372036854775808 < n) (hn2 : n < 18446744073709551616) (w : World) :
    Calls Tryz.prog 127 #[.int .u64 (n : Int), .int .u64 (k : Int)] w fun e w' => e = .returned (.bool false) ∧ w' = w := by
  have hbi : (4611686018427387904 : Int) < (n : Int) := by omega
  have hmi : ¬ (n : Int) ≤ 9223372036854775808 := by omega
  go_enter Tryz.func127, Tryz.ntmps127
  go_wp2
  go_loop [0, 5] (fun s i => s = .int .u64 (n : Int) ∧ i = .int .u64 0) (fun _ i => 0)
  case atStart => exact ⟨rfl, rfl⟩
  case round =>
    obtain ⟨rfl, rfl⟩ := hrel
    by_cases hk : 0 < k
    · have hki : (0 : Int) < (k : Int) := by omega
      go_wp2
      go_ret
      exact ⟨rfl, rfl⟩
    · have hki : ¬ (0 : Int) < (k : Int) := by omega
      go_wp2
      go_ret
      exact ⟨by simp [hmi], rfl⟩
set_option maxHeartbeats 1000000 in
theorem rmay_any (L I : Nat) (W : Int) (hL : L ≤ 255) (hI : I < 18446744073709551616) (b : Bool) (hb : b = true ↔ mayT L I W) (w : World) :
    Calls Tryz.prog 83 #[.agg #[.int .u8 (L : Int), .int .u64 (I : Int), .int .i64 W]] w fun e w' => e = .returned (.bool b) ∧ Nw w w' := by
  rw [mayT_doc] at hb
  have HB : Hid (b = true ↔ (L ≤ 7 ∧ 1 ≤ W ∧ W ≤ 256 ∧ I ≤ 36028797018963968) ∧ (256 * I + W.toNat) * 2 ^ (8 * L) ≤ 9223372036854775808) := hb
  clear hb
  have hf : ¬ (L ≤ 7 ∧ 1 ≤ W ∧ W ≤ 256 ∧ I ≤ 36028797018963968) → b = false := fun h => by
    cases b with
    | false => rfl
    | true => exact absurd (HB.out.1 rfl).1 h
  by_cases h7 : L ≤ 7
  · have h7i : ¬ (7 : Int) < (L : Int) := by omega
    by_cases h1 : 1 ≤ W
    · have h1i : ¬ W < 1 := by omega
      by_cases h2 : W ≤ 256
      · have h2i : ¬ 256 < W := by omega
        by_cases h3 : I ≤ 36028797018963968
        · have h3i : ¬ (36028797018963968 : Int) < (I : Int) := by omega
          obtain ⟨k, rfl⟩ : ∃ k : Nat, W = (k : Int) := ⟨W.toNat, by omega⟩
          by_cases h4 : 256 * I + k ≤ 9223372036854775808
          · have q := fits_any (256 * I + k) (8 * L) h4 (by omega) b (by rw [HB.out]; simp only [Int.toNat_natCast]; exact ⟨fun h => h.2, fun h => ⟨⟨h7, h1, h2, h3⟩, h⟩⟩)
            rw [show ((256 * I + k : Nat) : Int) = 256 * (I : Int) + (k : Int) by omega, show ((8 * L : Nat) : Int) = 8 * (L : Int) by omega] at q
            have h4i : 256 * (I : Int) + (k : Int) ≤ 9223372036854775808 := by omega
            clear hf
            go_enter Tryz.func83, Tryz.ntmps83
            go_wp2_with fail
            refine (q _).mono ?_
            rintro e w1 ⟨rfl, rfl⟩
            go_wp2
            go_ret
            exact ⟨rfl, nwa w _⟩
          · have hbf : b = false := by
              cases b with
              | false => rfl
              | true =>
                have h := (HB.out.1 rfl).2
                have h0 : 0 < 2 ^ (8 * L) := Nat.pow_pos (by decide)
                have := Nat.le_mul_of_pos_right (256 * I + k) h0
                simp only [Int.toNat_natCast] at h
                omega
            subst hbf
            clear hf
            have hI55 : I = 36028797018963968 := by omega
            subst hI55
            have q := fits_big (256 * 36028797018963968 + k) (8 * L) (by omega) (by omega)
            rw [show ((256 * 36028797018963968 + k : Nat) : Int) = 9223372036854775808 + (k : Int) by omega, show ((8 * L : Nat) : Int) = 8 * (L : Int) by omega] at q
            go_enter Tryz.func83, Tryz.ntmps83
            go_wp2_with fail
            refine (q _).mono ?_
            rintro e w1 ⟨rfl, rfl⟩
            go_wp2
            go_ret
            exact ⟨rfl, nwa w _⟩
        · have h3i : (36028797018963968 : Int) < (I : Int) := by omega
          obtain rfl := hf (fun h => h3 h.2.2.2)
          clear hf
          go_enter Tryz.func83, Tryz.ntmps83
          go_wp2
          go_ret
          exact ⟨rfl, nwa w _⟩
      · have h2i : 256 < W := by omega
        obtain rfl := hf (fun h => h2 h.2.2.1)
        clear hf
        go_enter Tryz.func83, Tryz.ntmps83
        go_wp2
        go_ret
        exact ⟨rfl, nwa w _⟩
    · have h1i : W < 1 := by omega
      obtain rfl := hf (fun h => h1 h.2.1)
      clear hf
      go_enter Tryz.func83, Tryz.ntmps83
      go_wp2
      go_ret
      exact ⟨rfl, nwa w _⟩
  · have h7i : (7 : Int) < (L : Int) := by omega
    obtain rfl := hf (fun h => h7 h.1)
    clear hf
    go_enter Tryz.func83, Tryz.ntmps83
    go_wp2
    go_ret
    exact ⟨rfl, nwa w _⟩
end Go.Proofs.YtgobdjdaehlgdaaGreatDoor
