/- What Read answers. -/
import Derived.Test.YtambfmohhflimabDoorS2
import Derived.Lib.OthersKept
namespace Go.Proofs.YtambfmohhflimabDoor
open Go.RowKit
set_option linter.unusedVariables false
set_option linter.unusedSimpArgs false

/-- What a letter is worth. -/
def wo (c : Nat) : Option Nat := if 48 ≤ c ∧ c ≤ 57 then some (c - 48) else if 97 ≤ c ∧ c ≤ 102 then some (c - 87) else none
theorem wo_lt (c x : Nat) (h : wo c = some x) : x < 16 := by
  unfold wo at h
  split at h
  · cases h; omega
  · split at h
    · cases h; omega
    · cases h
theorem wo_hi (c : Nat) (h : 128 ≤ c) : wo c = none := by unfold wo; rw [if_neg (by omega), if_neg (by omega)]
/-- What the letter at place k is worth. -/
def vk (L : List UInt8) (k : Nat) : Nat := (wo (L.getD k 0).toNat).getD 0
theorem vk_lt (L : List UInt8) (k : Nat) : vk L k < 16 := by
  unfold vk
  rcases h : wo (L.getD k 0).toNat with _ | x
  · decide
  · exact wo_lt _ _ h
/-- A text goes wrong at place p. -/
def Bad (L : List UInt8) (p : Nat) : Prop := (∀ i, i < p → i < 64 ∧ i < L.length ∧ (wo (L.getD i 0).toNat).isSome = true) ∧ ((p < 64 ∧ (L.length ≤ p ∨ wo (L.getD p 0).toNat = none)) ∨ (p = 64 ∧ 64 < L.length))
/-- A text is a hash. -/
def Good (L : List UInt8) : Prop := L.length = 64 ∧ ∀ i, i < 64 → (wo (L.getD i 0).toNat).isSome = true
theorem bad_from (L : List UInt8) : ∀ n k, k + n = 64 → (∀ i, i < k → i < 64 ∧ i < L.length ∧ (wo (L.getD i 0).toNat).isSome = true) → Good L ∨ ∃ p, Bad L p
  | 0, k, hk, h => by
    have hk64 : k = 64 := by omega
    subst hk64
    have hlen : 64 ≤ L.length := by have := h 63 (by omega); omega
    rcases Nat.lt_or_ge 64 L.length with h1 | h1
    · exact .inr ⟨64, h, .inr ⟨rfl, h1⟩⟩
    · exact .inl ⟨by omega, fun i hi => (h i hi).2.2⟩
  | n + 1, k, hk, h => by
    rcases Nat.lt_or_ge k L.length with h1 | h1
    · rcases hw : wo (L.getD k 0).toNat with _ | x
      · exact .inr ⟨k, h, .inl ⟨by omega, .inr hw⟩⟩
      · refine bad_from L n (k + 1) (by omega) (fun i hi => ?_)
        rcases Nat.lt_or_ge i k with h2 | h2
        · exact h i h2
        · have : i = k := by omega
          subst this
          exact ⟨by omega, h1, by rw [hw]; rfl⟩
    · exact .inr ⟨k, h, .inl ⟨by omega, .inl h1⟩⟩
theorem good_or_bad (L : List UInt8) : Good L ∨ ∃ p, Bad L p := bad_from L 64 0 rfl (fun i hi => by omega)
theorem bad_le (L : List UInt8) (p : Nat) (h : Bad L p) : p ≤ 64 ∧ p ≤ L.length := by
  rcases h.2 with ⟨h1, h2⟩ | ⟨h1, h2⟩
  · refine ⟨by omega, ?_⟩
    rcases Nat.eq_zero_or_pos p with h0 | h0
    · omega
    · have := h.1 (p - 1) (by omega); omega
  · omega
/-- The hash's bytes, as far as k letters go. -/
def hp (L : List UInt8) (k i : Nat) : Nat := if 2 * i + 1 < k then 16 * vk L (2 * i) + vk L (2 * i + 1) else if 2 * i < k then vk L (2 * i) else 0
theorem hp_lt (L : List UInt8) (k i : Nat) : hp L k i < 256 := by
  have h1 := vk_lt L (2 * i)
  have h2 := vk_lt L (2 * i + 1)
  unfold hp
  split
  · omega
  · split <;> omega
def hpc (L : List UInt8) (k : Nat) : Array Value := Array.ofFn (n := 32) fun i => .int .u8 ((hp L k i.val : Nat) : Int)
theorem hpc_size (L : List UInt8) (k : Nat) : (hpc L k).size = 32 := by simp [hpc]
theorem hpc_get (L : List UInt8) (k i : Nat) (h : i < 32) : (hpc L k)[i]? = some (.int .u8 ((hp L k i : Nat) : Int)) := by rw [hpc, Array.getElem?_ofFn, dif_pos h]
theorem hpc_0 (L : List UInt8) : hpc L 0 = z32 := by
  apply Array.ext
  · simp [hpc, z32]
  · intro i h1 h2
    simp [hpc, z32, hp]
theorem hpc_set (L : List UInt8) (k : Nat) (hk : k < 64) (x : Int) (hx : x = ((hp L k (k / 2) * 16 + vk L k : Nat) : Int)) : (hpc L k).setIfInBounds (k / 2) (.int .u8 x) = hpc L (k + 1) := by
  subst hx
  apply Array.ext
  · simp [hpc]
  · intro i h1 h2
    rw [Array.getElem_setIfInBounds (by simpa using h1)]
    simp only [hpc, Array.getElem_ofFn]
    by_cases h : k / 2 = i
    · rw [if_pos h]
      congr 2
      subst h
      unfold hp
      rcases Nat.mod_two_eq_zero_or_one k with hm | hm
      · rw [if_neg (show ¬ 2 * (k / 2) + 1 < k by omega), if_neg (show ¬ 2 * (k / 2) < k by omega), if_neg (show ¬ 2 * (k / 2) + 1 < k + 1 by omega), if_pos (show 2 * (k / 2) < k + 1 by omega), show 2 * (k / 2) = k by omega]
        omega
      · rw [if_neg (show ¬ 2 * (k / 2) + 1 < k by omega), if_pos (show 2 * (k / 2) < k by omega), if_pos (show 2 * (k / 2) + 1 < k + 1 by omega), show 2 * (k / 2) + 1 = k by omega]
        omega
    · rw [if_neg h]
      congr 2
      unfold hp
      have e1 : (2 * i + 1 < k + 1) = (2 * i + 1 < k) := by apply propext; omega
      have e2 : (2 * i < k + 1) = (2 * i < k) := by apply propext; omega
      simp only [e1, e2]
theorem hpc_one (L : List UInt8) (k : Nat) : ∀ u ∈ (hpc L k).toList, u.oneCell' = true := by
  intro u hu
  have hu2 : u ∈ hpc L k := by simpa using hu
  obtain ⟨i, hi, rfl⟩ := Array.mem_iff_getElem.1 hu2
  simp [hpc, Value.oneCell']
/-- The hash of a text. -/
def rdh (L : List UInt8) : List UInt8 := (List.range 32).map fun i => UInt8.ofNat (hp L 64 i)
theorem rdh_len (L : List UInt8) : (rdh L).length = 32 := by simp [rdh]
theorem hpc_64 (L : List UInt8) : hpc L 64 = hbs (rdh L) := by
  apply Array.ext
  · rw [hpc_size, hbs_size, rdh_len]
  · intro i h1 h2
    have h3 := hp_lt L 64 i
    simp [hpc, hbs, bc, rdh, Nat.mod_eq_of_lt h3]

set_option maxRecDepth 100000 in
set_option maxHeartbeats 1000000 in
theorem half_any (r : Nat) (hr : r ≤ 2147483647) (w : World) :
    Calls Tryd.prog 19 #[.int .i32 (r : Int)] w fun e w' => e = .returned (.tuple #[.int .u8 (((wo r).getD 0 : Nat) : Int), .bool (wo r).isSome]) ∧ w' = w := by
  by_cases h1 : 48 ≤ r ∧ r ≤ 57
  · have e : wo r = some (r - 48) := by unfold wo; rw [if_pos h1]
    rw [e]
    have i1 : (r : Int) ≥ 48 := by omega
    have i2 : (r : Int) ≤ 57 := by omega
    have HX : Hid (((r - 48 : Nat) : Int) = ((r : Int) - 48)) := by unfold Hid; omega
    show Calls Tryd.prog 19 #[.int .i32 (r : Int)] w fun e w' => e = .returned (.tuple #[.int .u8 ((r - 48 : Nat) : Int), .bool true]) ∧ w' = w
    rw [HX.out]
    clear e h1 HX
    go_enter Tryd.func19, Tryd.ntmps19
    go_wp2
    exact bodyPost_ret (v := .tuple #[.int .u8 (((r : Int) - 48)), .bool true]) (by simp [results, Tryd.results19, go_sem]) rfl ⟨rfl, rfl⟩
  · by_cases h2 : 97 ≤ r ∧ r ≤ 102
    · have e : wo r = some (r - 87) := by unfold wo; rw [if_neg h1, if_pos h2]
      rw [e]
      have i1 : (r : Int) ≥ 48 := by omega
      have i2 : ¬ (r : Int) ≤ 57 := by omega
      have i3 : (r : Int) ≥ 97 := by omega
      have i4 : (r : Int) ≤ 102 := by omega
      have HX : Hid (((r - 87 : Nat) : Int) = ((r : Int) - 97 + 10)) := by unfold Hid; omega
      show Calls Tryd.prog 19 #[.int .i32 (r : Int)] w fun e w' => e = .returned (.tuple #[.int .u8 ((r - 87 : Nat) : Int), .bool true]) ∧ w' = w
      rw [HX.out]
      clear e h1 h2 HX
      go_enter Tryd.func19, Tryd.ntmps19
      go_wp2
      exact bodyPost_ret (v := .tuple #[.int .u8 (((r : Int) - 97 + 10)), .bool true]) (by simp [results, Tryd.results19, go_sem]) rfl ⟨rfl, rfl⟩
    · have e : wo r = none := by unfold wo; rw [if_neg h1, if_neg h2]
      rw [e]
      have d1 : decide ((r : Int) ≥ 48) = false ∨ (decide ((r : Int) ≥ 48) = true ∧ decide ((r : Int) ≤ 57) = false) := by
        by_cases h : 48 ≤ r
        · exact .inr ⟨by simp; omega, by simp; omega⟩
        · exact .inl (by simp; omega)
      have d2 : decide ((r : Int) ≥ 97) = false ∨ (decide ((r : Int) ≥ 97) = true ∧ decide ((r : Int) ≤ 102) = false) := by
        by_cases h : 97 ≤ r
        · exact .inr ⟨by simp; omega, by simp; omega⟩
        · exact .inl (by simp; omega)
      clear h1 h2 e
      rcases d1 with d1 | ⟨d1, d1'⟩ <;> rcases d2 with d2 | ⟨d2, d2'⟩
      all_goals
        go_enter Tryd.func19, Tryd.ntmps19
        go_wp2
        exact bodyPost_ret (v := .tuple #[.int .u8 0, .bool false]) (by simp [results, Tryd.results19, go_sem]) rfl ⟨rfl, rfl⟩
theorem hwrong_any {B : Nat} {w : World} {a : Nat → Addr} (hS : Sent B w a) (q : Int) :
    Calls Tryd.prog 20 #[.int .i64 q] w fun e w' => ∃ v, e = .returned v ∧ EV w' a v 3 (some q) ∧ Nw w w' := by
  have hc := hS.c2
  go_enter Tryd.func20, Tryd.ntmps20
  go_wp2
  go_ret
  refine ⟨_, rfl, .inr (.inr ⟨2, w.heap.size, q, by omega, rfl, ⟨?_, ?_⟩, rfl, rfl⟩), (Fr.refl _ _).alloc _⟩
  · rw [cell_of (heap_alloc_new w _)]; rfl
  · rw [cell_of (heap_alloc_new w _)]; rfl
end Go.Proofs.YtambfmohhflimabDoor
