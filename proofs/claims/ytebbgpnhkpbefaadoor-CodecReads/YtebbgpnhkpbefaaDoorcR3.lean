/- A number of so many bytes, by what takes bytes. -/
import Derived.Test.YtebbgpnhkpbefaaDoorcR2
namespace Go.Proofs.YtebbgpnhkpbefaaDoor
open Go.RowKit
set_option linter.unusedVariables false
set_option linter.unusedSimpArgs false

/-- Bytes as a number, the highest first. -/
def fxN (l : List UInt8) : Nat := l.foldl (fun n c => n * 256 + c.toNat) 0
theorem fxN_snoc (l : List UInt8) (c : UInt8) : fxN (l ++ [c]) = fxN l * 256 + c.toNat := by simp [fxN]
theorem fxN_aux (l : List UInt8) : ∀ n, l.foldl (fun n c => n * 256 + c.toNat) n < (n + 1) * 256 ^ l.length := by
  induction l with
  | nil => intro n; simp
  | cons c r ih =>
    intro n
    have h1 := ih (n * 256 + c.toNat)
    have h2 := c.toNat_lt
    simp only [List.foldl_cons, List.length_cons, Nat.pow_succ]
    have h3 : (n * 256 + c.toNat + 1) * 256 ^ r.length ≤ ((n + 1) * 256) * 256 ^ r.length := Nat.mul_le_mul_right _ (by omega)
    have h4 : (n + 1) * 256 * 256 ^ r.length = (n + 1) * (256 ^ r.length * 256) := by rw [Nat.mul_assoc, Nat.mul_comm 256]
    omega
theorem fxN_lt (l : List UInt8) : fxN l < 256 ^ l.length := by have := fxN_aux l 0; simpa [fxN] using this
theorem take_snoc (s : ByteArray) (k : Nat) (h : k < s.size) : s.data.toList.take (k + 1) = s.data.toList.take k ++ [s[k]] := by
  rw [List.take_succ_eq_append_getElem (by simpa using h)]; rfl
theorem byteShift (n c : Nat) (hn : n < 72057594037927936) (hc : c < 256) : bits .or .u64 ((n : Int) * 256) (c : Int) = ((n * 256 + c : Nat) : Int) := by
  have e1 : ((n : Int) * 256) = ((n * 256 : Nat) : Int) := by omega
  rw [e1, bits_or_u64_nat _ _ (by omega) (by omega)]
  congr 1
  have := Nat.two_pow_add_eq_or_of_lt (i := 8) (b := c) (by omega) n
  rw [Nat.mul_comm n 256]
  exact this.symm
theorem sub_size (s : ByteArray) (p n : Nat) (h : p + n ≤ s.size) : (sub s p n).size = n := by
  unfold sub; rw [ByteArray.size_extract]; omega
theorem sub_list (s : ByteArray) (p n : Nat) : (sub s p n).data.toList = (s.data.toList.drop p).take n := by
  unfold sub
  rw [ByteArray.data_extract, Array.toList_extract]
  simp only [List.extract]
  rw [show p + n - p = n by omega]

set_option maxRecDepth 100000 in
set_option maxHeartbeats 2000000 in
theorem fixedNumber_yes (b : Nat) (s : ByteArray) (p n : Nat) (a : Int) (f : Value) (w : World) (h : Rd w b s p f a) (hp : p + n ≤ s.size) (hn : n ≤ 8) (hs : s.size ≤ maxLen) :
    Calls Tryd.prog 49 #[.func (.func 50) #[.pointer (some ⟨b, 0, none⟩)] #[], .int .i64 n] w fun e w' => e = .returned (.tuple #[.int .u64 (fxN ((s.data.toList.drop p).take n)), .bool true]) ∧ Rd w' b s ((p + n : Nat) : Int) f a ∧ Fr (fun k => k = b) w w' := by
  have hz := sub_size s p n hp
  have hL := sub_list s p n
  obtain ⟨t, ht⟩ : ∃ t, t = sub s p n := ⟨_, rfl⟩
  have htk := take_yes b s p n a f w h hp hs
  rw [← ht] at hz hL htk
  have HK := htk
  rw [← hL]
  clear hL ht
  go_enter Tryd.func49, Tryd.ntmps49
  go_wp2_with (go_at_call 50; refine htk.mono ?_; rintro e w2 ⟨rfl, h2, hf2⟩)
  clear htk HK
  go_loop [8, 20] (fun x i => ∃ j : Nat, j ≤ n ∧ i = .int .i64 j ∧ x = .int .u64 (fxN (t.data.toList.take j))) (fun _ i => n - (intOf i).toNat)
  case atStart => exact ⟨0, Nat.zero_le _, rfl, rfl⟩
  case round =>
    obtain ⟨j, hj, rfl, rfl⟩ := hrel
    have hb := fxN_lt (t.data.toList.take j)
    have hl : (t.data.toList.take j).length ≤ j := List.length_take_le _ _
    by_cases hlt : j < n
    · have hp8 : 256 ^ (t.data.toList.take j).length ≤ 256 ^ 7 := Nat.pow_le_pow_right (by omega) (by omega)
      have HS : Hid (fxN (t.data.toList.take (j + 1)) = fxN (t.data.toList.take j) * 256 + (t[j]'(by omega)).toNat) := by
        unfold Hid; rw [take_snoc t j (by omega), fxN_snoc]
      have hlt' : (j : Int) < t.size := by omega
      have hc := (t[j]'(by omega)).toNat_lt
      have HZ : Hid (t.size = n) := hz
      go_wp2
      go_round
      case rel =>
        refine ⟨j + 1, by omega, by go_num, ?_⟩
        rw [HS.out]
        rw [byteShift _ _ (by omega) hc]
      case measure => simp [intOf]; omega
    · have hge : ¬ ((j : Int) < t.size) := by omega
      obtain rfl : j = n := by omega
      go_wp2
      go_ret2
      exact ⟨by rw [List.take_of_length_le (by have : t.data.size = t.size := rfl; simp; omega)]; rfl, h2, hf2⟩
theorem fixedNumber_no (b : Nat) (s : ByteArray) (p n : Nat) (a : Int) (f : Value) (w : World) (h : Rd w b s p f a) (hp : s.size < p + n) (hq : p ≤ s.size) (hs : s.size ≤ maxLen) :
    Calls Tryd.prog 49 #[.func (.func 50) #[.pointer (some ⟨b, 0, none⟩)] #[], .int .i64 n] w fun e w' => e = .returned (.tuple #[.int .u64 0, .bool false]) ∧ Rd w' b s p f a ∧ Fr (fun k => k = b) w w' := by
  go_enter Tryd.func49, Tryd.ntmps49
  go_wp2_with (go_at_call 50; refine (take_no b s p n a f w h (by omega) hq hs).mono ?_; rintro e w2 ⟨rfl, h2, hf2⟩)
  go_ret2
  exact ⟨rfl, h2, hf2⟩
end Go.Proofs.YtebbgpnhkpbefaaDoor
