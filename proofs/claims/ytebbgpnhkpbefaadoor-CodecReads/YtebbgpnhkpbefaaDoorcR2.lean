/- A number in groups of seven bits, by what takes bytes. -/
import Derived.Test.YtebbgpnhkpbefaaDoorcR1
import Derived.Laws.Bits64b
import Derived.Laws.BitsAllLaws
namespace Go.Proofs.YtebbgpnhkpbefaaDoor
open Go.RowKit
set_option linter.unusedVariables false
set_option linter.unusedSimpArgs false

/-- The number at the head of some bytes, of which i groups stand ahead; how many bytes it has. -/
def rvGo : Nat → List UInt8 → Option (Nat × Nat)
  | _, [] => none
  | i, c :: r => if (0 < i ∧ c.toNat = 0) ∨ (i = 9 ∧ 1 < c.toNat) then none else if c.toNat < 128 then some (c.toNat, 1) else (rvGo (i + 1) r).map fun x => (c.toNat % 128 + 128 * x.1, x.2 + 1)
theorem rvGo_nil (i : Nat) : rvGo i [] = none := by cases i <;> rfl
theorem rvGo_bad {i : Nat} {c : UInt8} {r : List UInt8} (h : (0 < i ∧ c.toNat = 0) ∨ (i = 9 ∧ 1 < c.toNat)) : rvGo i (c :: r) = none := by rw [rvGo, if_pos h]
theorem rvGo_end {i : Nat} {c : UInt8} {r : List UInt8} (h : ¬ ((0 < i ∧ c.toNat = 0) ∨ (i = 9 ∧ 1 < c.toNat))) (h2 : c.toNat < 128) : rvGo i (c :: r) = some (c.toNat, 1) := by rw [rvGo, if_neg h, if_pos h2]
theorem rvGo_on {i : Nat} {c : UInt8} {r : List UInt8} (h : ¬ ((0 < i ∧ c.toNat = 0) ∨ (i = 9 ∧ 1 < c.toNat))) (h2 : ¬ c.toNat < 128) : rvGo i (c :: r) = (rvGo (i + 1) r).map fun x => (c.toNat % 128 + 128 * x.1, x.2 + 1) := by rw [rvGo, if_neg h, if_neg h2]

theorem sub_one (s : ByteArray) (q : Nat) (c : UInt8) (r : List UInt8) (h : s.data.toList.drop q = c :: r) : sub s q 1 = ⟨#[c]⟩ := by
  have hq : q < s.data.toList.length := by
    rcases Nat.lt_or_ge q s.data.toList.length with h1 | h1
    · exact h1
    · rw [List.drop_eq_nil_of_le h1] at h; cases h
  have hc : s.data.toList[q] = c := by
    rw [List.drop_eq_getElem_cons hq] at h; exact (List.cons.inj h).1
  unfold sub
  apply ByteArray.ext
  rw [ByteArray.data_extract]
  apply Array.ext'
  rw [Array.toList_extract]
  simp only [List.extract]
  rw [show q + 1 - q = 1 by omega, h]
  rfl
theorem drop_size (s : ByteArray) (q : Nat) (c : UInt8) (r : List UInt8) (h : s.data.toList.drop q = c :: r) : q + 1 ≤ s.size ∧ s.data.toList.drop (q + 1) = r := by
  have hl := congrArg List.length h
  rw [List.length_drop] at hl
  simp at hl
  have : s.data.size = s.size := rfl
  refine ⟨by omega, ?_⟩
  rw [← List.drop_drop, h]; rfl
theorem drop_none (s : ByteArray) (q : Nat) (h : s.data.toList.drop q = []) : s.size ≤ q := by
  have hl := congrArg List.length h
  rw [List.length_drop] at hl
  simp at hl
  have : s.data.size = s.size := rfl
  omega

theorem take1_yes (b : Nat) (s : ByteArray) (q : Nat) (c : UInt8) (r : List UInt8) (a : Int) (f : Value) (w : World) (h : Rd w b s q f a) (hd : s.data.toList.drop q = c :: r) (hs : s.size ≤ maxLen) :
    Calls Tryd.prog 50 #[.pointer (some ⟨b, 0, none⟩), .int .i64 1] w fun e w' => e = .returned (.tuple #[.string ⟨#[c]⟩, .bool true]) ∧ Rd w' b s ((q + 1 : Nat) : Int) f a ∧ Fr (fun k => k = b) w w' := by
  have h1 := drop_size s q c r hd
  have := take_yes b s q 1 a f w h h1.1 hs
  rw [sub_one s q c r hd] at this
  exact this

def rvVal (r : Option (Nat × Nat)) : Nat := match r with | some x => x.1 | none => 0

theorem and_u8 (c : Nat) (hc : c < 256) : bits .and .u8 (c : Int) 127 = ((c % 128 : Nat) : Int) := by
  have hx : c &&& 127 = c % 128 := Nat.and_two_pow_sub_one_eq_mod c 7
  rw [show (127 : Int) = ((127 : Nat) : Int) from rfl, u8_and_nat c 127 hc (by decide), hx]
/-- A group is put behind those that are there. -/
theorem group (n i c : Nat) (hi : i ≤ 9) (hn : n < 128 ^ i) (hc : c < 256) (h9 : i = 9 → c ≤ 1) :
    bits .or .u64 (n : Int) (IntKind.u64.wrap (IntKind.u64.wrap (bits .and .u8 (c : Int) 127) * 2 ^ (7 * i))) = ((n + 128 ^ i * (c % 128) : Nat) : Int) := by
  have h128 : (128 : Nat) ^ i = 2 ^ (7 * i) := by rw [show (128 : Nat) = 2 ^ 7 from rfl, ← Nat.pow_mul]
  have hb : 128 ^ i * (c % 128) < 18446744073709551616 ∧ (128 : Nat) ^ i ≤ 9223372036854775808 := by
    rcases Nat.lt_or_ge i 9 with h | h
    · have : (128 : Nat) ^ i ≤ 128 ^ 8 := Nat.pow_le_pow_right (by omega) (by omega)
      have h3 : c % 128 < 128 := Nat.mod_lt _ (by omega)
      have : 128 ^ i * (c % 128) ≤ 128 ^ 8 * 128 := Nat.mul_le_mul this (Nat.le_of_lt h3)
      omega
    · obtain rfl : i = 9 := by omega
      have := h9 rfl
      have h3 : c % 128 ≤ 1 := by omega
      have : 128 ^ 9 * (c % 128) ≤ 128 ^ 9 * 1 := Nat.mul_le_mul (Nat.le_refl _) h3
      omega
  have e1 : IntKind.u64.wrap (IntKind.u64.wrap (bits .and .u8 (c : Int) 127) * 2 ^ (7 * i)) = ((128 ^ i * (c % 128) : Nat) : Int) := by
    rw [and_u8 c hc, IntKind.wrap_u64, IntKind.wrap_u64]
    have e2 : (((c % 128 : Nat) : Int) % 18446744073709551616) = ((c % 128 : Nat) : Int) := by omega
    rw [e2, h128]
    have e3 : ((c % 128 : Nat) : Int) * 2 ^ (7 * i) = ((2 ^ (7 * i) * (c % 128) : Nat) : Int) := by push_cast; exact Int.mul_comm _ _
    rw [e3]
    rw [h128] at hb
    omega
  rw [e1, bits_or_u64_nat _ _ (by omega) hb.1]
  congr 1
  rw [h128] at hn ⊢
  rw [Nat.or_comm, Nat.add_comm]
  exact (Nat.two_pow_add_eq_or_of_lt hn _).symm
theorem group9 (n c : Nat) (hn : n < 128 ^ 9) (hc : c ≤ 1) :
    bits .or .u64 (n : Int) (IntKind.u64.wrap (IntKind.u64.wrap (bits .and .u8 (c : Int) 127) * 9223372036854775808)) = ((n + 128 ^ 9 * (c % 128) : Nat) : Int) := group n 9 c (by omega) hn (by omega) (fun _ => hc)
theorem group0 (n c : Nat) (hn : n < 128 ^ 0) (hc : c < 256) :
    bits .or .u64 (n : Int) (IntKind.u64.wrap (IntKind.u64.wrap (bits .and .u8 (c : Int) 127))) = ((n + 128 ^ 0 * (c % 128) : Nat) : Int) := by
  have h := group n 0 c (by omega) hn hc (by omega)
  rw [show (IntKind.u64.wrap (bits .and .u8 (c : Int) 127)) * 2 ^ (7 * 0) = IntKind.u64.wrap (bits .and .u8 (c : Int) 127) from Int.mul_one _] at h
  exact h
theorem ret_vn {x y : Int} (h : x = y) : Ending.returned (.tuple #[.int .u64 x, .bool true]) = .returned (.tuple #[.int .u64 y, .bool true]) := by rw [h]

set_option maxRecDepth 100000 in
set_option maxHeartbeats 2000000 in
theorem varNumber_any (b : Nat) (s : ByteArray) (p : Nat) (a : Int) (f : Value) (w : World) (h : Rd w b s p f a) (hp : p ≤ s.size) (hs : s.size ≤ maxLen) :
    Calls Tryd.prog 52 #[.func (.func 50) #[.pointer (some ⟨b, 0, none⟩)] #[]] w fun e w' => e = .returned (.tuple #[.int .u64 (rvVal (rvGo 0 (s.data.toList.drop p))), .bool (rvGo 0 (s.data.toList.drop p)).isSome]) ∧ (∃ q : Nat, q ≤ s.size ∧ Rd w' b s q f a ∧ ∀ v k, rvGo 0 (s.data.toList.drop p) = some (v, k) → q = p + k) ∧ Fr (fun k => k = b) w w' := by
  go_enter Tryd.func52, Tryd.ntmps52
  go_wp2
  go_loopw [4, 5] (fun n i w1 => ∃ (m j : Nat), n = .int .u64 m ∧ i = .int .i64 j ∧ j ≤ 9 ∧ m < 128 ^ j ∧ p + j ≤ s.size ∧ Rd w1 b s ((p + j : Nat) : Int) f a ∧ Fr (fun k => k = b) w w1 ∧ rvGo 0 (s.data.toList.drop p) = (rvGo j (s.data.toList.drop (p + j))).map fun x => (m + 128 ^ j * x.1, j + x.2)) (fun _ i _ => (10 - intOf i).toNat)
  case atStart => exact ⟨0, 0, rfl, rfl, by omega, by simp, hp, h, Fr.refl _ _, by cases rvGo 0 (s.data.toList.drop (p + 0)) <;> simp_all⟩
  case round =>
    obtain ⟨m, j, rfl, rfl, hj, hm, hpj, h1, hf, hrel⟩ := hrel
    have HR := hrel
    have HR : Hid (rvGo 0 (s.data.toList.drop p) = (rvGo j (s.data.toList.drop (p + j))).map fun x => (m + 128 ^ j * x.1, j + x.2)) := hrel
    clear hrel
    rcases hd : s.data.toList.drop (p + j) with _ | ⟨c, r⟩
    · have HD : Hid (s.data.toList.drop (p + j) = []) := hd
      have hle := drop_none s _ hd
      clear hd
      have hsm : s.size ≤ 9223372036854775807 := hs
      go_wp2_with (go_at_call 50; refine (take_no b s (p + j) 1 a f _ h1 (by omega) hpj hs).mono ?_; rintro e w2 ⟨rfl, h2, hf2⟩)
      go_ret2
      have e0 : rvGo 0 (s.data.toList.drop p) = none := by rw [HR.out, HD.out, rvGo_nil]; rfl
      exact ⟨by rw [e0]; rfl, ⟨p + j, hpj, h2, fun v k hv => by rw [e0] at hv; cases hv⟩, hf.trans hf2 (fun _ _ q => q)⟩
    · have HD : Hid (s.data.toList.drop (p + j) = c :: r) := hd
      have hds := drop_size s _ _ _ hd
      have HDS : Hid (s.data.toList.drop (p + j + 1) = r) := hds.2
      have hps : p + j + 1 ≤ s.size := hds.1
      clear hd hds
      have hc := c.toNat_lt
      have gt : ∀ (hh : 0 < (⟨#[c]⟩ : ByteArray).size), (⟨#[c]⟩ : ByteArray)[0]'hh = c := fun _ => rfl
      by_cases hbad : (0 < j ∧ c.toNat = 0) ∨ (j = 9 ∧ 1 < c.toNat)
      · have e0 : Hid (rvGo 0 (s.data.toList.drop p) = none) := by unfold Hid; rw [HR.out, HD.out, rvGo_bad hbad]; rfl
        have hb' : (0 < (j : Int) ∧ (c.toNat : Int) = 0) ∨ ((j : Int) = 9 ∧ 1 < (c.toNat : Int)) := by omega
        clear hbad
        rcases hb' with ⟨q1, q2⟩ | ⟨q1, q2⟩
        all_goals
          go_wp2_with (go_at_call 50; refine (take1_yes b s (p + j) c r a f _ h1 HD.out hs).mono ?_; rintro e w2 ⟨rfl, h2, hf2⟩)
          go_ret2
          exact ⟨by rw [e0.out]; rfl, ⟨p + j + 1, hps, h2, fun v k hv => by rw [e0.out] at hv; cases hv⟩, hf.trans hf2 (fun _ _ q => q)⟩
      · by_cases h128 : c.toNat < 128
        · have e1 : Hid (rvGo j (s.data.toList.drop (p + j)) = some (c.toNat, 1)) := by unfold Hid; rw [HD.out, rvGo_end hbad h128]
          have h9 : j = 9 → c.toNat ≤ 1 := by omega
          have e2 : Hid (rvGo 0 (s.data.toList.drop p) = some (m + 128 ^ j * (c.toNat % 128), j + 1)) := by unfold Hid; rw [HR.out, e1.out, Nat.mod_eq_of_lt h128]; rfl
          have q0 : j = 0 ∨ (0 < (j : Int) ∧ ¬ (c.toNat : Int) = 0) := by omega
          by_cases hj9 : j = 9
          · have hc1 : ¬ 1 < (c.toNat : Int) := by have := h9 hj9; omega
            have hcb : ((c.toNat : Int) == 0) = false := by rw [beq_eq_false_iff_ne]; omega
            have hdb : decide (1 < (c.toNat : Int)) = false := by rw [decide_eq_false_iff_not]; exact hc1
            have hc2 : c.toNat ≤ 1 := h9 hj9
            clear hc1
            subst hj9
            clear q0 hbad h9
            go_wp2_with (go_at_call 50; refine (take1_yes b s (p + 9) c r a f _ h1 HD.out hs).mono ?_; rintro e w2 ⟨rfl, h2, hf2⟩)
            go_ret2
            refine ⟨?_, ⟨p + 9 + 1, hps, h2, fun v k hv => by rw [e2.out] at hv; cases hv; omega⟩, hf.trans hf2 (fun _ _ q => q)⟩
            rw [e2.out]
            exact ret_vn (group9 m c.toNat hm hc2)
          · have hj9' : ¬ (j : Int) = 9 := by omega
            rcases q0 with rfl | ⟨q1, q2⟩
            · clear hbad h9
              go_wp2_with (go_at_call 50; refine (take1_yes b s (p + 0) c r a f _ h1 HD.out hs).mono ?_; rintro e w2 ⟨rfl, h2, hf2⟩)
              go_ret2
              refine ⟨?_, ⟨p + 0 + 1, hps, h2, fun v k hv => by rw [e2.out] at hv; cases hv; omega⟩, hf.trans hf2 (fun _ _ q => q)⟩
              rw [e2.out]
              exact ret_vn (group0 m c.toNat hm hc)
            · clear hbad
              go_wp2_with (go_at_call 50; refine (take1_yes b s (p + j) c r a f _ h1 HD.out hs).mono ?_; rintro e w2 ⟨rfl, h2, hf2⟩)
              go_ret2
              refine ⟨?_, ⟨p + j + 1, hps, h2, fun v k hv => by rw [e2.out] at hv; cases hv; omega⟩, hf.trans hf2 (fun _ _ q => q)⟩
              rw [e2.out]
              exact ret_vn (group m j c.toNat hj hm hc h9)
        · have e1 : Hid (rvGo j (s.data.toList.drop (p + j)) = (rvGo (j + 1) r).map fun x => (c.toNat % 128 + 128 * x.1, x.2 + 1)) := by unfold Hid; rw [HD.out, rvGo_on hbad h128]
          have hj8 : j ≤ 8 := by omega
          have hc0 : ¬ (c.toNat : Int) = 0 := by omega
          go_wp2_with (go_at_call 50; refine (take1_yes b s (p + j) c r a f _ h1 HD.out hs).mono ?_; rintro e w2 ⟨rfl, h2, hf2⟩)
          all_goals
            go_roundw
            case rel =>
              refine ⟨m + 128 ^ j * (c.toNat % 128), j + 1, by rw [group m j c.toNat hj hm hc (by omega)], by go_num, by omega, ?_, hps, h2, hf.trans hf2 (fun _ _ q => q), ?_⟩
              · have h3 : c.toNat % 128 < 128 := Nat.mod_lt _ (by omega)
                have h4 : 128 ^ j * (c.toNat % 128) ≤ 128 ^ j * 127 := Nat.mul_le_mul (Nat.le_refl _) (by omega)
                rw [Nat.pow_succ]; omega
              · rw [HR.out, e1.out, show p + (j + 1) = p + j + 1 from rfl, HDS.out]
                cases rvGo (j + 1) r with
                | none => rfl
                | some x => simp [Nat.pow_succ, Nat.mul_add, Nat.mul_assoc, Nat.add_comm, Nat.add_left_comm]
            case measure => simp [intOf]; omega
end Go.Proofs.YtebbgpnhkpbefaaDoor
