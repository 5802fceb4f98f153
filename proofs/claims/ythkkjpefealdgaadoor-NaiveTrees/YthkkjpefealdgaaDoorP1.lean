/- SHA, as a function of bytes: the words of a round. -/
import Derived.Test.YthkkjpefealdgaaDoorBase
import Derived.Laws.BitsAllLaws
namespace Go.Proofs.YthkkjpefealdgaaDoor
open Go.RowKit
set_option linter.unusedVariables false
set_option linter.unusedSimpArgs false

/-- What the walk shall not use. -/
def Hid (p : Prop) : Prop := p
theorem Hid.out {p : Prop} (h : Hid p) : p := h

/-- Turned right. -/
def rr (x : Nat) (n : Int) : Nat := x / 2 ^ n.toNat ||| x * 2 ^ (32 - n.toNat) % 4294967296
def ad (x y : Nat) : Nat := (x + y) % 4294967296
def xo (x y : Nat) : Nat := x ^^^ y
def an (x y : Nat) : Nat := x &&& y
def no (x : Nat) : Nat := 4294967295 - x
def S1 (e : Nat) : Nat := xo (xo (rr e 6) (rr e 11)) (rr e 25)
def S0 (a : Nat) : Nat := xo (xo (rr a 2) (rr a 13)) (rr a 22)
def s0 (x : Nat) : Nat := xo (xo (rr x 7) (rr x 18)) (x / 8)
def s1 (x : Nat) : Nat := xo (xo (rr x 17) (rr x 19)) (x / 1024)
def ch (e f g : Nat) : Nat := xo (an e f) (an (no e) g)
def mj (a b c : Nat) : Nat := xo (xo (an a b) (an a c)) (an b c)
/-- A word. -/
abbrev Wd (x : Nat) : Prop := x < 4294967296
theorem rr_lt (x : Nat) (n : Int) (h : Wd x) : Wd (rr x n) := by
  have h1 : x / 2 ^ n.toNat < 2 ^ 32 := Nat.lt_of_le_of_lt (Nat.div_le_self _ _) h
  have h2 : x * 2 ^ (32 - n.toNat) % 4294967296 < 2 ^ 32 := Nat.mod_lt _ (by decide)
  exact Nat.or_lt_two_pow h1 h2
theorem ad_lt (x y : Nat) : Wd (ad x y) := Nat.mod_lt _ (by decide)
theorem xo_lt (x y : Nat) (hx : Wd x) (hy : Wd y) : Wd (xo x y) := Nat.xor_lt_two_pow (n := 32) hx hy
theorem an_lt (x y : Nat) (hy : Wd y) : Wd (an x y) := Nat.and_lt_two_pow (n := 32) _ hy
theorem no_lt (x : Nat) : Wd (no x) := by unfold no Wd; omega
theorem S1_lt (x : Nat) (h : Wd x) : Wd (S1 x) := xo_lt _ _ (xo_lt _ _ (rr_lt _ _ h) (rr_lt _ _ h)) (rr_lt _ _ h)
theorem S0_lt (x : Nat) (h : Wd x) : Wd (S0 x) := xo_lt _ _ (xo_lt _ _ (rr_lt _ _ h) (rr_lt _ _ h)) (rr_lt _ _ h)
theorem dv_lt (x k : Nat) (h : Wd x) : Wd (x / k) := Nat.lt_of_le_of_lt (Nat.div_le_self _ _) h
theorem s1_lt (x : Nat) (h : Wd x) : Wd (s1 x) := xo_lt _ _ (xo_lt _ _ (rr_lt _ _ h) (rr_lt _ _ h)) (dv_lt _ _ h)
theorem s0_lt (x : Nat) (h : Wd x) : Wd (s0 x) := xo_lt _ _ (xo_lt _ _ (rr_lt _ _ h) (rr_lt _ _ h)) (dv_lt _ _ h)
theorem ch_lt (e f g : Nat) (hf : Wd f) (hg : Wd g) : Wd (ch e f g) := xo_lt _ _ (an_lt _ _ hf) (an_lt _ _ hg)
theorem mj_lt (a b c : Nat) (hb : Wd b) (hc : Wd c) : Wd (mj a b c) := xo_lt _ _ (xo_lt _ _ (an_lt _ _ hb) (an_lt _ _ hc)) (an_lt _ _ hc)
/- The same, as the model has them. -/
theorem b_xo (x y : Nat) (hx : Wd x) (hy : Wd y) : bits .xor .u32 (x : Int) (y : Int) = ((xo x y : Nat) : Int) := u32_xor_nat x y hx hy
theorem b_an (x y : Nat) (hx : Wd x) (hy : Wd y) : bits .and .u32 (x : Int) (y : Int) = ((an x y : Nat) : Int) := u32_and_nat x y hx hy
theorem no_xor (x : Nat) (hx : Wd x) : 4294967295 ^^^ x = no x := by
  have h1 := congrArg BitVec.toNat (BitVec.allOnes_xor (x := BitVec.ofNat 32 x))
  rw [BitVec.toNat_xor, BitVec.toNat_not, BitVec.toNat_ofNat, Nat.mod_eq_of_lt hx, BitVec.toNat_allOnes] at h1
  exact h1
theorem b_no (x : Nat) (hx : Wd x) : bits .xor .u32 4294967295 (x : Int) = ((no x : Nat) : Int) := by
  have := u32_xor_nat 4294967295 x (by decide) hx
  rw [no_xor x hx] at this
  exact this
theorem m_no (x : Nat) (hx : Wd x) : bits .xor .u32 IntKind.u32.max (x : Int) = ((no x : Nat) : Int) := b_no x hx
theorem i_no (x : Nat) (hx : Wd x) : bits .xor .u32 (if IntKind.u32.signed = true then -1 else IntKind.u32.max) (x : Int) = ((no x : Nat) : Int) := b_no x hx
theorem b_ad (x y : Nat) : ((x : Int) + (y : Int)) % 4294967296 = ((ad x y : Nat) : Int) := by unfold ad; omega
theorem w_ad (x y : Nat) : IntKind.u32.wrap ((x : Int) + (y : Int)) = ((ad x y : Nat) : Int) := by rw [IntKind.wrap_u32']; exact b_ad x y

/-- By how much the words are turned. -/
abbrev Rn (n : Int) : Prop := n = 2 ∨ n = 6 ∨ n = 7 ∨ n = 11 ∨ n = 13 ∨ n = 17 ∨ n = 18 ∨ n = 19 ∨ n = 22 ∨ n = 25
theorem or_rr (x : Nat) (p q m : Nat) (n : Int) (hx : Wd x) (hn : n.toNat = m) (hp : 2 ^ m = p) (hq : 2 ^ (32 - m) = q) : bits .or .u32 ((x : Int) * (q : Nat) % 4294967296) ((x : Int) / (p : Nat)) = ((rr x n : Nat) : Int) := by
  have h1 : ((x : Int) * (q : Nat) % 4294967296) = ((x * q % 4294967296 : Nat) : Int) := by simp
  have h2 : ((x : Int) / (p : Nat)) = ((x / p : Nat) : Int) := by simp
  rw [h1, h2, u32_or_nat _ _ (Nat.mod_lt _ (by decide)) (dv_lt _ _ hx)]
  unfold rr
  rw [hn, hp, hq, Nat.or_comm]
theorem or_rr2 (x : Nat) (p q m : Nat) (n : Int) (hx : Wd x) (hn : n.toNat = m) (hp : 2 ^ m = p) (hq : 2 ^ (32 - m) = q) : bits .or .u32 ((x : Int) / (p : Nat)) ((x : Int) * (q : Nat) % 4294967296) = ((rr x n : Nat) : Int) := by
  have h1 : ((x : Int) * (q : Nat) % 4294967296) = ((x * q % 4294967296 : Nat) : Int) := by simp
  have h2 : ((x : Int) / (p : Nat)) = ((x / p : Nat) : Int) := by simp
  rw [h1, h2, u32_or_nat _ _ (dv_lt _ _ hx) (Nat.mod_lt _ (by decide))]
  unfold rr
  rw [hn, hp, hq]

set_option maxRecDepth 100000 in
set_option maxHeartbeats 1000000 in
theorem rot_any (x : Nat) (n : Int) (hx : Wd x) (hn : Rn n) (w : World) :
    Calls Tryd.prog 64 #[.int .u32 (x : Nat), .int .i64 (-n)] w fun e w' => e = .returned (.int .u32 ((rr x n : Nat) : Int)) ∧ w' = w := by
  go_enter Tryd.func64, Tryd.ntmps64
  rcases hn with rfl | rfl | rfl | rfl | rfl | rfl | rfl | rfl | rfl | rfl
  · have ea : bits .and .u64 (IntKind.u64.wrap (-2)) 31 = 30 := by decide +kernel
    go_wp2
    go_ret
    exact ⟨congrArg (fun z => Ending.returned (.int .u32 z)) (or_rr x 4 1073741824 2 2 hx rfl rfl rfl), rfl⟩
  · have ea : bits .and .u64 (IntKind.u64.wrap (-6)) 31 = 26 := by decide +kernel
    go_wp2
    go_ret
    exact ⟨congrArg (fun z => Ending.returned (.int .u32 z)) (or_rr x 64 67108864 6 6 hx rfl rfl rfl), rfl⟩
  · have ea : bits .and .u64 (IntKind.u64.wrap (-7)) 31 = 25 := by decide +kernel
    go_wp2
    go_ret
    exact ⟨congrArg (fun z => Ending.returned (.int .u32 z)) (or_rr x 128 33554432 7 7 hx rfl rfl rfl), rfl⟩
  · have ea : bits .and .u64 (IntKind.u64.wrap (-11)) 31 = 21 := by decide +kernel
    go_wp2
    go_ret
    exact ⟨congrArg (fun z => Ending.returned (.int .u32 z)) (or_rr x 2048 2097152 11 11 hx rfl rfl rfl), rfl⟩
  · have ea : bits .and .u64 (IntKind.u64.wrap (-13)) 31 = 19 := by decide +kernel
    go_wp2
    go_ret
    exact ⟨congrArg (fun z => Ending.returned (.int .u32 z)) (or_rr x 8192 524288 13 13 hx rfl rfl rfl), rfl⟩
  · have ea : bits .and .u64 (IntKind.u64.wrap (-17)) 31 = 15 := by decide +kernel
    go_wp2
    go_ret
    exact ⟨congrArg (fun z => Ending.returned (.int .u32 z)) (or_rr x 131072 32768 17 17 hx rfl rfl rfl), rfl⟩
  · have ea : bits .and .u64 (IntKind.u64.wrap (-18)) 31 = 14 := by decide +kernel
    go_wp2
    go_ret
    exact ⟨congrArg (fun z => Ending.returned (.int .u32 z)) (or_rr x 262144 16384 18 18 hx rfl rfl rfl), rfl⟩
  · have ea : bits .and .u64 (IntKind.u64.wrap (-19)) 31 = 13 := by decide +kernel
    go_wp2
    go_ret
    exact ⟨congrArg (fun z => Ending.returned (.int .u32 z)) (or_rr x 524288 8192 19 19 hx rfl rfl rfl), rfl⟩
  · have ea : bits .and .u64 (IntKind.u64.wrap (-22)) 31 = 10 := by decide +kernel
    go_wp2
    go_ret
    exact ⟨congrArg (fun z => Ending.returned (.int .u32 z)) (or_rr x 4194304 1024 22 22 hx rfl rfl rfl), rfl⟩
  · have ea : bits .and .u64 (IntKind.u64.wrap (-25)) 31 = 7 := by decide +kernel
    go_wp2
    go_ret
    exact ⟨congrArg (fun z => Ending.returned (.int .u32 z)) (or_rr x 33554432 128 25 25 hx rfl rfl rfl), rfl⟩
set_option maxRecDepth 100000 in
set_option maxHeartbeats 1000000 in
theorem right_any (x : Nat) (n : Int) (hx : Wd x) (hn : Rn n) (w : World) :
    Calls Tryd.prog 63 #[.int .u32 (x : Nat), .int .i64 n] w fun e w' => e = .returned (.int .u32 ((rr x n : Nat) : Int)) ∧ w' = w := by
  have q := rot_any x n hx hn w
  have h0 : -9223372036854775808 ≤ -n ∧ -n ≤ 9223372036854775807 := by rcases hn with rfl | rfl | rfl | rfl | rfl | rfl | rfl | rfl | rfl | rfl <;> decide
  clear hn
  go_enter Tryd.func63, Tryd.ntmps63
  go_wp2_with fail
  refine q.mono ?_
  rintro e w' ⟨rfl, rfl⟩
  go_wp2
  go_ret
  exact ⟨rfl, rfl⟩
end Go.Proofs.YthkkjpefealdgaaDoor
