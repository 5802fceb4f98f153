/- How many ones a number has. -/
import Derived.Test.YtkjonddlmiedcaaDoorLb
import Derived.Test.YtkjonddlmiedcaaDoorN2
namespace Go.Proofs.YtkjonddlmiedcaaDoor
open Go.RowKit
set_option linter.unusedVariables false

theorem and_split (a b c d : Nat) (ha : a < 256) (hc : c < 256) : (a + 256 * b) &&& (c + 256 * d) = (a &&& c) + 256 * (b &&& d) := by
  have h1 := Nat.and_mod_two_pow (a := a + 256 * b) (b := c + 256 * d) (n := 8)
  have h2 := Nat.and_div_two_pow (a := a + 256 * b) (b := c + 256 * d) (n := 8)
  have e1 : (a + 256 * b) % 2 ^ 8 = a := by omega
  have e2 : (c + 256 * d) % 2 ^ 8 = c := by omega
  have e3 : (a + 256 * b) / 2 ^ 8 = b := by omega
  have e4 : (c + 256 * d) / 2 ^ 8 = d := by omega
  rw [e1, e2] at h1
  rw [e3, e4] at h2
  have := Nat.div_add_mod ((a + 256 * b) &&& (c + 256 * d)) (2 ^ 8)
  rw [h1, h2] at this
  omega

def mask (m : Nat) : Nat → Nat
  | 0 => 0
  | n + 1 => m + 256 * mask m n
def sa (n x : Nat) : Nat := (x / 2 &&& mask 85 n) + (x &&& mask 85 n)
def sb (n x : Nat) : Nat := (x / 4 &&& mask 51 n) + (x &&& mask 51 n)
def sc (n x : Nat) : Nat := (x / 16 + x) &&& mask 15 n
def a8 (b : Nat) : Nat := (b / 2 &&& 85) + (b &&& 85)
def b8 (b : Nat) : Nat := (b / 4 &&& 51) + (b &&& 51)
theorem a8_kill : ∀ b : Fin 256, ∀ t : Fin 2, (b.val / 2 + 128 * t.val) &&& 85 = b.val / 2 &&& 85 := by decide +kernel
theorem b8_kill : ∀ b : Fin 256, ∀ t : Fin 4, (b.val / 4 + 64 * t.val) &&& 51 = b.val / 4 &&& 51 := by decide +kernel
theorem a8_lt : ∀ b : Fin 256, a8 b.val < 256 := by decide +kernel
theorem b8_lt : ∀ b : Fin 256, b8 b.val < 256 := by decide +kernel
theorem ba_nib : ∀ b : Fin 256, b8 (a8 b.val) % 16 ≤ 4 ∧ b8 (a8 b.val) / 16 ≤ 4 := by decide +kernel
theorem ba_pop : ∀ b : Fin 256, b8 (a8 b.val) % 16 + b8 (a8 b.val) / 16 = Lib.popAux 8 b.val := by decide +kernel
theorem c_kill : ∀ y : Fin 256, ∀ t : Fin 5, y.val % 16 ≤ 4 → y.val / 16 ≤ 4 → (y.val / 16 + y.val + 16 * t.val) &&& 15 = y.val % 16 + y.val / 16 := by decide +kernel
theorem sa_succ (n x : Nat) : sa (n + 1) x = a8 (x % 256) + 256 * sa n (x / 256) := by
  have hb : x % 256 < 256 := Nat.mod_lt _ (by decide)
  have e1 : x / 2 = (x % 256 / 2 + 128 * (x / 256 % 2)) + 256 * (x / 256 / 2) := by omega
  have e2 : x = x % 256 + 256 * (x / 256) := by omega
  have k := a8_kill ⟨x % 256, hb⟩ ⟨x / 256 % 2, by omega⟩
  simp only at k
  unfold sa a8
  simp only [mask]
  have s1 := and_split (x % 256 / 2 + 128 * (x / 256 % 2)) (x / 256 / 2) 85 (mask 85 n) (by omega) (by omega)
  have s2 := and_split (x % 256) (x / 256) 85 (mask 85 n) hb (by omega)
  rw [← e1, k] at s1
  rw [← e2] at s2
  omega
theorem sb_succ (n x : Nat) : sb (n + 1) x = b8 (x % 256) + 256 * sb n (x / 256) := by
  have hb : x % 256 < 256 := Nat.mod_lt _ (by decide)
  have e1 : x / 4 = (x % 256 / 4 + 64 * (x / 256 % 4)) + 256 * (x / 256 / 4) := by omega
  have e2 : x = x % 256 + 256 * (x / 256) := by omega
  have k := b8_kill ⟨x % 256, hb⟩ ⟨x / 256 % 4, by omega⟩
  simp only at k
  unfold sb b8
  simp only [mask]
  have s1 := and_split (x % 256 / 4 + 64 * (x / 256 % 4)) (x / 256 / 4) 51 (mask 51 n) (by omega) (by omega)
  have s2 := and_split (x % 256) (x / 256) 51 (mask 51 n) hb (by omega)
  rw [← e1, k] at s1
  rw [← e2] at s2
  omega
theorem sba_succ (n x : Nat) : sb (n + 1) (sa (n + 1) x) = b8 (a8 (x % 256)) + 256 * sb n (sa n (x / 256)) := by
  have h := a8_lt ⟨x % 256, Nat.mod_lt _ (by decide)⟩
  simp only at h
  rw [sb_succ, sa_succ]
  have e1 : (a8 (x % 256) + 256 * sa n (x / 256)) % 256 = a8 (x % 256) := by omega
  have e2 : (a8 (x % 256) + 256 * sa n (x / 256)) / 256 = sa n (x / 256) := by omega
  rw [e1, e2]
theorem sba_nib (n x : Nat) : sb n (sa n x) % 16 ≤ 4 := by
  cases n with
  | zero => simp [sb, mask]
  | succ n =>
    rw [sba_succ]
    have := ba_nib ⟨x % 256, Nat.mod_lt _ (by decide)⟩
    simp only at this
    omega
theorem sc_succ (n y : Nat) (h1 : y % 256 % 16 ≤ 4) (h2 : y % 256 / 16 ≤ 4) (h3 : y / 256 % 16 ≤ 4) : sc (n + 1) y = (y % 256 % 16 + y % 256 / 16) + 256 * sc n (y / 256) := by
  have hb : y % 256 < 256 := Nat.mod_lt _ (by decide)
  have e1 : y / 16 + y = (y % 256 / 16 + y % 256 + 16 * (y / 256 % 16)) + 256 * (y / 256 / 16 + y / 256) := by omega
  have k := c_kill ⟨y % 256, hb⟩ ⟨y / 256 % 16, by omega⟩ h1 h2
  simp only at k
  unfold sc
  simp only [mask]
  have s1 := and_split (y % 256 / 16 + y % 256 + 16 * (y / 256 % 16)) (y / 256 / 16 + y / 256) 15 (mask 15 n) (by omega) (by omega)
  rw [← e1, k] at s1
  exact s1
def ps : Nat → Nat → Nat
  | 0, _ => 0
  | n + 1, x => Lib.popAux 8 (x % 256) + 256 * ps n (x / 256)
theorem scba (n : Nat) : ∀ x, sc n (sb n (sa n x)) = ps n x := by
  induction n with
  | zero => intro x; simp [sc, mask, ps]
  | succ n ih =>
    intro x
    have hb : x % 256 < 256 := Nat.mod_lt _ (by decide)
    have h := b8_lt ⟨a8 (x % 256), a8_lt ⟨x % 256, hb⟩⟩
    have h4 := ba_nib ⟨x % 256, hb⟩
    have h5 := ba_pop ⟨x % 256, hb⟩
    have h6 := sba_nib n (x / 256)
    simp only at h h4 h5
    rw [sba_succ]
    have e1 : (b8 (a8 (x % 256)) + 256 * sb n (sa n (x / 256))) % 256 = b8 (a8 (x % 256)) := by omega
    have e2 : (b8 (a8 (x % 256)) + 256 * sb n (sa n (x / 256))) / 256 = sb n (sa n (x / 256)) := by omega
    rw [sc_succ _ _ (by rw [e1]; exact h4.1) (by rw [e1]; exact h4.2) (by rw [e2]; exact h6), e1, e2, ih, h5]
    rfl
theorem pop_byte (f x : Nat) : Lib.popAux (f + 8) x = Lib.popAux 8 (x % 256) + Lib.popAux f (x / 256) := by
  have e : x / 256 = x / 2 / 2 / 2 / 2 / 2 / 2 / 2 / 2 := by omega
  rw [e]
  simp only [Lib.popAux]
  omega
theorem pop8_le : ∀ b : Fin 256, Lib.popAux 8 b.val ≤ 8 := by decide +kernel
theorem pop8_le' (x : Nat) : Lib.popAux 8 (x % 256) ≤ 8 := pop8_le ⟨x % 256, Nat.mod_lt _ (by decide)⟩
def hor (c : Nat) : Nat := c + c / 256 + (c + c / 256) / 65536 + (c + c / 256 + (c + c / 256) / 65536) / 4294967296
theorem hor_four (p0 p1 p2 p3 r : Nat) (h0 : p0 ≤ 8) (h1 : p1 ≤ 8) (h2 : p2 ≤ 8) (h3 : p3 ≤ 8) :
    ∃ l, l ≤ 134744072 ∧ p0 + 256 * (p1 + 256 * (p2 + 256 * (p3 + 256 * r))) = l + 4294967296 * r := ⟨p0 + 256 * (p1 + 256 * (p2 + 256 * p3)), by omega, by omega⟩
theorem hor_last (c q0 q1 q2 q3 q4 q5 q6 l0 l1 l2 l3 : Nat) (b0 : l0 ≤ 134744072) (b1 : l1 ≤ 134744072) (b2 : l2 ≤ 134744072) (b3 : l3 ≤ 134744072)
    (e0 : c = l0 + 4294967296 * q3) (e1 : q0 = l1 + 4294967296 * q4) (e2 : q1 = l2 + 4294967296 * q5) (e3 : q2 = l3 + 4294967296 * q6) :
    (c + q0 + (q1 + q2)) / 4294967296 = q3 + q4 + q5 + q6 := by omega
theorem hor_eq (p0 p1 p2 p3 p4 p5 p6 p7 c q0 q1 q2 q3 q4 q5 q6 : Nat) (h0 : p0 ≤ 8) (h1 : p1 ≤ 8) (h2 : p2 ≤ 8) (h3 : p3 ≤ 8) (h4 : p4 ≤ 8) (h5 : p5 ≤ 8) (h6 : p6 ≤ 8) (h7 : p7 ≤ 8)
    (e0 : c = p0 + 256 * q0) (e1 : q0 = p1 + 256 * q1) (e2 : q1 = p2 + 256 * q2) (e3 : q2 = p3 + 256 * q3) (e4 : q3 = p4 + 256 * q4) (e5 : q4 = p5 + 256 * q5) (e6 : q5 = p6 + 256 * q6) (e7 : q6 = p7) :
    hor c % 128 = p0 + (p1 + (p2 + (p3 + (p4 + (p5 + (p6 + p7)))))) := by
  have d1 : c / 256 = q0 := by clear e1 e2 e3 e4 e5 e6 e7; omega
  have d2 : (c + q0) / 65536 = q1 + q2 := by clear e3 e4 e5 e6 e7 d1; omega
  have d3 : (c + q0 + (q1 + q2)) / 4294967296 = q3 + q4 + q5 + q6 := by
    obtain ⟨l0, b0, f0⟩ := hor_four p0 p1 p2 p3 q3 h0 h1 h2 h3
    obtain ⟨l1, b1, f1⟩ := hor_four p1 p2 p3 p4 q4 h1 h2 h3 h4
    obtain ⟨l2, b2, f2⟩ := hor_four p2 p3 p4 p5 q5 h2 h3 h4 h5
    obtain ⟨l3, b3, f3⟩ := hor_four p3 p4 p5 p6 q6 h3 h4 h5 h6
    refine hor_last c q0 q1 q2 q3 q4 q5 q6 l0 l1 l2 l3 b0 b1 b2 b3 ?_ ?_ ?_ ?_
    · rw [← f0, ← e3, ← e2, ← e1, ← e0]
    · rw [← f1, ← e4, ← e3, ← e2, ← e1]
    · rw [← f2, ← e5, ← e4, ← e3, ← e2]
    · rw [← f3, ← e6, ← e5, ← e4, ← e3]
  unfold hor
  rw [d1, d2, d3]
  have : ∃ m, c + q0 + (q1 + q2) + (q3 + q4 + q5 + q6) = 256 * m + (p0 + (p1 + (p2 + (p3 + (p4 + (p5 + (p6 + p7))))))) := ⟨q0 + q1 + q2 + q3 + q4 + q5 + q6, by omega⟩
  obtain ⟨m, hm⟩ := this
  rw [hm]
  clear hm d1 d2 d3 e0 e1 e2 e3 e4 e5 e6 e7
  omega
theorem pop_ps (x : Nat) : hor (ps 8 x) % 128 = Lib.popAux 64 x := by
  have d := pop_byte
  have d56 : Lib.popAux 64 (x) = Lib.popAux 8 (x % 256) + Lib.popAux 56 (x / 256) := d 56 _
  have d48 : Lib.popAux 56 (x / 256) = Lib.popAux 8 (x / 256 % 256) + Lib.popAux 48 (x / 256 / 256) := d 48 _
  have d40 : Lib.popAux 48 (x / 256 / 256) = Lib.popAux 8 (x / 256 / 256 % 256) + Lib.popAux 40 (x / 256 / 256 / 256) := d 40 _
  have d32 : Lib.popAux 40 (x / 256 / 256 / 256) = Lib.popAux 8 (x / 256 / 256 / 256 % 256) + Lib.popAux 32 (x / 256 / 256 / 256 / 256) := d 32 _
  have d24 : Lib.popAux 32 (x / 256 / 256 / 256 / 256) = Lib.popAux 8 (x / 256 / 256 / 256 / 256 % 256) + Lib.popAux 24 (x / 256 / 256 / 256 / 256 / 256) := d 24 _
  have d16 : Lib.popAux 24 (x / 256 / 256 / 256 / 256 / 256) = Lib.popAux 8 (x / 256 / 256 / 256 / 256 / 256 % 256) + Lib.popAux 16 (x / 256 / 256 / 256 / 256 / 256 / 256) := d 16 _
  have d8 : Lib.popAux 16 (x / 256 / 256 / 256 / 256 / 256 / 256) = Lib.popAux 8 (x / 256 / 256 / 256 / 256 / 256 / 256 % 256) + Lib.popAux 8 (x / 256 / 256 / 256 / 256 / 256 / 256 / 256) := d 8 _
  rw [d56, d48, d40, d32, d24, d16, d8]
  have last : Lib.popAux 8 (x / 256 / 256 / 256 / 256 / 256 / 256 / 256) = Lib.popAux 8 (x / 256 / 256 / 256 / 256 / 256 / 256 / 256 % 256) := by
    have := d 0 (x / 256 / 256 / 256 / 256 / 256 / 256 / 256)
    simpa [Lib.popAux] using this
  rw [last]
  exact hor_eq _ _ _ _ _ _ _ _ _ (ps 7 (x / 256)) (ps 6 (x / 256 / 256)) (ps 5 (x / 256 / 256 / 256)) (ps 4 (x / 256 / 256 / 256 / 256)) (ps 3 (x / 256 / 256 / 256 / 256 / 256)) (ps 2 (x / 256 / 256 / 256 / 256 / 256 / 256)) (ps 1 (x / 256 / 256 / 256 / 256 / 256 / 256 / 256)) (pop8_le' _) (pop8_le' _) (pop8_le' _) (pop8_le' _) (pop8_le' _) (pop8_le' _) (pop8_le' _) (pop8_le' _) rfl rfl rfl rfl rfl rfl rfl rfl
theorem ps_le (n x : Nat) : ps n x ≤ mask 8 n := by
  induction n generalizing x with
  | zero => simp [ps]
  | succ n ih =>
    have := ih (x / 256)
    have := pop8_le' x
    simp only [ps, mask]
    omega

/- ### how many ones: the reference's way -/
theorem popAux_fuel : ∀ (f x : Nat), x < 2 ^ f → Lib.popAux (f + 1) x = Lib.popAux f x
  | 0, x, h => by
    have : x = 0 := by simpa using h
    subst this; rfl
  | f + 1, x, h => by
    have ih := popAux_fuel f (x / 2) (by rw [Nat.pow_succ] at h; omega)
    show x % 2 + Lib.popAux (f + 1) (x / 2) = x % 2 + Lib.popAux f (x / 2)
    rw [ih]
theorem pop_step (x : Nat) (h : x < 18446744073709551616) : Lib.popAux 64 x = x % 2 + Lib.popAux 64 (x / 2) := by
  have := popAux_fuel 63 (x / 2) (by omega)
  show x % 2 + Lib.popAux 63 (x / 2) = _
  rw [← this]
theorem pop_zero : Lib.popAux 64 0 = 0 := by decide +kernel
theorem popAux_le : ∀ (f x : Nat), Lib.popAux f x ≤ f
  | 0, _ => Nat.le_refl _
  | f + 1, x => by
    have := popAux_le f (x / 2)
    simp only [Lib.popAux]
    omega
theorem pop_pow : ∀ k : Fin 64, Lib.popAux 64 (2 ^ k.val) = 1 := by decide +kernel

/- how many ones -/
theorem oc_core (X a1 a2 b1 b2 c r : Int) (w : World) (x0 : 0 ≤ X) (x1 : X ≤ 18446744073709551615)
    (e1 : bits BinOp.and IntKind.u64 (X / 2) 6148914691236517205 = a1) (e2 : bits BinOp.and IntKind.u64 X 6148914691236517205 = a2)
    (e3 : bits BinOp.and IntKind.u64 ((a1 + a2) / 4) 3689348814741910323 = b1) (e4 : bits BinOp.and IntKind.u64 (a1 + a2) 3689348814741910323 = b2)
    (e5 : bits BinOp.and IntKind.u64 ((b1 + b2) / 16 + (b1 + b2)) 1085102592571150095 = c)
    (e6 : bits BinOp.and IntKind.i64 (c + c / 256 + (c + c / 256) / 65536 + (c + c / 256 + (c + c / 256) / 65536) / 4294967296) 127 = r)
    (ha1 : 0 ≤ a1) (ha2 : 0 ≤ a2) (ha3 : a1 ≤ 6148914691236517205) (ha4 : a2 ≤ 6148914691236517205)
    (hb1 : 0 ≤ b1) (hb2 : 0 ≤ b2) (hb3 : b1 ≤ 3689348814741910323) (hb4 : b2 ≤ 3689348814741910323)
    (hc1 : 0 ≤ c) (hc2 : c ≤ 578721382704613384) :
    Calls Tryd.prog 24 #[.int .u64 X] w fun e w' => e = .returned (.int .i64 r) ∧ w' = w := by
  go_enter Tryd.func24, Tryd.ntmps24
  go_wp2
  go_ret
  exact ⟨rfl, rfl⟩

theorem and_cast (a b : Nat) (ha : a < 18446744073709551616) (hb : b < 18446744073709551616) : bits BinOp.and IntKind.u64 (a : Int) (b : Int) = ((a &&& b : Nat) : Int) := bits_and_u64_nat a b ha hb
theorem and_127 (t : Nat) (h : t < 9223372036854775808) : bits BinOp.and IntKind.i64 (t : Int) 127 = ((t % 128 : Nat) : Int) := by
  have h1 : (BitVec.ofInt 64 (t : Int)).toNat = t := by
    rw [BitVec.ofInt_natCast, BitVec.toNat_ofNat]; exact Nat.mod_eq_of_lt (by omega)
  have h2 : (BitVec.ofInt 64 (127 : Int)).toNat = 127 := by decide
  show IntKind.i64.wrap ((BitVec.ofInt 64 (t : Int) &&& BitVec.ofInt 64 (127 : Int)).toNat : Int) = _
  rw [BitVec.toNat_and, h1, h2]
  have h3 : t &&& 127 = t % 128 := Nat.and_two_pow_sub_one_eq_mod t 7
  rw [h3, IntKind.wrap_i64]
  omega
theorem oc_any (x : Int) (w : World) (h0 : 0 ≤ x) (h1 : x ≤ 18446744073709551615) :
    Calls Tryd.prog 24 #[.int .u64 x] w fun e w' => e = .returned (.int .i64 (Lib.popAux 64 x.toNat)) ∧ w' = w := by
  obtain ⟨X, rfl⟩ : ∃ X : Nat, x = X := ⟨x.toNat, by omega⟩
  have m0 : mask 85 8 = 6148914691236517205 := by decide +kernel
  have m1 : mask 51 8 = 3689348814741910323 := by decide +kernel
  have m2 : mask 15 8 = 1085102592571150095 := by decide +kernel
  have m3 : mask 8 8 = 578721382704613384 := by decide +kernel
  have la : sa 8 X = (X / 2 &&& 6148914691236517205) + (X &&& 6148914691236517205) := by unfold sa; rw [m0]
  have lb : sb 8 (sa 8 X) = (sa 8 X / 4 &&& 3689348814741910323) + (sa 8 X &&& 3689348814741910323) := by unfold sb; rw [m1]
  have lc : sc 8 (sb 8 (sa 8 X)) = (sb 8 (sa 8 X) / 16 + sb 8 (sa 8 X)) &&& 1085102592571150095 := by unfold sc; rw [m2]
  have r := pop_ps X
  have l := ps_le 8 X
  rw [m3] at l
  have e := scba 8 X
  have A1 : X / 2 &&& 6148914691236517205 ≤ 6148914691236517205 := Nat.and_le_right
  have A2 : X &&& 6148914691236517205 ≤ 6148914691236517205 := Nat.and_le_right
  have B1 : sa 8 X / 4 &&& 3689348814741910323 ≤ 3689348814741910323 := Nat.and_le_right
  have B2 : sa 8 X &&& 3689348814741910323 ≤ 3689348814741910323 := Nat.and_le_right
  rw [Int.toNat_natCast, ← r]
  have f1 := and_cast (X / 2) 6148914691236517205 (by omega) (by omega)
  have f2 := and_cast X 6148914691236517205 (by omega) (by omega)
  have f3 := and_cast (sa 8 X / 4) 3689348814741910323 (by omega) (by omega)
  have f4 := and_cast (sa 8 X) 3689348814741910323 (by omega) (by omega)
  have f5 := and_cast (sb 8 (sa 8 X) / 16 + sb 8 (sa 8 X)) 1085102592571150095 (by omega) (by omega)
  rw [← lc, e] at f5
  have hl : hor (ps 8 X) < 9223372036854775808 := by unfold hor; omega
  have f6 := and_127 (hor (ps 8 X)) hl
  refine oc_core (X : Int) ((X / 2 &&& 6148914691236517205 : Nat) : Int) ((X &&& 6148914691236517205 : Nat) : Int) ((sa 8 X / 4 &&& 3689348814741910323 : Nat) : Int) ((sa 8 X &&& 3689348814741910323 : Nat) : Int) ((ps 8 X : Nat) : Int) _ w (by omega) (by omega) ?_ ?_ ?_ ?_ ?_ ?_ (by omega) (by omega) (by omega) (by omega) (by omega) (by omega) (by omega) (by omega) (by omega) (by omega)
  · exact f1
  · exact f2
  · rw [← Int.natCast_add, ← la]; exact f3
  · rw [← Int.natCast_add, ← la]; exact f4
  · rw [← Int.natCast_add, ← lb]; exact f5
  · unfold hor at f6; exact f6


theorem popAux_zero : ∀ f, Lib.popAux f 0 = 0
  | 0 => rfl
  | f + 1 => by simp [Lib.popAux, popAux_zero f]
theorem pop_top : ∀ (f k s : Nat), k < f → s < 2 ^ k → Lib.popAux f (2 ^ k + s) = 1 + Lib.popAux f s
  | 0, k, s, h, _ => by omega
  | f + 1, 0, s, _, hs => by
    have : s = 0 := by simpa using hs
    subst this
    simp [Lib.popAux, popAux_zero]
  | f + 1, k + 1, s, h, hs => by
    have e : 2 ^ (k + 1) = 2 * 2 ^ k := by rw [Nat.pow_succ, Nat.mul_comm]
    rw [e] at hs ⊢
    have ih := pop_top f k (s / 2) (by omega) (by omega)
    have e1 : (2 * 2 ^ k + s) % 2 = s % 2 := by omega
    have e2 : (2 * 2 ^ k + s) / 2 = 2 ^ k + s / 2 := by omega
    simp only [Lib.popAux, e1, e2, ih]
    omega
theorem exs_pop (n : Nat) (h : n < 18446744073709551616) : Lib.popAux 64 n = (exs n).length := by
  induction n using Nat.strongRecOn with
  | ind n ih =>
    by_cases h0 : n = 0
    · subst h0; rw [exs_zero]; exact pop_zero
    · have a := Nat.log2_self_le h0
      have b := Nat.lt_log2_self (n := n)
      rw [Nat.pow_succ'] at b
      have hp := Nat.two_pow_pos n.log2
      have hl : n.log2 < 64 := (Nat.log2_lt h0).2 h
      rw [exs_step a b, List.length_cons, ← ih (n - 2 ^ n.log2) (by omega) (by omega)]
      have e : n = 2 ^ n.log2 + (n - 2 ^ n.log2) := by omega
      have := pop_top 64 n.log2 (n - 2 ^ n.log2) hl (by omega)
      rw [← e] at this
      omega
theorem exs_len (n : Nat) (h : n < 18446744073709551616) : (exs n).length ≤ 64 := by rw [← exs_pop n h]; exact popAux_le 64 n
theorem count_any (n : Nat) (w : World) (h : n < 18446744073709551616) :
    Calls Tryd.prog 9 #[.int .u64 (n : Int)] w fun e w' => e = .returned (.int .i64 ((exs n).length : Int)) ∧ w' = w := by
  have q := oc_any (n : Int) w (by omega) (by omega)
  rw [Int.toNat_natCast, exs_pop n h] at q
  go_enter Tryd.func9, Tryd.ntmps9
  go_wp2_with fail
  refine q.mono ?_
  rintro e w' ⟨rfl, rfl⟩
  go_wp2
  go_ret
  exact ⟨rfl, rfl⟩
end Go.Proofs.YtkjonddlmiedcaaDoor
