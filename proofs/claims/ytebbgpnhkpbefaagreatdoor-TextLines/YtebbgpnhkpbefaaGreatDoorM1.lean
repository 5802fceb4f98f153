/- Bytes by letters, by digits, a number by digits, and back: as functions on lists. No run of the program in this text. -/
import Derived.Lib.Bytealg
namespace Go.Proofs.YtebbgpnhkpbefaaGreatDoor
set_option linter.unusedVariables false
set_option linter.unusedSimpArgs false

/-- The letters. -/
def abc : List UInt8 := [65, 66, 67, 68, 69, 70, 71, 72, 73, 74, 75, 76, 77, 78, 79, 80, 81, 82, 83, 84, 85, 86, 87, 88, 89, 90, 97, 98, 99, 100, 101, 102, 103, 104, 105, 106, 107, 108, 109, 110, 111, 112, 113, 114, 115, 116, 117, 118, 119, 120, 121, 122, 48, 49, 50, 51, 52, 53, 54, 55, 56, 57, 43, 47]
def hexs : List UInt8 := [48, 49, 50, 51, 52, 53, 54, 55, 56, 57, 97, 98, 99, 100, 101, 102]
def tens : List UInt8 := [48, 49, 50, 51, 52, 53, 54, 55, 56, 57]
/-- The letter of a number. -/
def lt (n : Nat) : UInt8 := abc.getD n 0
def hx (n : Nat) : UInt8 := hexs.getD n 0
/-- The number of a letter, if it is one. -/
def ix (l : List UInt8) (c : UInt8) : Int := Go.Lib.indexByte l c

/-- Three bytes as a number of 24 bits. -/
def n3 (a b c : UInt8) : Nat := a.toNat * 65536 + b.toNat * 256 + c.toNat
def b64 : List UInt8 → List UInt8
  | [] => []
  | [a] => [lt (n3 a 0 0 / 262144), lt (n3 a 0 0 / 4096 % 64), 61, 61]
  | [a, b] => [lt (n3 a b 0 / 262144), lt (n3 a b 0 / 4096 % 64), lt (n3 a b 0 / 64 % 64), 61]
  | a :: b :: c :: r => lt (n3 a b c / 262144) :: lt (n3 a b c / 4096 % 64) :: lt (n3 a b c / 64 % 64) :: lt (n3 a b c % 64) :: b64 r

theorem b64_append : ∀ (l r : List UInt8), l.length % 3 = 0 → b64 (l ++ r) = b64 l ++ b64 r
  | [], r, _ => rfl
  | [a], r, h => by simp at h
  | [a, b], r, h => by simp at h
  | a :: b :: c :: t, r, h => by
    have := b64_append t r (by simp at h; omega)
    simp only [List.cons_append, b64, this]
theorem b64_length : ∀ l : List UInt8, (b64 l).length = (l.length + 2) / 3 * 4
  | [] => rfl
  | [a] => by simp [b64]
  | [a, b] => by simp [b64]
  | a :: b :: c :: t => by
    have := b64_length t
    simp only [b64, List.length_cons, this]; omega

/-- How many of at most four letters may stand. -/
def rgt : List UInt8 → Nat
  | [] => 0
  | c0 :: r0 => if ix abc c0 < 0 then 0 else
    match r0 with
    | [] => 1
    | c1 :: r1 => if ix abc c1 < 0 then 1 else
      match r1 with
      | [] => 2
      | c2 :: r2 =>
        if ix abc c2 < 0 then
          if c2 = 61 ∧ ix abc c1 % 16 = 0 then
            match r2 with
            | [] => 3
            | c3 :: _ => if c3 = 61 then 4 else 3
          else 2
        else
          match r2 with
          | [] => 3
          | c3 :: _ => if 0 ≤ ix abc c3 ∨ (c3 = 61 ∧ ix abc c2 % 4 = 0) then 4 else 3
/-- A letter's number, of a filler 0. -/
def ixn (c : UInt8) : Nat := (ix abc c).toNat
def n4 (c0 c1 c2 c3 : UInt8) : Nat := ixn c0 * 262144 + ixn c1 * 4096 + ixn c2 * 64 + ixn c3
/-- The bytes of four letters. -/
def dec (c0 c1 c2 c3 : UInt8) : List UInt8 :=
  if c3 ≠ 61 then [UInt8.ofNat (n4 c0 c1 c2 c3 / 65536), UInt8.ofNat (n4 c0 c1 c2 c3 / 256 % 256), UInt8.ofNat (n4 c0 c1 c2 c3 % 256)]
  else if c2 ≠ 61 then [UInt8.ofNat (n4 c0 c1 c2 c3 / 65536), UInt8.ofNat (n4 c0 c1 c2 c3 / 256 % 256)]
  else [UInt8.ofNat (n4 c0 c1 c2 c3 / 65536)]
/-- A text read by letters, from place p on: where it goes wrong, or its bytes; e: the four ahead were filled. -/
def un64 : Nat → Bool → List UInt8 → Except Nat (List UInt8)
  | _, _, [] => .ok []
  | p, true, _ :: _ => .error p
  | p, false, c0 :: c1 :: c2 :: c3 :: r => if rgt [c0, c1, c2, c3] < 4 then .error (p + rgt [c0, c1, c2, c3]) else
    match un64 (p + 4) (c3 == 61) r with
    | .error k => .error k
    | .ok b => .ok (dec c0 c1 c2 c3 ++ b)
  | p, false, g => .error (p + rgt g)

def hex : List UInt8 → List UInt8
  | [] => []
  | a :: r => hx (a.toNat / 16) :: hx (a.toNat % 16) :: hex r
theorem hex_append (l r : List UInt8) : hex (l ++ r) = hex l ++ hex r := by
  induction l with
  | nil => rfl
  | cons a t ih => simp [hex, ih]
theorem hex_length (l : List UInt8) : (hex l).length = 2 * l.length := by
  induction l with
  | nil => rfl
  | cons a t ih => simp [hex, ih]; omega
/-- The number of two digits. -/
def two (a b : UInt8) : UInt8 := UInt8.ofNat (16 * (ix hexs a).toNat + (ix hexs b).toNat)
def unhex : Nat → List UInt8 → Except Nat (List UInt8)
  | _, [] => .ok []
  | p, [a] => if ix hexs a < 0 then .error p else .error (p + 1)
  | p, a :: b :: r => if ix hexs a < 0 then .error p else if ix hexs b < 0 then .error (p + 1) else
    match unhex (p + 2) r with
    | .error k => .error k
    | .ok l => .ok (two a b :: l)

/-- A number by digits, read on from n, at place p. -/
def undec : Nat → Nat → List UInt8 → Except Nat Nat
  | _, n, [] => .ok n
  | p, n, c :: r => if ix tens c < 0 ∨ (0 < p ∧ n = 0) ∨ 18446744073709551615 < 10 * n + (ix tens c).toNat then .error p else undec (p + 1) (10 * n + (ix tens c).toNat) r
def fromdec (l : List UInt8) : Except Nat Nat := if l = [] then .error 0 else undec 0 0 l

theorem ix_ge (l : List UInt8) (c : UInt8) : -1 ≤ ix l c := Go.Lib.indexByte_ge l c
theorem ix_lt (l : List UInt8) (c : UInt8) : ix l c < l.length := by
  unfold ix
  induction l with
  | nil => simp [Go.Lib.indexByte]
  | cons b t ih =>
    unfold Go.Lib.indexByte
    split
    · simp only [List.length_cons]; omega
    · split
      · simp only [List.length_cons]; omega
      · simp at ih ⊢; omega
theorem ix_get (l : List UInt8) (c : UInt8) (h : 0 ≤ ix l c) : l.getD (ix l c).toNat 0 = c := by
  unfold ix at *
  induction l with
  | nil => simp [Go.Lib.indexByte] at h
  | cons b t ih =>
    unfold Go.Lib.indexByte at h ⊢
    by_cases hb : (b == c) = true
    · simp [hb] at h ⊢; simpa using hb
    · simp only [hb] at h ⊢
      by_cases hn : (Go.Lib.indexByte t c == -1) = true
      · simp [hn] at h
      · simp only [hn] at h ⊢
        have hge := Go.Lib.indexByte_ge t c
        have h0 : 0 ≤ Go.Lib.indexByte t c := by simp at hn; omega
        have : (Go.Lib.indexByte t c + 1).toNat = (Go.Lib.indexByte t c).toNat + 1 := by omega
        simp [this]
        simpa using ih h0
theorem lt_ix (c : UInt8) (h : 0 ≤ ix abc c) : lt (ixn c) = c := ix_get abc c h
set_option maxRecDepth 100000 in
theorem ix_lt64 : ∀ n, n < 64 → ix abc (lt n) = n := by decide
set_option maxRecDepth 100000 in
theorem ix_hx : ∀ n, n < 16 → ix hexs (hx n) = n := by decide
set_option maxRecDepth 100000 in
theorem ix_61 : ix abc 61 = -1 := by decide
set_option maxRecDepth 100000 in
theorem ixn_61 : ixn 61 = 0 := by decide
theorem lt_ne61 (n : Nat) (h : n < 64) : lt n ≠ 61 := fun e => by have := ix_lt64 n h; rw [e, ix_61] at this; omega
theorem ixn_lt (c : UInt8) : ixn c < 64 := by have := ix_lt abc c; have := ix_ge abc c; simp [abc] at *; unfold ixn; simp [abc]; omega
theorem ixn_lt64 (n : Nat) (h : n < 64) : ixn (lt n) = n := by unfold ixn; rw [ix_lt64 n h]; simp
end Go.Proofs.YtebbgpnhkpbefaaGreatDoor
