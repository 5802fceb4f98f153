/- How many bits math/bits.Len64 says that a number wants, at every number. -/
import Derived.Test.YtaeocbdphfkflaaDoorProg
import Derived.Lib.Strings
import Derived.Lib.Slices
import Derived.Lib.Small
import Derived.Lib.Walk
import Derived.Lib.BitFns
namespace Go.Proofs.YtaeocbdphfkflaaDoor

/- the number is cut by 's' bits, what is left is a byte 'y': the table's answer, with its two wraps, is the length -/
theorem way (x y S : Int) (s d : Nat) (hS : S = (s : Int)) (hs : s ≤ 56) (hd : 2 ^ s = d) (h0 : 0 ≤ y) (h1 : y ≤ 255) (hy : y.toNat = x.toNat / d) (hx : d ≤ x.toNat) (hb : x.toNat < 18446744073709551616) :
    (S + ((Lib.len8 y + 9223372036854775808) % 18446744073709551616 - 9223372036854775808) + 9223372036854775808) % 18446744073709551616 - 9223372036854775808 = (Lib.bitLen x.toNat : Int) := by
  have e : Lib.bitLen x.toNat = s + Lib.bitLen y.toNat := by
    rw [hy, ← hd]
    exact Lib.bitLen_shift s x.toNat (by rw [hd]; exact hx) hb
  have l := Lib.bitLen_le8' y h0 h1
  rw [e, Lib.len8_of y h0 h1]
  clear e hy hx hb hd
  omega
theorem way_byte (x : Int) (h0 : 0 ≤ x) (h1 : x ≤ 255) : (Lib.len8 (x % 256) + 9223372036854775808) % 18446744073709551616 - 9223372036854775808 = (Lib.bitLen x.toNat : Int) := by
  have e : x % 256 = x := by omega
  have l := Lib.bitLen_le8' x h0 h1
  rw [e, Lib.len8_of x h0 h1]
  omega

end Go.Proofs.YtaeocbdphfkflaaDoor
