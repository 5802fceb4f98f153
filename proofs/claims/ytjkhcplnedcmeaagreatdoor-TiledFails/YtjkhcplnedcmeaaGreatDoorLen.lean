/- How many bits math/bits.Len64 says that a number wants, at every number. -/
import Derived.Test.YtjkhcplnedcmeaaGreatDoorProg
import Derived.Lib.Strings
import Derived.Lib.Slices
import Derived.Lib.Small
import Derived.Lib.Walk
import Derived.Lib.BitFns
namespace Go.Proofs.YtjkhcplnedcmeaaGreatDoor

/- the number is cut by 's' bits, what is left is a byte 'y': the table's answer, with its two wraps, is the length -/
theorem way (x y S : Int) (s d : Nat) (hS : S = (s : Int)) (hs : s ≤ 56) (hd : 2 ^ s = d) (h0 : 0 ≤ y) (h1 : y ≤ 255) (hy : y.toNat = x.toNat / d) (hx : d ≤ x.toNat) (hb : x.toNat < 18446744073709551616) :
    (S + ((Lib.len8 y + 9223372036854775808) % 18446744073709551616 - 9223372036854775808) + 9223372036854775808) % 18446744073709551616 - 9223372036854775808 = (Lib.bitLen x.toNat : Int) := by
  have e : Lib.bitLen x.toNat = s + Lib.bitLen y.toNat := by
    rw [hy, ← hd]
    exact Lib.bitLen_shift s x.toNat (by rw [hd]; exact hx) hb
  have l := Lib.bitLen_le8' y h0 h1
  rw [e, Lib.len8_of y h0 h1]
  clear e hy hx hb hd
  omega
theorem way_byte (x : Int) (h0 : 0 ≤ x) (h1 : x ≤ 255) : (Lib.len8 (x % 256) + 9223372036854775808) % 18446744073709551616 - 9223372036854775808 = (Lib.bitLen x.toNat : Int) := by
  have e : x % 256 = x := by omega
  have l := Lib.bitLen_le8' x h0 h1
  rw [e, Lib.len8_of x h0 h1]
  omega

set_option maxHeartbeats 4000000 in
set_option maxRecDepth 100000 in
theorem len64_any (x : Int) (w : World) (h0 : 0 ≤ x) (h1 : x ≤ 18446744073709551615) :
    Calls Tryz.prog 66 #[.int .u64 x] w fun e w' => e = .returned (.int .i64 (Lib.bitLen x.toNat)) ∧ w' = w := by
  have num : ∀ a : Int, a = (Lib.bitLen x.toNat : Int) → Ending.returned (.int .i64 a) = .returned (.int .i64 (Lib.bitLen x.toNat)) := fun a e => by rw [e]
  go_enter Tryz.func66, Tryz.ntmps66
  go_wp2
  all_goals
    go_ret
    refine ⟨num _ ?_, rfl⟩
  · exact way x (x / 4294967296 / 65536 / 256 % 256) 56 56 72057594037927936 (by decide) (by decide) (by decide) (by omega) (by omega) (by omega) (by omega) (by omega)
  · exact way x (x / 4294967296 / 65536 % 256) 48 48 281474976710656 (by decide) (by decide) (by decide) (by omega) (by omega) (by omega) (by omega) (by omega)
  · exact way x (x / 4294967296 / 256 % 256) 40 40 1099511627776 (by decide) (by decide) (by decide) (by omega) (by omega) (by omega) (by omega) (by omega)
  · exact way x (x / 4294967296 % 256) 32 32 4294967296 (by decide) (by decide) (by decide) (by omega) (by omega) (by omega) (by omega) (by omega)
  · exact way x (x / 65536 / 256 % 256) 24 24 16777216 (by decide) (by decide) (by decide) (by omega) (by omega) (by omega) (by omega) (by omega)
  · exact way x (x / 65536 % 256) 16 16 65536 (by decide) (by decide) (by decide) (by omega) (by omega) (by omega) (by omega) (by omega)
  · exact way x (x / 256 % 256) 8 8 256 (by decide) (by decide) (by decide) (by omega) (by omega) (by omega) (by omega) (by omega)
  · exact way_byte x (by omega) (by omega)
end Go.Proofs.YtjkhcplnedcmeaaGreatDoor
