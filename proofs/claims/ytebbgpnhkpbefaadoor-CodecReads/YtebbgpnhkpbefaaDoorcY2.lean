/- put, of a thing of whatever number for its kind, with whatever frame. -/
import Derived.Test.YtebbgpnhkpbefaaDoorcY1
import Derived.Test.YtebbgpnhkpbefaaDoorcP1
namespace Go.Proofs.YtebbgpnhkpbefaaDoor
open Go.RowKit
set_option linter.unusedVariables false
set_option linter.unusedSimpArgs false
def Pts (f : Nat) (args : Array Value) (S : Nat → Prop) (w : World) (PF : Value → World → Prop) : Prop :=
  ∀ w1, Fr (fun _ => False) w w1 → Calls Tryd.prog f args w1 fun e w' => ∃ ev, e = .returned ev ∧ PF ev w' ∧ Fr S w1 w'

theorem pow_cast (N m : Nat) : ((N : Int) < 256 ^ (m : Int).toNat) ↔ N < 256 ^ m := by
  have e : (256 : Int) ^ m = ((256 ^ m : Nat) : Int) := by rw [Int.natCast_pow]; rfl
  rw [Int.toNat_natCast, e]
  exact Int.ofNat_lt
/-- A thing's form; none: it may not be put. -/
def fmT (kd n wd : Int) (t : ByteArray) (lh : List UInt8) : Option (List UInt8) :=
  if kd % 4 = 0 then (if 1 ≤ wd ∧ wd ≤ 8 ∧ n < 256 ^ wd.toNat then some (fixB wd.toNat n.toNat) else none)
  else if kd % 4 = 1 then some (varB n.toNat) else if kd % 4 = 2 then some (varB t.size ++ t.data.toList) else some lh
end Go.Proofs.YtebbgpnhkpbefaaDoor
