/- The digits of bytes. -/
import Derived.Test.YtdcnoepgnncjoabDoorA7
namespace Go.Proofs.YtdcnoepgnncjoabDoor
open Go.RowKit
set_option linter.unusedVariables false
set_option linter.unusedSimpArgs false

abbrev hexsB : ByteArray := ⟨#[48, 49, 50, 51, 52, 53, 54, 55, 56, 57, 97, 98, 99, 100, 101, 102]⟩
theorem hexsB_get (i : Nat) (h : i < hexsB.size) : (hexsB[i]'h).toNat = (hx i).toNat := by
  unfold hx
  rw [List.getD_eq_getElem?_getD, List.getElem?_eq_getElem (show i < hexs.length from h)]
  rfl
theorem and15 (x : Nat) (h : x < 256) : bits .and .u8 (x : Int) 15 = ((x % 16 : Nat) : Int) := by
  have hx : x &&& 15 = x % 16 := Nat.and_two_pow_sub_one_eq_mod x 4
  rw [show (15 : Int) = ((15 : Nat) : Int) from rfl, u8_and_nat x 15 h (by decide), hx]
theorem hex_more (l : List UInt8) (k : Nat) (h : k < l.length) : hex (l.take (k + 1)) = hex (l.take k) ++ [hx ((C l k).toNat / 16)] ++ [hx ((C l k).toNat % 16)] := by
  rw [take_getD l k h, hex_append]
  simp [hex, C]
end Go.Proofs.YtdcnoepgnncjoabDoor
