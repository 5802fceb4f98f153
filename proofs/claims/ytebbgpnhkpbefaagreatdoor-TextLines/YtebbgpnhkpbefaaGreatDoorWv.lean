/- Whether a text is UTF-8. -/
import Derived.Test.YtebbgpnhkpbefaaGreatDoorSv
namespace Go.Proofs
open Go.Shelf
open Go.RowKit in
theorem Tryz.utf8_ValidString (s : ByteArray) (w : World) (hs : s.size ≤ 9223372036854775807) (hT : Lib.Utf8Tabs 17 18 w) :
    Calls Tryz.prog 120 #[.string s] w fun e w' => e = .returned (.bool (Lib.validD s.data.toList)) ∧ Below w.heap.size w w' := Any.utf8_ValidString Tryz.lays196 s w hs hT
end Go.Proofs
