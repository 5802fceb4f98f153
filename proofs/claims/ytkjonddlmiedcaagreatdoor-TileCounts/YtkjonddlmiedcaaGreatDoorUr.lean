/- TileCounts. -/
import Derived.Test.YtkjonddlmiedcaaGreatDoorUq
import Derived.Test.YtkjonddlmiedcaaGreatDoorUc
namespace Go.Proofs.YtkjonddlmiedcaaGreatDoor
open Go.RowKit
set_option linter.unusedVariables false
theorem counts_any (S L I : Nat) (hS : S < 18446744073709551616) (hL : L ≤ 255) (hI : I < 18446744073709551616) (w : World) (hP : TX.Pow w) (hM : MaxL w) {B : Nat} {a : Nat → Addr} (hE : Sent B w a) :
    Calls Tryz.prog 5 #[.int .u64 (S : Int), .int .u8 (L : Int), .int .u64 (I : Int)] w fun e w' => e = .returned (.bool true) ∧ Nw w w' :=
  counts_core S L I hS hL hI w (fun V nV => lives_any V (hP.fr nV) (hM.nw nV) (hE.fr nV (fun _ _ f => f))) hE
end Go.Proofs.YtkjonddlmiedcaaGreatDoor
