/- TileIns: the walk. -/
import Derived.Test.YtlgokcijmhkdiaaGreatDoorUd
namespace Go.Proofs.YtlgokcijmhkdiaaGreatDoor
open Go.RowKit
set_option linter.unusedVariables false
set_option linter.unusedSimpArgs false
set_option maxRecDepth 100000 in
set_option maxHeartbeats 1000000 in
theorem ins_any (L I S : Nat) (hL : L ≤ 255) (hI : I < 18446744073709551616) (hS : S < 18446744073709551616) (w : World) (hP : TX.Pow w) (hM : MaxL w) {B : Nat} {a : Nat → Addr} (hSe : Sent B w a) :
    Calls Tryz.prog 4 #[.int .u8 (L : Int), .int .u64 (I : Int), .int .u64 (S : Int)] w fun e w' => e = .returned (.bool true) ∧ Nw w w' := by
  obtain ⟨x, y, z, ok, h1, h2⟩ : ∃ (x y z : Nat) (ok : Bool), (∀ V, Calls Tryz.prog 12 #[.int .u8 (L : Int), .int .u64 (I : Int), .int .u64 (S : Int)] V fun e w' => e = .returned (.tuple #[tl x y z, .bool ok]) ∧ Nw V w') ∧ (∀ V, Calls Tryz.prog 13 #[.int .u8 (L : Int), .int .u64 (I : Int), .int .u64 (S : Int)] V fun e w' => e = .returned (.tuple #[tl x y z, .bool ok]) ∧ Nw V w') := by
    by_cases h : wid L I S = 0
    · exact ⟨0, 0, 0, false, in_no L I S hL hI hS h, rin_no L I S hL hI hS h⟩
    · exact ⟨L, I, wid L I S, true, in_yes L I S _ hI rfl (by omega), rin_yes L I S _ hI rfl (by omega)⟩
  have Q1 := show Hid _ from h1
  have Q2 := show Hid _ from h2
  have QV : Hid (∀ V, Nw w V → Calls Tryz.prog 11 #[] V fun e w' => e = .returned (.bool true) ∧ Nw V w') := fun V nV => lives_any V (hP.fr nV) (hM.nw nV) (hSe.fr nV (fun _ _ f => f))
  clear h1 h2 hP hM hSe
  go_enter Tryz.func4, Tryz.ntmps4
  go_wp2_with fail
  refine (Q1.out _).mono ?_
  rintro e w1 ⟨rfl, n1⟩
  have N1 : Hid (Nw w w1) := n1
  clear n1
  go_wp2_with fail
  refine (Q2.out _).mono ?_
  rintro e w2 ⟨rfl, n2⟩
  obtain ⟨l1, b1, m2⟩ := one_made n2
  have N2 : Hid (Nw w w2) := N1.out.tr m2
  obtain ⟨c0, c1, c2⟩ := cell3 b1
  clear n2 m2 N1
  go_wp2_with fail
  refine (QV.out _ (N2.out.alloc _)).mono ?_
  rintro e w3 ⟨rfl, n3⟩
  go_wp2
  go_ret
  exact ⟨rfl, N2.out.tr ((nwa w2 _).tr n3)⟩
end Go.Proofs.YtlgokcijmhkdiaaGreatDoor
