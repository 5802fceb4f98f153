/- NaivePlays: the row's closed facts. -/
import Derived.Test.YtdhlmpjoggnkkaaGreatDoorRows
import Derived.WalkKit
import Derived.ProofKit
import Derived.Stop.Joined
import Derived.JoinedCond
namespace Go.Proofs.YtdhlmpjoggnkkaaGreatDoor.naivePlays
open Go.ChangeShapes Go.WideShapes Go.ChangeAt Go.RowKit
set_option maxRecDepth 100000 in
theorem named3 : Tryz.pinned.checked.prog.funcNamed Rows.naivePlaysUptoRow.func = some 3 := by kernel_rfl
set_option maxRecDepth 100000 in
theorem closed : joinedFacts Tryz.pinned.checked.prog 3 Tryz.f3 (Rows.OpenSpec.upto Rows.naivePlaysSpec).bare Rows.naivePlaysUptoRow = true := by kernel_rfl
set_option maxRecDepth 100000 in
theorem inst3 : Tryz.f3.isInstance Tryz.pinned.checked.prog Rows.naivePlaysUptoRow.origin Rows.naivePlaysUptoRow.targs := of_decide_eq_true (by kernel_rfl)
end Go.Proofs.YtdhlmpjoggnkkaaGreatDoor.naivePlays
