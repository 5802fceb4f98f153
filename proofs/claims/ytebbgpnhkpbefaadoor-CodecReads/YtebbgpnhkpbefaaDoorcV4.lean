/- Two writers, none, one that nobody made, and what each should have: in memory. -/
import Derived.Test.YtebbgpnhkpbefaaDoorcV3
import Derived.Test.YtebbgpnhkpbefaaDoorcT4
import Derived.Test.YtebbgpnhkpbefaaDoorcB1
namespace Go.Proofs.YtebbgpnhkpbefaaDoor
open Go.RowKit
set_option linter.unusedVariables false
set_option linter.unusedSimpArgs false

end Go.Proofs.YtebbgpnhkpbefaaDoor
