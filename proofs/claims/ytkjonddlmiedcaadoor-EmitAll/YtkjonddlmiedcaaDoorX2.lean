/- compact: join. -/
import Derived.Test.YtkjonddlmiedcaaDoorX1
namespace Go.Proofs.YtkjonddlmiedcaaDoor
open Go.RowKit
set_option linter.unusedVariables false
set_option linter.unusedSimpArgs false
end Go.Proofs.YtkjonddlmiedcaaDoor
