/- compact: join. -/
import Derived.Test.YtlcheobdkkiffaaDoorX1
namespace Go.Proofs.YtlcheobdkkiffaaDoor
open Go.RowKit
set_option linter.unusedVariables false
set_option linter.unusedSimpArgs false
end Go.Proofs.YtlcheobdkkiffaaDoor
