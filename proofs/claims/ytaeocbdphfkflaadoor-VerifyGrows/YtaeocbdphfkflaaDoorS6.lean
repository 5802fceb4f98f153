/- What package shape refuses; Peaks. -/
import Derived.Test.YtaeocbdphfkflaaDoorSgx
import Derived.Test.YtaeocbdphfkflaaDoorEg
namespace Go.Proofs.YtaeocbdphfkflaaDoor
open Go.RowKit
set_option linter.unusedVariables false
set_option linter.unusedSimpArgs false

end Go.Proofs.YtaeocbdphfkflaaDoor
