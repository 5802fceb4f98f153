/- (The laws of appending lie in Hq.) -/
import Derived.Test.YthbimomhbeoieaaDoorHq
namespace Go.Proofs.YthbimomhbeoieaaDoor
end Go.Proofs.YthbimomhbeoieaaDoor
