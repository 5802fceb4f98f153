/- (The laws of appending lie in Hq.) -/
import Derived.Test.YtlaiomgebkeldaaDoorHq
namespace Go.Proofs.YtlaiomgebkeldaaDoor
end Go.Proofs.YtlaiomgebkeldaaDoor
