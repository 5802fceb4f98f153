/- (The laws of appending lie in Hq.) -/
import Derived.Test.YtlcheobdkkiffaaDoorHq
namespace Go.Proofs.YtlcheobdkkiffaaDoor
end Go.Proofs.YtlcheobdkkiffaaDoor
