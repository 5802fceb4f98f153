/- (The laws of appending lie in Hq.) -/
import Derived.Test.YtkjonddlmiedcaaDoorHq
namespace Go.Proofs.YtkjonddlmiedcaaDoor
end Go.Proofs.YtkjonddlmiedcaaDoor
