/- (The laws of appending lie in Hq.) -/
import Derived.Test.YtlaiomgebkeldaaGreatDoorHq
namespace Go.Proofs.YtlaiomgebkeldaaGreatDoor
end Go.Proofs.YtlaiomgebkeldaaGreatDoor
