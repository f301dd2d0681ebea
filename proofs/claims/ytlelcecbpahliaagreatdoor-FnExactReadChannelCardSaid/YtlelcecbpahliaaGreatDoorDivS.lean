/- The contract of the model's nearest quotient. -/
import Derived.Test.YtlelcecbpahliaaGreatDoorDiv
namespace Go.Proofs.YtlelcecbpahliaaGreatDoor
open Go.ChangeShapes Go.WideShapes Go.ChangeAt Go.RowKit Pm


end Go.Proofs.YtlelcecbpahliaaGreatDoor
