/- The contract of the model's nearest quotient. -/
import Derived.Test.YtcoldhdghcdaeabDoorDiv
namespace Go.Proofs.YtcoldhdghcdaeabDoor
open Go.ChangeShapes Go.WideShapes Go.ChangeAt Go.RowKit Pm


end Go.Proofs.YtcoldhdghcdaeabDoor
