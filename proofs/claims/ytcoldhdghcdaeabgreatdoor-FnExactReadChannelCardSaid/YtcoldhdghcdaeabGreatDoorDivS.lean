/- The contract of the model's nearest quotient. -/
import Derived.Test.YtcoldhdghcdaeabGreatDoorDiv
namespace Go.Proofs.YtcoldhdghcdaeabGreatDoor
open Go.ChangeShapes Go.WideShapes Go.ChangeAt Go.RowKit Pm


end Go.Proofs.YtcoldhdghcdaeabGreatDoor
