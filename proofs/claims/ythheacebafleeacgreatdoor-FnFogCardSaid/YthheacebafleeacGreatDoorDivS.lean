/- The contract of the model's nearest quotient. -/
import Derived.Test.YthheacebafleeacGreatDoorDiv
namespace Go.Proofs.YthheacebafleeacGreatDoor
open Go.ChangeShapes Go.WideShapes Go.ChangeAt Go.RowKit Pm


end Go.Proofs.YthheacebafleeacGreatDoor
