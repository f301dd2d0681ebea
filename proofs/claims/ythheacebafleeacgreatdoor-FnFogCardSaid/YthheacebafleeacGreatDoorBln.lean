/- The contract of the model's Blend. -/
import Derived.Test.YthheacebafleeacGreatDoorBlnI
import Derived.Test.YthheacebafleeacGreatDoorDivS
namespace Go.Proofs.YthheacebafleeacGreatDoor
open Go.ChangeShapes Go.WideShapes Go.ChangeAt Go.RowKit Pm



end Go.Proofs.YthheacebafleeacGreatDoor
