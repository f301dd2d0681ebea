/- The law of the text of a list. -/
import Derived.Test.YthggoboljkdldabDoorListI
import Derived.Test.YthggoboljkdldabDoorArgI
namespace Go.Proofs.YthggoboljkdldabDoor
open Go.ChangeShapes Go.WideShapes Go.ChangeAt Go.RowKit Pm

end Go.Proofs.YthggoboljkdldabDoor
