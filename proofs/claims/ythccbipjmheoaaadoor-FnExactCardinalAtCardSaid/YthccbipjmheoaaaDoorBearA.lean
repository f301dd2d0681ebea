/- The law of Bearing. -/
import Derived.Test.YthccbipjmheoaaaDoorBearS
import Derived.Deep.RegionHeld3
namespace Go.Proofs.YthccbipjmheoaaaDoor
open Go.ChangeShapes Go.WideShapes Go.ChangeAt Go.RowKit Pm

end Go.Proofs.YthccbipjmheoaaaDoor
