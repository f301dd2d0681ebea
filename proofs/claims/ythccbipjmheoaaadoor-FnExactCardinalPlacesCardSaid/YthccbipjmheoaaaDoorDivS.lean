/- The contract of the model's nearest quotient. -/
import Derived.Test.YthccbipjmheoaaaDoorDiv
namespace Go.Proofs.YthccbipjmheoaaaDoor
open Go.ChangeShapes Go.WideShapes Go.ChangeAt Go.RowKit Pm


end Go.Proofs.YthccbipjmheoaaaDoor
