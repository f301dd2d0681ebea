/- The contract of the model's nearest quotient. -/
import Derived.Test.YthccbipjmheoaaaDiv
namespace Go.Proofs.Ythccbipjmheoaaa
open Go.ChangeShapes Go.WideShapes Go.ChangeAt Go.RowKit Pm


end Go.Proofs.Ythccbipjmheoaaa
