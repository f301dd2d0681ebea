/- The contracts of least, greatest and within at int and at byte. -/
import Derived.Test.YtclbpjjnhfllkaaDoorWithin
namespace Go.Proofs.YtclbpjjnhfllkaaDoor
open Go.ChangeShapes Go.WideShapes Go.ChangeAt Go.RowKit Pm



end Go.Proofs.YtclbpjjnhfllkaaDoor
