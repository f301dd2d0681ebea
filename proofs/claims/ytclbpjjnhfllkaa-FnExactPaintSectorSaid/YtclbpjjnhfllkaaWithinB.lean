/- The contracts of least, greatest and within at int and at byte. -/
import Derived.Test.YtclbpjjnhfllkaaWithin
namespace Go.Proofs.Ytclbpjjnhfllkaa
open Go.ChangeShapes Go.WideShapes Go.ChangeAt Go.RowKit Pm



end Go.Proofs.Ytclbpjjnhfllkaa
