/- The length of a pattern: the model's and the program's. -/
import Derived.Test.YtgcaipjknpcepabDoorTen
namespace Go.Proofs.YtgcaipjknpcepabDoor
open Go.ChangeShapes Go.WideShapes Go.ChangeAt Go.RowKit Pm
def lenC (ps : List Ph) : Int := if validP ps then 0 else 1
def lenP (ps : List Ph) : Int := if validP ps then sumP ps else 0
end Go.Proofs.YtgcaipjknpcepabDoor
