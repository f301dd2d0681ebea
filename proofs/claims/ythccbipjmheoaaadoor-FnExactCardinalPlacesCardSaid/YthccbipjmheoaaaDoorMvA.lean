/- Moves, of the model. -/
import Derived.Test.YthccbipjmheoaaaDoorMvS
namespace Go.Proofs.YthccbipjmheoaaaDoor
open Go.ChangeShapes Go.WideShapes Go.ChangeAt Go.RowKit Pm

theorem frozen_below {w w' : World} {a : Addr} (h : w.frozen? a = false) (hl : a.block < w.heap.size) (hb : Below w.heap.size w w') : w'.frozen? a = false := by
  rw [hb.frozen hl]; exact h

end Go.Proofs.YthccbipjmheoaaaDoor
