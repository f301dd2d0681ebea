/- Squares of distances, of the program and of the model. -/
import Derived.Test.YthccbipjmheoaaaDoorWay
namespace Go.Proofs.YthccbipjmheoaaaDoor
open Go.ChangeShapes Go.WideShapes Go.ChangeAt Go.RowKit Pm

theorem sqd_bd {ax ay bx cy : Int} (ha : Vd ax ay) (hb : Vd bx cy) : sqd ax ay bx cy ≤ 80000000000 := by
  obtain ⟨p0, p1, p2, p3⟩ := ha
  obtain ⟨q0, q1, q2, q3⟩ := hb
  have h1 := sq_bd (a := ax - bx) (A := 200000) (by omega) (by omega)
  have h2 := sq_bd (a := ay - cy) (A := 200000) (by omega) (by omega)
  unfold sqd; omega


end Go.Proofs.YthccbipjmheoaaaDoor
