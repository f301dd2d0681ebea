/- Squares of distances, of the model alone. -/
import Derived.Test.YtochniaofmeheaaDoorWay
namespace Go.Proofs.YtochniaofmeheaaDoor
open Go.ChangeShapes Go.WideShapes Go.ChangeAt Go.RowKit Pm

theorem sqd_bd {ax ay bx cy : Int} (ha : Vd ax ay) (hb : Vd bx cy) : sqd ax ay bx cy ≤ 80000000000 := by
  obtain ⟨p0, p1, p2, p3⟩ := ha
  obtain ⟨q0, q1, q2, q3⟩ := hb
  have h1 := sq_bd (a := ax - bx) (A := 200000) (by omega) (by omega)
  have h2 := sq_bd (a := ay - cy) (A := 200000) (by omega) (by omega)
  unfold sqd; omega

theorem ssquare_any (ax ay bx cy : Int) (w : World) (ha : Vd ax ay) (hb : Vd bx cy) :
    Calls Tryd.prog 51 #[.agg #[.int .i64 ax, .int .i64 ay], .agg #[.int .i64 bx, .int .i64 cy]] w fun e w' => e = .returned (.int .i64 (sqd ax ay bx cy)) ∧ Below w.heap.size w w' := by
  have hs := sqd_bd ha hb
  have hn1 := sq_nn (ax - bx)
  have hn2 := sq_nn (ay - cy)
  have he : (ax - bx) * (ax - bx) + (ay - cy) * (ay - cy) = sqd ax ay bx cy := rfl
  obtain ⟨p0, p1, p2, p3⟩ := ha
  obtain ⟨q0, q1, q2, q3⟩ := hb
  have HE := Lib.hid he
  rw [← he] at hs
  clear he
  generalize sqd ax ay bx cy = s at *
  go_enter Tryd.func51, Tryd.ntmps51
  go_wp2
  go_ret
  exact ⟨ret_i HE.out, by go_grown⟩

end Go.Proofs.YtochniaofmeheaaDoor
