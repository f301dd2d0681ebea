/- Ways from point to point, of the program. -/
import Derived.Test.YthccbipjmheoaaaDoorAre
import Derived.Test.YthccbipjmheoaaaDoorGeoP
namespace Go.Proofs.YthccbipjmheoaaaDoor
open Go.ChangeShapes Go.WideShapes Go.ChangeAt Go.RowKit Pm

/-- Valid coordinates. -/
def Vd (x y : Int) : Prop := 0 ≤ x ∧ x ≤ 200000 ∧ 0 ≤ y ∧ y ≤ 200000
theorem vd_of {x y : Int} (h : inB 0 200000 [x, y] = true) : Vd x y := by
  simp [inB] at h
  unfold Vd; omega
theorem of_vd {x y : Int} (h : Vd x y) : inB 0 200000 [x, y] = true := by
  unfold Vd at h
  simp [inB]
  omega

theorem wayto_any (px py qx qy : Int) (w : World) (hp : Vd px py) (hq : Vd qx qy) :
    Calls Tryd.prog 42 #[.agg #[.int .i64 px, .int .i64 py], .agg #[.int .i64 qx, .int .i64 qy]] w fun e w' => e = .returned (.agg #[.int .i64 (qx - px), .int .i64 (qy - py)]) ∧ Below w.heap.size w w' := by
  obtain ⟨p0, p1, p2, p3⟩ := hp
  obtain ⟨q0, q1, q2, q3⟩ := hq
  go_enter Tryd.func42, Tryd.ntmps42
  go_wp2
  go_returns
  exact ⟨rfl, by go_grown⟩

theorem dot_any (wx wy vx vy : Int) (w : World) (w0 : -200000 ≤ wx) (w1 : wx ≤ 200000) (w2 : -200000 ≤ wy) (w3 : wy ≤ 200000) (v0 : -1000000 ≤ vx) (v1 : vx ≤ 1000000) (v2 : -1000000 ≤ vy) (v3 : vy ≤ 1000000) :
    Calls Tryd.prog 66 #[.agg #[.int .i64 wx, .int .i64 wy], .agg #[.int .i64 vx, .int .i64 vy]] w fun e w' => e = .returned (.int .i64 (wx * vx + wy * vy)) ∧ Below w.heap.size w w' := by
  obtain ⟨a0, a1⟩ := mul_bd w0 w1 v0 v1
  obtain ⟨b0, b1⟩ := mul_bd w2 w3 v2 v3
  go_enter Tryd.func66, Tryd.ntmps66
  go_wp2
  go_ret
  exact ⟨rfl, by go_grown⟩


end Go.Proofs.YthccbipjmheoaaaDoor
