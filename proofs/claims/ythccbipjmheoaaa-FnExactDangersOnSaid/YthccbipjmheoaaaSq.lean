/- Squares of distances, of the program and of the model. -/
import Derived.Test.YthccbipjmheoaaaWay
namespace Go.Proofs.Ythccbipjmheoaaa
open Go.ChangeShapes Go.WideShapes Go.ChangeAt Go.RowKit Pm

theorem sqd_bd {ax ay bx cy : Int} (ha : Vd ax ay) (hb : Vd bx cy) : sqd ax ay bx cy ≤ 80000000000 := by
  obtain ⟨p0, p1, p2, p3⟩ := ha
  obtain ⟨q0, q1, q2, q3⟩ := hb
  have h1 := sq_bd (a := ax - bx) (A := 200000) (by omega) (by omega)
  have h2 := sq_bd (a := ay - cy) (A := 200000) (by omega) (by omega)
  unfold sqd; omega

theorem square_any (wx wy : Int) (w : World) (w0 : -200000 ≤ wx) (w1 : wx ≤ 200000) (w2 : -200000 ≤ wy) (w3 : wy ≤ 200000) :
    Calls Try.prog 118 #[.agg #[.int .i64 wx, .int .i64 wy]] w fun e w' => e = .returned (.int .i64 (wx * wx + wy * wy)) ∧ Below w.heap.size w w' := by
  go_enter Try.func118, Try.ntmps118
  go_wp2_with (go_at_call 117; refine (dot_any _ _ _ _ _ w0 w1 w2 w3 (by omega) (by omega) (by omega) (by omega)).mono ?_; rintro e w1 ⟨rfl, hb⟩; have ac := Below.next (a := w) (by go_grown) hb; clear hb)
  go_ret
  exact ⟨rfl, by go_grown⟩
theorem ssquare_any (ax ay bx cy : Int) (w : World) (ha : Vd ax ay) (hb : Vd bx cy) :
    Calls Try.prog 98 #[.agg #[.int .i64 ax, .int .i64 ay], .agg #[.int .i64 bx, .int .i64 cy]] w fun e w' => e = .returned (.int .i64 (sqd ax ay bx cy)) ∧ Below w.heap.size w w' := by
  have hs := sqd_bd ha hb
  have hn1 := sq_nn (ax - bx)
  have hn2 := sq_nn (ay - cy)
  have he : (ax - bx) * (ax - bx) + (ay - cy) * (ay - cy) = sqd ax ay bx cy := rfl
  obtain ⟨p0, p1, p2, p3⟩ := ha
  obtain ⟨q0, q1, q2, q3⟩ := hb
  have HE := Lib.hid he
  rw [← he] at hs
  clear he
  generalize sqd ax ay bx cy = s at *
  go_enter Try.func98, Try.ntmps98
  go_wp2
  go_ret
  exact ⟨ret_i HE.out, by go_grown⟩

end Go.Proofs.Ythccbipjmheoaaa
